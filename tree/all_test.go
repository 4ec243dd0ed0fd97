package tree_test

import (
	"strings"
	"testing"

	"vigil/api"
	"vigil/tree"
)

// The shapes once more, as the chapter writes them: each kind with the fields that it names. A field that is not named is its zero value.

const exprFields = `
1 N
2
3
4 Mon Name
5 kids1
6 kids1
7 N kids1
8 kids2
9 kids2
10 kids2
11 kids2
12 kids2
13 kids2
14 kids2
15 kids2
16 kids2
17 kids2
`

const stmtFields = `
1
2 Mon Name E
3 E blocks1 blocks2
4 E blocks1
5 blocks1
6 blocks1 blocks2 blocks3 blocks4 blocks5 blocks6 blocks7 blocks8
7 Mon blocks1
8 Mon Name
9 Mon N
10 Mon
11 Mon
`

// fields tells what a table names of each kind.
func fields(table string) map[int]map[string]bool {
	kinds := map[int]map[string]bool{}
	for line := range strings.Lines(strings.TrimSpace(table)) {
		named := map[string]bool{}
		words := strings.Fields(line)
		for _, w := range words[1:] {
			named[w] = true
		}
		kind := 0
		for _, c := range words[0] {
			kind = kind*10 + int(c-'0')
		}
		kinds[kind] = named
	}
	return kinds
}

func fitsText(named bool, s string) bool {
	if named {
		return s == "m" || s == "x"
	}
	return s == ""
}

func fitsLen(named map[string]bool, what string, n int) bool {
	if named[what+string(rune('0'+n))] {
		return true
	}
	for i := range 10 {
		if named[what+string(rune('0'+i))] {
			return false
		}
	}
	return n == 0
}

var texts = []string{"", "m", "x", "if", "7"}

// TestAllExprs: P2.1, of every Op with every choice of the other fields.
func TestAllExprs(t *testing.T) {
	shapes := fields(exprFields)
	good := 0
	for op := -1; op <= 18; op++ {
		for _, mon := range texts {
			for _, name := range texts {
				for n := int64(-1); n <= 1; n++ {
					for kids := range 4 {
						e := api.Expr{Op: op, Mon: mon, Name: name, N: n, Kids: exprs()[:kids]}
						named, known := shapes[op]
						ok := known && fitsText(named["Mon"], mon) && fitsText(named["Name"], name) &&
							(n == 0 || named["N"] && n > 0) && fitsLen(named, "kids", kids)
						if (tree.CheckExpr(e) == api.OK) != ok {
							t.Errorf("%+v: want %v", e, ok)
						}
						if (tree.CheckExpr(of(api.OpAnd, e, e)) == api.OK) != ok {
							t.Errorf("a part %+v: want %v", e, ok)
						}
						if ok {
							good++
						}
					}
				}
			}
		}
	}
	if good != 2+1+1+4+1+1+2+10 {
		t.Error(good)
	}
}

// TestAllStmts: P2.2, of every Kind with every choice of the other fields.
func TestAllStmts(t *testing.T) {
	shapes := fields(stmtFields)
	parts := []api.Expr{{}, {At: 1}, number(1), variable("m", "x"), number(-1), {N: 1}}
	right := []bool{false, false, true, true, false, false}
	good := 0
	for kind := -1; kind <= 12; kind++ {
		for _, mon := range texts {
			for _, name := range texts {
				for n := int64(-1); n <= 1; n++ {
					for i, e := range parts {
						for blocks := range 10 {
							s := api.Stmt{Kind: kind, Mon: mon, Name: name, N: n, E: e, Blocks: make([][]api.Stmt, blocks)}
							named, known := shapes[kind]
							ok := known && fitsText(named["Mon"], mon) && fitsText(named["Name"], name) &&
								(n == 0 || named["N"] && n > 0) && fitsLen(named, "blocks", blocks) &&
								(named["E"] && right[i] || !named["E"] && i < 2)
							if (tree.Check(role(s)) == api.OK) != ok {
								t.Errorf("%+v: want %v", s, ok)
							}
							if ok {
								good++
							}
						}
					}
				}
			}
		}
	}
	if good != 2+4*2+2*2+2+2+8*2+2*2+4*2+2*2*2+2*2+2*2 {
		t.Error(good)
	}
}
