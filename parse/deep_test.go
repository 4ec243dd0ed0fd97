package parse_test

import (
	"strings"
	"testing"

	"vigil/api"
	"vigil/parse"
)

// openers are ways to go deeper in an expression: what stands ahead, what behind, and how many levels these are.
var openers = []struct {
	ahead, behind string
	levels        int
}{
	{"(", ")", 1}, {"!", "", 1}, {"-", "", 1}, {"2 *", "", 1},
	{"!(", ")", 2}, {"-(", ")", 2}, {"2 * (", ")", 2}, {"2 * -", "", 2}, {"1 + (", ")", 1}, {"1 - (", "- 1)", 1}, {"(a.x && !", ")", 2}, {"(1 == -", ")", 2}, {"(!", "|| a.x)", 2}, {"-3 * (2 - ", ")", 3},
}

// TestDeepExprs: P4.2, ErrDeep, of all pairs of ways to open: as deep as it may be, and more.
func TestDeepExprs(t *testing.T) {
	t.Parallel()
	o := newOracle("expr")
	for _, way := range openers {
		times, left := api.MaxDepth/way.levels, api.MaxDepth%way.levels
		begin := strings.Repeat("(", left) + strings.Repeat(way.ahead, times)
		end := strings.Repeat(way.behind, times) + strings.Repeat(")", left)
		o.check(t, begin+"1"+end)
		if _, err, _ := parse.Expr(begin + "(1)" + end); err != api.ErrDeep && !strings.HasSuffix(begin, "!") {
			t.Errorf("%q: error %d", way.ahead, err)
		}
		for _, last := range openers {
			inner := last.ahead + "1" + last.behind
			for _, s := range []string{inner, "1 + " + inner, "1 == " + inner, "1 && " + inner, "1 " + inner, "a.x " + inner} {
				o.check(t, begin+s+end)
				o.check(t, begin[:len(begin)-1]+s+end)
			}
			o.check(t, begin+"1"+end+" && "+inner+" || "+begin+"1"+end)
			o.check(t, begin+"1"+end+" - "+inner)
		}
	}
}

// TestDeepPlaces: P4.2, ErrDeep at the token with which too many are open, and not at others.
func TestDeepPlaces(t *testing.T) {
	n := api.MaxDepth
	if n != 64 {
		t.Fatal(n)
	}
	parens, nots, minus, products := strings.Repeat("(", n), strings.Repeat("!", n), strings.Repeat("-", n), strings.Repeat("1*", n)
	for _, s := range []string{
		parens + "@(", parens + "@(1", parens + "@!", parens + "@-", parens + "1@*", parens + "1@*2", parens + "1 + @(", parens + "1 + 2@*", parens + "1 - @-", parens + "a.x && @!",
		nots + "@!", nots + "@(", nots + "@-1", nots + "1@*", nots + "a.x == @-", nots + "1 == 2@*", nots + "1 + @(",
		minus + "@-", minus + "@(", minus + "1@*", products + "@-", products + "@(", products + "1@*", products + "1 - " + products + "1@*",
		parens[1:] + "!1 && !@!", parens[1:] + "-1 + -@-", parens[1:] + "2*3 + 2*3@*", parens[2:] + "!-1 == -2@*",
	} {
		wantExprError(t, s, api.ErrDeep)
	}
	// What is closed is open no more; signs between two are no levels; what may not stand there opens nothing.
	for _, s := range []string{
		parens + "1@", parens + "1) + (2@", parens + "1 == 2 && 3 - 4@", parens + "1 + @+", parens + "1 == @!", parens + "1 @(", parens + "1 @!", parens + "a.x @*", parens + "@)",
		nots + "1 && " + nots + "2 @)", nots + "1 && @)", minus + "@!", minus + "1 @(", minus + "1 - " + minus + "2 @=", products + "@*", products + "@!", products + "a.x - " + products + "a.x @*",
	} {
		wantExprError(t, s, api.ErrSyntax)
	}
}

// blockWays are statements around a block.
var blockWays = [][2]string{
	{"if true {", "}"}, {"if true { } else {", "}"}, {"while !(-1 < 2 * 3) {", "}"}, {"loop {", "} skip;"}, {"choose {", "}"}, {"choose { } or { } or {", "} or { }"}, {"sync m {", "}"},
}

// TestDeepBlocks: P4.2, ErrDeep of blocks, in threads and in methods, and of expressions in them.
func TestDeepBlocks(t *testing.T) {
	t.Parallel()
	o := newOracle("program")
	for _, whole := range []struct {
		ahead, behind string
		levels        int
	}{{"thread t 1 {", "}", 1}, {"monitor m { var x : -1..1 = -0; method f {", "} }", 2}} {
		for _, way := range blockWays {
			times := api.MaxDepth - whole.levels
			begin := whole.ahead + strings.Repeat(way[0], times)
			end := strings.Repeat(way[1], times) + whole.behind
			if !strings.Contains(way[0], "while") { // its signs are levels beside its block
				wantOK(t, begin+end)
				wantOK(t, begin+"a.b = 1 - 1; wait a;"+end)
			}
			o.check(t, begin+end)
			for _, other := range blockWays {
				o.check(t, begin+other[0]+other[1]+end)
			}
			shorter := whole.ahead + strings.Repeat(way[0], times-3)
			for deep := range 5 {
				for _, open := range openers {
					o.check(t, shorter+"a.b = "+strings.Repeat(open.ahead, deep)+"1")
					o.check(t, shorter+"if "+strings.Repeat(open.ahead, deep)+"1"+strings.Repeat(open.behind, deep)+" {")
				}
			}
		}
	}
	loops := strings.Repeat("loop {", api.MaxDepth-1)
	wantError(t, "thread t 1 {"+loops+"loop @{", api.ErrDeep)
	wantError(t, "thread t 1 {"+loops+"if true @{", api.ErrDeep)
	wantError(t, "thread t 1 {"+loops+"a.b = @(", api.ErrDeep)
	wantError(t, "thread t 1 {"+loops+"while @!a.b { }", api.ErrDeep)
	wantError(t, "thread t 1 {"+loops+"a.b = 1@*2", api.ErrDeep)
	wantError(t, "thread t 1 {"+loops+"@{", api.ErrSyntax)
	wantError(t, "thread t 1 {"+loops+"loop @(", api.ErrSyntax)
	wantError(t, "thread t 1 {"+loops[6:]+"if !a.b && !a.c { skip; } else { a.b = 1 - 1; } loop { } @)", api.ErrSyntax)
	wantError(t, "thread t 1 {"+loops[6:]+"choose { } or { } or { loop @{", api.ErrDeep)
	wantError(t, "monitor M { method f {"+loops[6:]+"loop @{", api.ErrDeep)
}

// TestFirst: P4.2, of several errors the one at the first token.
func TestFirst(t *testing.T) {
	deep := strings.Repeat("(", api.MaxDepth)
	wantError(t, "thread t 1 { a.b = "+deep[1:]+"@( ) 1 thread ", api.ErrDeep)
	wantError(t, "thread t 1 { a.b = "+deep[1:]+"@) ( (", api.ErrSyntax)
	wantError(t, strings.Repeat("monitor M { } ", api.MaxMons)+"@monitor { "+deep+deep, api.ErrMany)
	wantError(t, strings.Repeat("monitor M { } ", api.MaxMons)+"@x monitor M", api.ErrSyntax)
	wantError(t, "monitor M { var n : 3..@1 = "+deep+deep, api.ErrSyntax)
	wantError(t, "thread t 1 { wait M @0 0 "+deep+deep, api.ErrSyntax)
}

// TestLong: texts as long as they may be: sums, and statements one behind the other.
func TestLong(t *testing.T) {
	sum := "1" + strings.Repeat("+1", (api.MaxText-1)/2)
	e, err, _ := parse.Expr(sum)
	n := 0
	for ; err == api.OK && e.Op == api.OpAdd; e = e.Kids[0] {
		n++
	}
	if n != (api.MaxText-1)/2 || e.Op != api.OpNum {
		t.Error(n, err)
	}
	for _, piece := range []string{"skip;", "a.b=1;", "loop{}", "wait a 1;"} {
		count := (api.MaxText - 11) / len(piece)
		p, err, _ := parse.Parse("thread t*{" + strings.Repeat(piece, count) + "}")
		if err != api.OK || len(p.Roles[0].Body) != count {
			t.Error(piece, err)
		}
	}
	for _, piece := range []string{"(", "!", "-", "{", "1*", "loop{", "thread t*{", "monitor M{", "1+", "1==", "or ", "if "} {
		s := strings.Repeat(piece, api.MaxText/len(piece))
		newOracle("program").check(t, s)
		newOracle("expr").check(t, s[:2000])
		newOracle("program").check(t, "thread t 1 { a.b = "+s[:2000])
	}
}
