package parse_test

import (
	"reflect"
	"slices"
	"strings"
	"testing"

	"vigil/api"
	"vigil/lex"
	"vigil/parse"
	"vigil/print"
	"vigil/tree"
)

// wantProgram: the tree, and, if they are asked for, its places.
func wantProgram(t *testing.T, s string, want api.Program, placed bool) {
	t.Helper()
	p, err, at := parse.Parse(s)
	if err != api.OK || at != 0 {
		t.Fatalf("%.300q: error %d at %d", s, err, at)
	}
	if !tree.Same(p, want) || placed && !slices.Equal(places(p), places(want)) {
		t.Fatalf("%.300q:\n%+v\nwant\n%+v", s, p, want)
	}
	if tree.Check(p) != api.OK {
		t.Fatalf("%.300q: of no right shape: %+v", s, p)
	}
}

func wantExpr(t *testing.T, s string, want api.Expr, placed bool) {
	t.Helper()
	e, err, at := parse.Expr(s)
	if err != api.OK || at != 0 {
		t.Fatalf("%.300q: error %d at %d", s, err, at)
	}
	if !tree.SameExpr(e, want) || placed && !slices.Equal(places(e), places(want)) {
		t.Fatalf("%.300q:\n%+v\nwant\n%+v", s, e, want)
	}
	if tree.CheckExpr(e) != api.OK {
		t.Fatalf("%.300q: of no right shape: %+v", s, e)
	}
}

// TestWritten: P4.3 and P4.4: trees that are written in some way are read, with their places.
func TestWritten(t *testing.T) {
	for seed := range uint64(3000) {
		w := &writer{chance: newChance(seed)}
		e := w.expr(w.chance.expr(4), 1)
		wantExpr(t, w.String(), e, true)
		w.Reset()
		p := w.program(w.chance.program())
		if w.Len() <= api.MaxText {
			wantProgram(t, w.String(), p, true)
		}
	}
}

// checkFollows: P4.5 and P4.6, of a text.
func checkFollows(t *testing.T, s string) {
	t.Helper()
	p, err, at := parse.Parse(s)
	if err == api.OK {
		checkBack(t, p)
	}
	tokens, scanned, _ := lex.Scan(s)
	if scanned != api.OK {
		return
	}
	for _, gap := range []string{" ", "\n\t", " # x { ( \"\n"} {
		var moved strings.Builder
		var ats []int
		for _, x := range tokens {
			moved.WriteString(gap)
			ats = append(ats, moved.Len())
			moved.WriteString(x.Text)
		}
		if moved.Len() > api.MaxText {
			continue
		}
		q, again, place := parse.Parse(moved.String())
		if again != err || !tree.Same(p, q) {
			t.Fatalf("%.300q: error %d, with other gaps %d", s, err, again)
		}
		newAt := func(at int) int {
			i := slices.IndexFunc(tokens, func(x api.Token) bool { return x.At == at })
			return ats[i]
		}
		if err != api.OK && place != newAt(at) {
			t.Fatalf("%.300q: at %d, with other gaps at %d", s, at, place)
		}
		if err == api.OK && !slices.EqualFunc(places(q), places(p), func(a, b int) bool { return a == b || a == newAt(b) }) {
			t.Fatalf("%.300q: other places", s)
		}
	}
}

// checkBack: P4.5 of a program: it is printed, if that is not too long, and read again; as much is open as Nest tells.
func checkBack(t *testing.T, p api.Program) {
	t.Helper()
	text, err := print.Text(p)
	if err == api.ErrLong {
		return
	}
	if err != api.OK {
		t.Fatalf("error %d of %+v", err, p)
	}
	wantProgram(t, text, p, false)
	checkOpen(t, text, print.Nest(p))
}

// checkOpen: how much the oracle, which Parse is held against, finds to be open.
func checkOpen(t *testing.T, text string, want int) {
	t.Helper()
	tokens, _, _ := lex.Scan(text)
	err, _, open := newOracle("program").errorIn(tokens)
	if err != api.OK || open != want {
		t.Fatalf("%.300q: error %d, %d open, nest %d", text, err, open, want)
	}
}

// TestBack: P4.5 and P4.6.
func TestBack(t *testing.T) {
	for _, s := range samples() {
		checkFollows(t, s)
		for i := range s {
			checkFollows(t, s[:i])
		}
	}
	for seed := range uint64(1500) {
		checkBack(t, newChance(seed).program())
	}
	for seed := range uint64(5000) {
		e := newChance(seed).expr(5)
		if text, err := print.Expr(e); err == api.OK {
			wantExpr(t, text, e, false)
		}
	}
}

// nested is a program, and what is in its loops: an expression.
func nested(loops int, e api.Expr) api.Program {
	body := []api.Stmt{{Kind: api.StSet, Mon: "m", Name: "x", E: e}}
	for range loops {
		body = []api.Stmt{{Kind: api.StLoop, Blocks: [][]api.Stmt{body}}}
	}
	return api.Program{Roles: []api.Role{{Name: "r", Count: 1, Body: body}}}
}

// TestSameNest: P4.5: what is as deep as it may be is read, and with one level more it isn't, whether these are parentheses or blocks around an expression.
func TestSameNest(t *testing.T) {
	for seed := range uint64(500) {
		e := newChance(seed).expr(5)
		text, err := print.Expr(e)
		if err != api.OK {
			continue
		}
		left := api.MaxDepth - print.NestExpr(e)
		wantExpr(t, strings.Repeat("(", left)+text+strings.Repeat(")", left), e, false)
		if _, err, _ := parse.Expr(strings.Repeat("(", left+1) + text + strings.Repeat(")", left+1)); err != api.ErrDeep {
			t.Fatalf("%q in %d: error %d", text, left+1, err)
		}
		p := nested(left-1, e)
		text, err = print.Text(p)
		if err != api.OK {
			t.Fatal(err)
		}
		wantProgram(t, text, p, false)
		deeper := strings.Replace(text, "m.x =", "loop { m.x =", 1) + "}"
		if _, err, _ := parse.Parse(deeper); err != api.ErrDeep || print.Nest(nested(left, e)) != api.MaxDepth+1 {
			t.Fatalf("%q: error %d", deeper, err)
		}
	}
}

// ranges are the memory of all lists in a tree, their spare room too.
func ranges(v reflect.Value, out map[uintptr]uintptr) {
	switch v.Kind() {
	case reflect.Struct:
		for i := range v.NumField() {
			ranges(v.Field(i), out)
		}
	case reflect.Slice:
		if v.Cap() > 0 {
			from := v.Pointer()
			out[from] = max(out[from], from+uintptr(v.Cap())*v.Type().Elem().Size())
		}
		for i := range v.Len() {
			ranges(v.Index(i), out)
		}
	}
}

// countLists is how many lists with room there are in a tree.
func countLists(v reflect.Value) int {
	n := 0
	switch v.Kind() {
	case reflect.Struct:
		for i := range v.NumField() {
			n += countLists(v.Field(i))
		}
	case reflect.Slice:
		if v.Cap() > 0 {
			n++
		}
		for i := range v.Len() {
			n += countLists(v.Index(i))
		}
	}
	return n
}

// TestOwnMemory: no two lists of what is answered share memory, and no two answers do.
func TestOwnMemory(t *testing.T) {
	for _, s := range samples() {
		p, _, _ := parse.Parse(s)
		q, _, _ := parse.Parse(s)
		both := reflect.ValueOf([]api.Program{p, q})
		all := map[uintptr]uintptr{}
		ranges(both, all)
		if len(all) != countLists(both) {
			t.Errorf("%.80q: lists begin at one place", s)
		}
		var froms []uintptr
		for from := range all {
			froms = append(froms, from)
		}
		slices.Sort(froms)
		for i := 1; i < len(froms); i++ {
			if all[froms[i-1]] > froms[i] {
				t.Errorf("%.80q: lists share memory", s)
			}
		}
	}
}
