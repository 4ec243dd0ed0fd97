package gram_test

import (
	"fmt"
	"reflect"
	"slices"
	"strings"
	"testing"

	"vigil/api"
	"vigil/gram"
)

// TestExamples: the chapter's.
func TestExamples(t *testing.T) {
	wantExpr(t, "(a.x)", variable("a", "x"), true)
	wantExpr(t, "a.x + a.y", variable("a", "x"), false)
}

// TestExprOrdinary: P5.1, of each Op: its own tokens, with and without parentheses, and no others.
func TestExprOrdinary(t *testing.T) {
	x, y := variable("a", "x"), variable("b", "y")
	all := []struct {
		s string
		e api.Expr
	}{
		{"7", number(7)}, {"true", of(api.OpTrue)}, {"false", of(api.OpFalse)}, {"a.x", x},
		{"!a.x", of(api.OpNot, x)}, {"-a.x", of(api.OpNeg, x)}, {"7*a.x", times(7, x)},
		{"a.x + b.y", of(api.OpAdd, x, y)}, {"a.x - b.y", of(api.OpSub, x, y)},
		{"a.x == b.y", of(api.OpEq, x, y)}, {"a.x != b.y", of(api.OpNe, x, y)},
		{"a.x < b.y", of(api.OpLt, x, y)}, {"a.x <= b.y", of(api.OpLe, x, y)},
		{"a.x > b.y", of(api.OpGt, x, y)}, {"a.x >= b.y", of(api.OpGe, x, y)},
		{"a.x && b.y", of(api.OpAnd, x, y)}, {"a.x || b.y", of(api.OpOr, x, y)},
	}
	if len(all) != api.OpOr {
		t.Fatal(len(all))
	}
	for i, text := range all {
		for j, tree := range all {
			for _, form := range []string{"%s", "(%s)", "((%s))"} {
				wantExpr(t, fmt.Sprintf(form, text.s), tree.e, i == j)
			}
			for _, form := range []string{"(%s", "%s)", "(%s))", "((%s)", ")%s(", "%s()", "()%s", "(()%s)", "%s %[1]s", "%s;", "{%s}", "(%s)()"} {
				wantExpr(t, fmt.Sprintf(form, text.s), tree.e, false)
			}
		}
	}
}

// TestExprParts: P5.1: a kid stands in parentheses where its level asks for them, and may wherever it is.
func TestExprParts(t *testing.T) {
	a, b, c := variable("m", "a"), variable("m", "b"), variable("m", "c")
	signs := map[int]string{api.OpAdd: "+", api.OpSub: "-", api.OpEq: "==", api.OpNe: "!=", api.OpLt: "<", api.OpLe: "<=", api.OpGt: ">", api.OpGe: ">=", api.OpAnd: "&&", api.OpOr: "||"}
	for op, sign := range signs {
		for inner, within := range signs {
			left := of(op, of(inner, a, b), c)
			right := of(op, a, of(inner, b, c))
			bare := "m.a " + within + " m.b " + sign + " m.c"
			wantExpr(t, "(m.a "+within+" m.b) "+sign+" m.c", left, true)
			wantExpr(t, "(m.a "+within+" m.b) "+sign+" m.c", right, false)
			wantExpr(t, bare, left, bindsLeft(inner, op))
			bare = "m.a " + sign + " m.b " + within + " m.c"
			wantExpr(t, "m.a "+sign+" (m.b "+within+" m.c)", right, true)
			wantExpr(t, "m.a "+sign+" (m.b "+within+" m.c)", left, false)
			wantExpr(t, bare, right, rank(inner) > rank(op))
		}
	}
}

// rank is how closely an Op binds.
func rank(op int) int {
	switch {
	case op == api.OpOr:
		return 1
	case op == api.OpAnd:
		return 2
	case op >= api.OpEq:
		return 3
	}
	return 4
}

// bindsLeft tells whether the first of two operators may be in the second one's first kid, without parentheses: comparisons don't follow each other.
func bindsLeft(first, second int) bool {
	return rank(first) > rank(second) || rank(first) == rank(second) && rank(first) != 3
}

// TestExprEdges: P5.1: where levels meet.
func TestExprEdges(t *testing.T) {
	one, yes := number(1), of(api.OpTrue)
	cases := []struct {
		s    string
		e    api.Expr
		want bool
	}{
		{"1 * 1 * 1", times(1, times(1, one)), true},
		{"1 * (1 * 1)", times(1, times(1, one)), true},
		{"(1 * 1) * 1", times(1, times(1, one)), false},
		{"(1) * 1", times(1, one), false},
		{"1 * (1)", times(1, one), true},
		{"1 * -1", times(1, of(api.OpNeg, one)), true},
		{"-1 * 1", of(api.OpNeg, times(1, one)), true},
		{"(-1) * 1", of(api.OpNeg, times(1, one)), false},
		{"-(1 * 1)", of(api.OpNeg, times(1, one)), true},
		{"-1", of(api.OpNeg, one), true},
		{"--1", of(api.OpNeg, of(api.OpNeg, one)), true},
		{"-(1)", of(api.OpNeg, one), true},
		{"1 - -1", of(api.OpSub, one, of(api.OpNeg, one)), true},
		{"1 - 1", of(api.OpSub, one, of(api.OpNeg, one)), false},
		{"-1 + 1", of(api.OpAdd, of(api.OpNeg, one), one), true},
		{"-1 + 1", of(api.OpNeg, of(api.OpAdd, one, one)), false},
		{"-(1 + 1)", of(api.OpNeg, of(api.OpAdd, one, one)), true},
		{"1 * 1 + 1", of(api.OpAdd, times(1, one), one), true},
		{"1 * 1 + 1", times(1, of(api.OpAdd, one, one)), false},
		{"1 * (1 + 1)", times(1, of(api.OpAdd, one, one)), true},
		{"!true == true", of(api.OpNot, of(api.OpEq, yes, yes)), true},
		{"!true == true", of(api.OpEq, of(api.OpNot, yes), yes), false},
		{"(!true) == true", of(api.OpEq, of(api.OpNot, yes), yes), true},
		{"true == !true", of(api.OpEq, yes, of(api.OpNot, yes)), false},
		{"true == (!true)", of(api.OpEq, yes, of(api.OpNot, yes)), true},
		{"!true && true", of(api.OpAnd, of(api.OpNot, yes), yes), true},
		{"!true && true", of(api.OpNot, of(api.OpAnd, yes, yes)), false},
		{"!!true", of(api.OpNot, of(api.OpNot, yes)), true},
		{"!(!true)", of(api.OpNot, of(api.OpNot, yes)), true},
		{"-!true", of(api.OpNeg, of(api.OpNot, yes)), false},
		{"-(!true)", of(api.OpNeg, of(api.OpNot, yes)), true},
		{"!-1", of(api.OpNot, of(api.OpNeg, one)), true},
		{"1 * !true", times(1, of(api.OpNot, yes)), false},
		{"1 + !true", of(api.OpAdd, one, of(api.OpNot, yes)), false},
		{"true && !true", of(api.OpAnd, yes, of(api.OpNot, yes)), true},
		{"((1) + 1) + 1", of(api.OpAdd, of(api.OpAdd, one, one), one), true},
		{"(((1) + 1) + 1)", of(api.OpAdd, of(api.OpAdd, one, one), one), true},
		{"((1 + 1 + 1))", of(api.OpAdd, of(api.OpAdd, one, one), one), true},
		{"1 + (1 + 1)", of(api.OpAdd, of(api.OpAdd, one, one), one), false},
		{"((1) + (1 + 1))", of(api.OpAdd, one, of(api.OpAdd, one, one)), true},
		{"(1) + (1)", of(api.OpAdd, one, one), true},
		{"((1) + (1)", of(api.OpAdd, one, one), false},
		{"(1 +) 1", of(api.OpAdd, one, one), false},
		{"(m.)x", variable("m", "x"), false},
		{"m", variable("m", "m"), false},
		{"x.m", variable("m", "x"), false},
		{"0", number(0), true},
		{"9223372036854775807", number(most), true},
		{"1 = 1", of(api.OpEq, one, one), false},
	}
	for _, c := range cases {
		wantExpr(t, c.s, c.e, c.want)
	}
}

// TestEnd: P5.1 and P5.2: the last token, and no other, is an end.
func TestEnd(t *testing.T) {
	end := api.Token{Kind: api.TkEnd}
	one := api.Token{Kind: api.TkNum, N: 1}
	lists := [][]api.Token{nil, {}, {one}, {end}, {end, one}, {end, one, end}, {one, end, end}, {one, end, one}, {one, end}}
	for i, l := range lists {
		if got := gram.DerivesExpr(l, number(1)); got != (i == len(lists)-1) {
			t.Errorf("%+v: %v", l, got)
		}
		if got := gram.Derives(l, api.Program{}); got != (i == 3) {
			t.Errorf("%+v, as a program: %v", l, got)
		}
	}
	l := scan(t, samples()[2])
	for i := range l {
		if gram.Derives(l[:i], parsed(t, samples()[2])) {
			t.Errorf("without an end: %d tokens", i)
		}
	}
}

// TestWhatCounts: P5.1 and P5.2: of tokens the Kind, the Text of words, signs and names, the N of numbers; nothing else.
func TestWhatCounts(t *testing.T) {
	for _, s := range samples() {
		p := parsed(t, s)
		l := scan(t, s)
		for i, token := range l {
			change := func(what string, other api.Token, want bool) {
				t.Helper()
				changed := slices.Clone(l)
				changed[i] = other
				if gram.Derives(changed, p) != want {
					t.Errorf("%.80q, token %d %+v: %s", s, i, token, what)
				}
			}
			for kind := -1; kind <= api.TkEnd+1; kind++ {
				other := token
				other.Kind = kind
				change("another Kind", other, kind == token.Kind)
			}
			text, n, at := token, token, token
			text.Text += "x"
			n.N++
			at.At += 7
			change("another Text", text, token.Kind == api.TkNum || token.Kind == api.TkEnd)
			change("another N", n, token.Kind != api.TkNum)
			change("another At", at, true)
		}
	}
}

// ints are all ways of writing an int: with a - ahead of the number or without.
func ints(n int64) [][]api.Token {
	num := api.Token{Kind: api.TkNum, N: n}
	return [][]api.Token{{num}, {{Kind: api.TkSign, Text: "-"}, num}}
}

// comesTo tells whether a number, with a - ahead of it or without, is n, as whole numbers are: of -2^63 there is no other sign.
func comesTo(n, token int64, minus bool) bool {
	if minus {
		return token != lowest && n == -token
	}
	return n == token
}

// TestInts: P5.2: a num is what its token's N is, below 0 too, and an int is that, or with a - ahead of it the number with the other sign.
func TestInts(t *testing.T) {
	head, tail := scan(t, "monitor m { var x : int ="), scan(t, "; }")
	head = head[:len(head)-1]
	numbers := []int64{lowest, -most, 1 - most, -5, -1, 0, 1, 5, most - 1, most}
	for _, n := range numbers {
		for _, token := range numbers {
			for i, written := range ints(token) {
				want := n != lowest && comesTo(n, token, i == 1)
				l := slices.Concat(head, written, tail)
				if gram.Derives(l, declaring(api.Var{Name: "x", Type: api.TyInt, Init: n})) != want {
					t.Errorf("%+v, Init %d: not %v", written, n, want)
				}
				l = slices.Concat(head, ints(0)[1][:1], written, tail)
				if i == 1 && gram.Derives(l, declaring(api.Var{Name: "x", Type: api.TyInt, Init: n})) {
					t.Errorf("two signs: %+v, Init %d", l, n)
				}
			}
		}
	}
}

// TestRangeInts: P5.2: likewise of the three ints of a range, of which the second one is not below the first one.
func TestRangeInts(t *testing.T) {
	head, dots, equals, tail := scan(t, "monitor m { var x :"), scan(t, ".."), scan(t, "="), scan(t, "; }")
	head, dots, equals = head[:len(head)-1], dots[:1], equals[:1]
	numbers := []int64{lowest, -2, 0, 1}
	for _, lo := range numbers {
		for _, hi := range numbers {
			for _, init := range numbers {
				for form := range 8 {
					l := slices.Concat(head, ints(lo)[form&1], dots, ints(hi)[form>>1&1], equals, ints(init)[form>>2], tail)
					for _, v := range []api.Var{{Lo: -2, Hi: 1, Init: 2}, {Lo: -1, Hi: 2}, {Lo: 0, Hi: 0, Init: -2}, {Lo: 1, Hi: -2, Init: 1}, {Lo: lowest, Hi: 1, Init: 1}} {
						v.Name, v.Type = "x", api.TyRange
						want := v.Lo != lowest && v.Lo <= v.Hi && comesTo(v.Lo, lo, form&1 == 1) && comesTo(v.Hi, hi, form>>1&1 == 1) && comesTo(v.Init, init, form>>2 == 1)
						if gram.Derives(l, declaring(v)) != want {
							t.Errorf("%+v, %+v: not %v", l, v, want)
						}
					}
				}
			}
		}
	}
}

// TestNumbersBelow: P5.1 and P5.2: where no int stands, a num below 0 derives nothing: tree.Check takes no tree that has it.
func TestNumbersBelow(t *testing.T) {
	end := api.Token{Kind: api.TkEnd}
	for _, n := range []int64{-1, -5, -most, lowest} {
		below := api.Token{Kind: api.TkNum, N: n}
		minus, star := api.Token{Kind: api.TkSign, Text: "-"}, api.Token{Kind: api.TkSign, Text: "*"}
		for _, l := range [][]api.Token{{below, end}, {minus, below, end}, {below, star, below, end}} {
			for _, e := range []api.Expr{number(n), number(-n), of(api.OpNeg, number(n)), of(api.OpNeg, number(-n)), times(n, number(n)), times(-n, number(-n))} {
				if gram.DerivesExpr(l, e) {
					t.Errorf("%+v derive %+v", l, e)
				}
			}
		}
		for _, s := range []string{"thread r 7 { }", "thread r * { wait m 7; }", "thread r * { m.x = 7; }", "thread r * { m.x = 7 * m.x; }"} {
			l := scan(t, s)
			at := slices.IndexFunc(l, func(token api.Token) bool { return token.Kind == api.TkNum })
			l[at] = below
			for _, other := range []int64{n, -n, 0} {
				set := func(e api.Expr) api.Program { return role(api.Stmt{Kind: api.StSet, Mon: "m", Name: "x", E: e}) }
				for _, p := range []api.Program{
					{Roles: []api.Role{{Name: "r", Count: other}}}, {Roles: []api.Role{{Name: "r", Star: true}}},
					role(api.Stmt{Kind: api.StWait, Mon: "m", N: other}),
					set(number(other)), set(of(api.OpNeg, number(other))), set(times(other, variable("m", "x"))),
				} {
					if gram.Derives(l, p) {
						t.Errorf("%q with %d derives %+v", s, n, p)
					}
				}
			}
		}
	}
}

// TestShapes: P5.1 and P5.2: what is of no right shape has no tokens.
func TestShapes(t *testing.T) {
	x := variable("a", "x")
	for _, e := range []api.Expr{
		{}, {Op: -1}, {Op: api.OpOr + 1},
		{Op: api.OpVar, Mon: "a", Name: "x", N: 1},
		{Op: api.OpVar, Mon: "a", Name: "x", Kids: []api.Expr{x}},
	} {
		wantExpr(t, "a.x", e, false)
	}
	wantExpr(t, "!a.x", api.Expr{Op: api.OpNot, N: 1, Kids: []api.Expr{x}}, false)
	wantExpr(t, "!a.x", api.Expr{Op: api.OpNot, Mon: "a", Kids: []api.Expr{x}}, false)
	wantExpr(t, "!a.x", of(api.OpNot), false)
	wantExpr(t, "a.x && a.x", of(api.OpAnd, x), false)
	wantExpr(t, "a.x && a.x", of(api.OpAnd, x, x, x), false)
	word := []api.Token{{Kind: api.TkName, Text: "if"}, {Kind: api.TkSign, Text: "."}, {Kind: api.TkName, Text: "x"}, {Kind: api.TkEnd}}
	if gram.DerivesExpr(word, variable("if", "x")) {
		t.Error("a name that is a word")
	}
	want(t, "thread r * { }", role(), true)
	want(t, "thread r * { }", api.Program{Roles: []api.Role{{Name: "r", Star: true, Count: 1}}}, false)
	want(t, "thread r * { skip; }", role(api.Stmt{Kind: api.StSkip}), true)
	want(t, "thread r * { skip; }", role(api.Stmt{}), false)
	want(t, "thread r * { skip; }", role(api.Stmt{Kind: api.StSkip, N: 1}), false)
	want(t, "thread r * { skip; }", role(api.Stmt{Kind: api.StSkip, E: number(1)}), false)
	want(t, "thread r * { skip; }", role(api.Stmt{Kind: api.StAll + 1}), false)
	want(t, "thread r * { choose { } }", role(api.Stmt{Kind: api.StChoose, Blocks: make([][]api.Stmt, 1)}), true)
	want(t, "thread r * { choose { } }", role(api.Stmt{Kind: api.StChoose}), false)
	want(t, "monitor m { var x : 1..0 = 0; }", declaring(api.Var{Name: "x", Type: api.TyRange, Lo: 1}), false)
	want(t, "monitor m { var x : int = 0; }", declaring(api.Var{Name: "x", Type: api.TyInt, Hi: 1}), false)
	want(t, "monitor m { var x : bool = true; }", declaring(api.Var{Name: "x", Type: api.TyBool, Init: 2}), false)
	want(t, "monitor m { var x : 0..0 = 0; }", declaring(api.Var{Name: "x", Type: 4}), false)
}

// TestMany: P5.2: as many as there may be, and one more, of which tree.Check takes none.
func TestMany(t *testing.T) {
	repeat := func(s string, n int) string { return strings.Repeat(s, n) }
	for more := range 2 {
		ok := more == 0
		p := api.Program{Mons: slices.Repeat([]api.Monitor{{Name: "m"}}, api.MaxMons+more)}
		want(t, repeat("monitor m { } ", api.MaxMons+more), p, ok)
		p = api.Program{Roles: slices.Repeat([]api.Role{{Name: "r", Count: 2}}, api.MaxRoles+more)}
		want(t, repeat("thread r 2 { } ", api.MaxRoles+more), p, ok)
		p = declaring(slices.Repeat([]api.Var{{Name: "x", Type: api.TyInt}}, api.MaxVars+more)...)
		want(t, "monitor m { "+repeat("var x : int = 0; ", api.MaxVars+more)+"}", p, ok)
		p = api.Program{Mons: []api.Monitor{{Name: "m", Methods: slices.Repeat([]api.Method{{Name: "f"}}, api.MaxMeths+more)}}}
		want(t, "monitor m { "+repeat("method f { } ", api.MaxMeths+more)+"}", p, ok)
		p = role(api.Stmt{Kind: api.StChoose, Blocks: make([][]api.Stmt, api.MaxBranch+more)})
		want(t, "thread r * { choose { } "+repeat("or { } ", api.MaxBranch+more-1)+"}", p, ok)
	}
}

// TestStatements: P5.2, of each Kind: its own tokens, and no others.
func TestStatements(t *testing.T) {
	one := number(1)
	none := []api.Stmt{}
	skip := []api.Stmt{{Kind: api.StSkip}}
	all := []struct {
		s string
		x api.Stmt
	}{
		{"skip;", api.Stmt{Kind: api.StSkip}},
		{"m.x = 1;", api.Stmt{Kind: api.StSet, Mon: "m", Name: "x", E: one}},
		{"x.m = 1;", api.Stmt{Kind: api.StSet, Mon: "x", Name: "m", E: one}},
		{"m.x = 1 + 1;", api.Stmt{Kind: api.StSet, Mon: "m", Name: "x", E: of(api.OpAdd, one, one)}},
		{"if 1 { }", api.Stmt{Kind: api.StIf, E: one, Blocks: [][]api.Stmt{none}}},
		{"if 1 { skip; }", api.Stmt{Kind: api.StIf, E: one, Blocks: [][]api.Stmt{skip}}},
		{"if 1 { } else { }", api.Stmt{Kind: api.StIf, E: one, Blocks: [][]api.Stmt{none, nil}}},
		{"if 1 { skip; } else { }", api.Stmt{Kind: api.StIf, E: one, Blocks: [][]api.Stmt{skip, nil}}},
		{"if 1 { } else { skip; }", api.Stmt{Kind: api.StIf, E: one, Blocks: [][]api.Stmt{none, skip}}},
		{"while 1 { }", api.Stmt{Kind: api.StWhile, E: one, Blocks: [][]api.Stmt{none}}},
		{"while 1 { skip; }", api.Stmt{Kind: api.StWhile, E: one, Blocks: [][]api.Stmt{skip}}},
		{"loop { }", api.Stmt{Kind: api.StLoop, Blocks: [][]api.Stmt{none}}},
		{"loop { skip; skip; }", api.Stmt{Kind: api.StLoop, Blocks: [][]api.Stmt{append(skip[:1:1], skip...)}}},
		{"choose { }", api.Stmt{Kind: api.StChoose, Blocks: [][]api.Stmt{none}}},
		{"choose { skip; } or { }", api.Stmt{Kind: api.StChoose, Blocks: [][]api.Stmt{skip, none}}},
		{"choose { } or { skip; }", api.Stmt{Kind: api.StChoose, Blocks: [][]api.Stmt{none, skip}}},
		{"choose { } or { skip; } or { }", api.Stmt{Kind: api.StChoose, Blocks: [][]api.Stmt{none, skip, none}}},
		{"sync m { }", api.Stmt{Kind: api.StSync, Mon: "m", Blocks: [][]api.Stmt{none}}},
		{"sync x { skip; }", api.Stmt{Kind: api.StSync, Mon: "x", Blocks: [][]api.Stmt{skip}}},
		{"call m.x;", api.Stmt{Kind: api.StCall, Mon: "m", Name: "x"}},
		{"call x.m;", api.Stmt{Kind: api.StCall, Mon: "x", Name: "m"}},
		{"wait m;", api.Stmt{Kind: api.StWait, Mon: "m"}},
		{"wait m 1;", api.Stmt{Kind: api.StWait, Mon: "m", N: 1}},
		{"wait m 9223372036854775807;", api.Stmt{Kind: api.StWait, Mon: "m", N: most}},
		{"wait x;", api.Stmt{Kind: api.StWait, Mon: "x"}},
		{"notify m;", api.Stmt{Kind: api.StNotify, Mon: "m"}},
		{"notifyall m;", api.Stmt{Kind: api.StAll, Mon: "m"}},
	}
	for i, text := range all {
		for j, tree := range all {
			want(t, "thread r * { "+text.s+" }", role(tree.x), i == j)
			want(t, "thread r * { loop { skip; "+text.s+" skip; } }", role(api.Stmt{Kind: api.StLoop, Blocks: [][]api.Stmt{{skip[0], tree.x, skip[0]}}}), i == j)
			want(t, "monitor m { method f { "+text.s+" } }", api.Program{Mons: []api.Monitor{{Name: "m", Methods: []api.Method{{Name: "f", Body: []api.Stmt{tree.x}}}}}}, i == j)
		}
		want(t, "thread r * { "+text.s+" }", role(), false)
		want(t, "thread r * { }", role(text.x), false)
		want(t, "thread r * { "+text.s+" "+text.s+" }", role(text.x), false)
		want(t, "thread r * { "+text.s+"; }", role(text.x), false)
		want(t, "thread r * { ("+text.s+") }", role(text.x), false)
	}
	for _, s := range []string{"wait m 0;", "wait m -1;", "wait m m;", "wait;", "wait m"} {
		want(t, "thread r * { "+s+" }", role(api.Stmt{Kind: api.StWait, Mon: "m"}), false)
	}
}

// TestVariables: P5.2, of each Type: its own tokens, and no others; 0 stands with a - or without.
func TestVariables(t *testing.T) {
	all := []struct {
		v     api.Var
		forms []string
	}{
		{api.Var{Name: "x", Type: api.TyBool, Init: 0}, []string{"bool = false"}},
		{api.Var{Name: "x", Type: api.TyBool, Init: 1}, []string{"bool = true"}},
		{api.Var{Name: "x", Type: api.TyInt}, []string{"int = 0", "int = -0"}},
		{api.Var{Name: "x", Type: api.TyInt, Init: 1}, []string{"int = 1"}},
		{api.Var{Name: "x", Type: api.TyInt, Init: -1}, []string{"int = -1"}},
		{api.Var{Name: "x", Type: api.TyInt, Init: -most}, []string{"int = -9223372036854775807"}},
		{api.Var{Name: "x", Type: api.TyInt, Init: most}, []string{"int = 9223372036854775807"}},
		{api.Var{Name: "x", Type: api.TyRange}, []string{"0..0 = 0", "-0..0 = 0", "0..-0 = 0", "0..0 = -0", "-0..-0 = -0"}},
		{api.Var{Name: "x", Type: api.TyRange, Lo: -3, Hi: -2, Init: 5}, []string{"-3..-2 = 5"}},
		{api.Var{Name: "x", Type: api.TyRange, Lo: -2, Hi: 2}, []string{"-2..2 = 0", "-2..2 = -0"}},
		{api.Var{Name: "x", Type: api.TyRange, Lo: 1, Hi: 1, Init: -7}, []string{"1..1 = -7"}},
		{api.Var{Name: "x", Type: api.TyRange, Lo: -most, Hi: most, Init: 1}, []string{"-9223372036854775807..9223372036854775807 = 1"}},
	}
	for i, text := range all {
		for j, tree := range all {
			for _, form := range text.forms {
				want(t, "monitor m { var x : "+form+"; }", declaring(tree.v), i == j)
			}
		}
		for _, form := range text.forms {
			for _, wrong := range []string{"var x %s;", "var x : %s", "var y : %s;", "x : %s;", "var : %s;", "var x : --%s;", "var x : (%s);", "var x : %s; ;", "var x : %s = 0;"} {
				want(t, "monitor m { "+fmt.Sprintf(wrong, form)+" }", declaring(text.v), false)
			}
		}
	}
}

// TestPrograms: P5.2: monitors and threads among each other, variables ahead of methods.
func TestPrograms(t *testing.T) {
	x := api.Var{Name: "x", Type: api.TyInt}
	y := api.Var{Name: "y", Type: api.TyInt}
	m := api.Monitor{Name: "m", Vars: []api.Var{x, y}, Methods: []api.Method{{Name: "f"}, {Name: "g"}}}
	n := api.Monitor{Name: "n"}
	a, b := api.Role{Name: "a", Star: true}, api.Role{Name: "b", Count: 3}
	p := api.Program{Mons: []api.Monitor{m, n}, Roles: []api.Role{a, b}}
	head, vars, methods := "monitor m { ", "var x : int = 0; var y : int = 0; ", "method f { } method g { } "
	ms, ns, as, bs := head+vars+methods+"} ", "monitor n { } ", "thread a * { } ", "thread b 3 { } "
	for _, s := range []string{ms + ns + as + bs, ms + as + ns + bs, ms + as + bs + ns, as + ms + ns + bs, as + ms + bs + ns, as + bs + ms + ns} {
		want(t, s, p, true)
		want(t, s, api.Program{Mons: []api.Monitor{n, m}, Roles: p.Roles}, false)
		want(t, s, api.Program{Mons: p.Mons, Roles: []api.Role{b, a}}, false)
		want(t, s, api.Program{Mons: p.Mons[:1], Roles: p.Roles}, false)
		want(t, s, api.Program{Mons: p.Mons, Roles: p.Roles[1:]}, false)
		want(t, s, api.Program{}, false)
		want(t, s+ns, p, false)
		want(t, "("+s+")", p, false)
	}
	for _, s := range []string{ns + ms + as + bs, ms + ns + bs + as, ms + ns + as, ns + as + bs, head + methods + vars + "} " + ns + as + bs, head + "} " + ns + as + bs, head + vars + "method f { method g { } } } " + ns + as + bs} {
		want(t, s, p, false)
	}
	for _, s := range []string{"thread b 2 { }", "thread b * { }", "thread b { }", "thread b -3 { }", "thread b 3 3 { }", "thread c 3 { }", "thread b 3 { } ;", "b 3 { }", "thread b (3) { }"} {
		want(t, s, api.Program{Roles: []api.Role{b}}, false)
	}
	for _, s := range []string{"thread a { }", "thread a 0 { }", "thread a 1 { }", "thread a * 1 { }"} {
		want(t, s, api.Program{Roles: []api.Role{a}}, false)
	}
	for _, s := range []string{"monitor n { ", "monitor { }", "monitor n { } }", "n { }", "monitor n ( )", "monitor n { } end", "monitor n ;"} {
		want(t, s, api.Program{Mons: []api.Monitor{n}}, false)
	}
}

// TestNothingChanges: what is handed in stays as it is, its spare room too.
func TestNothingChanges(t *testing.T) {
	for seed := range uint64(300) {
		w := &writer{chance: newChance(seed)}
		p := w.chance.program()
		w.program(p)
		l := w.done()
		room := append(slices.Clone(l), api.Token{Kind: 7}, api.Token{Kind: 8})
		gram.Derives(room[:len(l)], p)
		if !slices.Equal(room[:len(l)], l) || room[len(l)].Kind != 7 || room[len(l)+1].Kind != 8 {
			t.Fatalf("seed %d: other tokens", seed)
		}
		if !reflect.DeepEqual(p, (&writer{chance: newChance(seed)}).chance.program()) {
			t.Fatalf("seed %d: another tree", seed)
		}
	}
}
