package parse_test

import (
	"reflect"
	"strings"
	"testing"

	"vigil/api"
	"vigil/parse"
)

// wantError: an error of a program, its place, and nothing beside it. The place is where the @ stands, which is no part of the text.
func wantError(t *testing.T, marked string, want api.Errno) {
	t.Helper()
	s, place := unmarked(marked)
	p, err, at := parse.Parse(s)
	if err != want || at != place || !reflect.DeepEqual(p, api.Program{}) {
		t.Errorf("%.200q: error %d at %d, want %d; %+v", marked, err, at, want, p)
	}
}

// wantExprError: the same of an expression.
func wantExprError(t *testing.T, marked string, want api.Errno) {
	t.Helper()
	s, place := unmarked(marked)
	e, err, at := parse.Expr(s)
	if err != want || at != place || !reflect.DeepEqual(e, api.Expr{}) {
		t.Errorf("%.200q: error %d at %d, want %d; %+v", marked, err, at, want, e)
	}
}

func unmarked(s string) (string, int) {
	before, behind, _ := strings.Cut(s, "@")
	return before + behind, len(before)
}

// at is an expression at a place.
func at(place int, e api.Expr) api.Expr {
	e.At = place
	return e
}

func wantOK(t *testing.T, s string) {
	t.Helper()
	if _, err, at := parse.Parse(s); err != api.OK || at != 0 {
		t.Errorf("%.200q: error %d at %d", s, err, at)
	}
}

// TestExprTrees: P4.3 and P4.4, what is read, and where it stands.
func TestExprTrees(t *testing.T) {
	x := func(place int) api.Expr { return at(place, variable("a", "x")) }
	n := func(place int, n int64) api.Expr { return at(place, number(n)) }
	for _, c := range []struct {
		s string
		e api.Expr
	}{
		{"7", n(0, 7)},
		{" 9223372036854775807 ", n(1, most)},
		{"true", at(0, of(api.OpTrue))},
		{" (false)", at(2, of(api.OpFalse))},
		{"a.x", x(0)},
		{"a . # note\n x", x(0)},
		{"((a.x))", x(2)},
		{"-a.x", at(0, of(api.OpNeg, x(1)))},
		{"-3", at(0, of(api.OpNeg, n(1, 3)))},
		{"--(3)", at(0, of(api.OpNeg, at(1, of(api.OpNeg, n(3, 3)))))},
		{"2 * a.x", at(0, times(2, x(4)))},
		{"2 * 3 * -4", at(0, times(2, at(4, times(3, at(8, of(api.OpNeg, n(9, 4)))))))},
		{"a.x + 2 * a.y", at(0, of(api.OpAdd, x(0), at(6, times(2, at(10, variable("a", "y"))))))},
		{"-2*a.x", at(0, of(api.OpNeg, at(1, times(2, x(3)))))},
		{"(-a.x)", at(1, of(api.OpNeg, x(2)))},
		{"0 * (a.x + 1)", at(0, times(0, at(5, of(api.OpAdd, x(5), n(11, 1)))))},
		{"!a.x", at(0, of(api.OpNot, x(1)))},
		{"!!(a.x)", at(0, of(api.OpNot, at(1, of(api.OpNot, x(3)))))},
		{"!a.x == 1", at(0, of(api.OpNot, at(1, of(api.OpEq, x(1), n(8, 1)))))},
		{"(!a.x) == 1", at(1, of(api.OpEq, at(1, of(api.OpNot, x(2))), n(10, 1)))},
		{"!a.x && 1", at(0, of(api.OpAnd, at(0, of(api.OpNot, x(1))), n(8, 1)))},
		{"1 - 2 - 3", at(0, of(api.OpSub, at(0, of(api.OpSub, n(0, 1), n(4, 2))), n(8, 3)))},
		{"1 - (2 - 3)", at(0, of(api.OpSub, n(0, 1), at(5, of(api.OpSub, n(5, 2), n(9, 3)))))},
		{"1 - 2 + 3", at(0, of(api.OpAdd, at(0, of(api.OpSub, n(0, 1), n(4, 2))), n(8, 3)))},
		{"1 + 2 * 3 - -4", at(0, of(api.OpSub, at(0, of(api.OpAdd, n(0, 1), at(4, times(2, n(8, 3))))), at(12, of(api.OpNeg, n(13, 4)))))},
		{"(1) + 2", at(1, of(api.OpAdd, n(1, 1), n(6, 2)))},
		{"((1 + 2)) < (3)", at(2, of(api.OpLt, at(2, of(api.OpAdd, n(2, 1), n(6, 2))), n(13, 3)))},
		{"1||2&&3", at(0, of(api.OpOr, n(0, 1), at(3, of(api.OpAnd, n(3, 2), n(6, 3)))))},
		{"1&&2||3", at(0, of(api.OpOr, at(0, of(api.OpAnd, n(0, 1), n(3, 2))), n(6, 3)))},
		{"1&&2&&3", at(0, of(api.OpAnd, at(0, of(api.OpAnd, n(0, 1), n(3, 2))), n(6, 3)))},
		{"1||2||3", at(0, of(api.OpOr, at(0, of(api.OpOr, n(0, 1), n(3, 2))), n(6, 3)))},
		{"1||(2||3)", at(0, of(api.OpOr, n(0, 1), at(4, of(api.OpOr, n(4, 2), n(7, 3)))))},
		{"1&&(2||3)", at(0, of(api.OpAnd, n(0, 1), at(4, of(api.OpOr, n(4, 2), n(7, 3)))))},
		{"1&&!2&&!3<4", at(0, of(api.OpAnd, at(0, of(api.OpAnd, n(0, 1), at(3, of(api.OpNot, n(4, 2))))), at(7, of(api.OpNot, at(8, of(api.OpLt, n(8, 3), n(10, 4)))))))},
		{"1+2==3-4", at(0, of(api.OpEq, at(0, of(api.OpAdd, n(0, 1), n(2, 2))), at(5, of(api.OpSub, n(5, 3), n(7, 4)))))},
		{"(1==2)==(3!=4)", at(1, of(api.OpEq, at(1, of(api.OpEq, n(1, 1), n(4, 2))), at(9, of(api.OpNe, n(9, 3), n(12, 4)))))},
	} {
		wantExpr(t, c.s, c.e, true)
	}
	for i, sign := range strings.Fields("+ - == != < <= > >= && ||") {
		wantExpr(t, "a.x "+sign+" 1", of(api.OpAdd+i, variable("a", "x"), number(1)), false)
	}
}

// TestExprErrors: P4.2 and P4.4, ErrSyntax of expressions, alone and in statements.
func TestExprErrors(t *testing.T) {
	for _, s := range []string{
		"@", "  @", "# note@", "@)", "@+ 1", "1 +@", "1 + @+ 2", "1 @1", "1 @a.x", "a@", "a.@", "a.@1", "a @b", "a.x@.y", "a.@true", "@monitor", "1@;", "1 @{", "(1@", "(@)", "(1 + @)", "1@)", "((1)@",
		"a.x @* 2", "(2) @* 3", "true @* 1", "2 * @* 3", "2 *@", "2 * @!a.x", "-@!a.x", "1 + @!a.x", "1 == @!a.x", "!@&& 1", "!@", "-@", "--@+ 1",
		"1 == 2 @== 3", "1 < 2 @<= 3", "!1 == 2 @!= 3", "!1 == 2 + 4 @> 3", "(1 == 2 @== 3)", "1 && 2 == 3 @== 4", "1 @= 2", "1 @.. 2", "a.x@:", "1 || @|| 2", "1 && @|| 2", "1 @!", "1 @! 2", "1 @true", "true @false",
	} {
		wantExprError(t, s, api.ErrSyntax)
		if !strings.HasSuffix(s, "@") && !strings.ContainsAny(s, ";{") { // neither at the end, nor at what ends an expression elsewhere
			wantError(t, "thread t 1 { if "+s+" { } }", api.ErrSyntax)
			wantError(t, "monitor M { method f { a.b = "+s+"; } }", api.ErrSyntax)
		}
	}
	wantExprError(t, "1 @$ +", api.ErrByte)
	wantExprError(t, "+ + @007", api.ErrNum)
}

// TestDeclared: P4.1 and P4.3 of monitors, variables, methods and threads, in whatever order.
func TestDeclared(t *testing.T) {
	wantProgram(t, "", api.Program{}, true)
	wantProgram(t, " # nothing\n", api.Program{}, true)
	wantProgram(t, "monitor M { }", api.Program{Mons: []api.Monitor{{Name: "M", At: 8}}}, true)
	wantProgram(t, "monitor M { method f { } method g { skip; } } monitor N { }", api.Program{Mons: []api.Monitor{
		{Name: "M", At: 8, Methods: []api.Method{{Name: "f", At: 19}, {Name: "g", At: 32, Body: []api.Stmt{{Kind: api.StSkip, At: 36}}}}},
		{Name: "N", At: 54},
	}}, true)
	wantProgram(t, "thread a 0 { }thread b * { skip; }monitor M{}thread c 9223372036854775807 { }monitor N{}", api.Program{
		Mons: []api.Monitor{{Name: "M", At: 42}, {Name: "N", At: 85}},
		Roles: []api.Role{
			{Name: "a", At: 7},
			{Name: "b", Star: true, At: 21, Body: []api.Stmt{{Kind: api.StSkip, At: 27}}},
			{Name: "c", Count: most, At: 52},
		},
	}, true)
	// That a name is there twice is no matter of the grammar.
	wantOK(t, "monitor M { var x : int = 0; var x : int = 0; method x { } } monitor M { } thread M 1 { } thread M * { }")
}

// TestVars: P4.1 and P4.3 of variables.
func TestVars(t *testing.T) {
	for _, c := range []struct {
		s string
		v api.Var
	}{
		{"bool = true", api.Var{Type: api.TyBool, Init: 1}},
		{"bool=false", api.Var{Type: api.TyBool}},
		{"int = 0", api.Var{Type: api.TyInt}},
		{"int = -0", api.Var{Type: api.TyInt}},
		{"int = - 5", api.Var{Type: api.TyInt, Init: -5}},
		{"int = 9223372036854775807", api.Var{Type: api.TyInt, Init: most}},
		{"int = -9223372036854775807", api.Var{Type: api.TyInt, Init: -most}},
		{"0..3 = 1", api.Var{Type: api.TyRange, Hi: 3, Init: 1}},
		{"3..3=3", api.Var{Type: api.TyRange, Lo: 3, Hi: 3, Init: 3}},
		{"-3 .. -3 = -3", api.Var{Type: api.TyRange, Lo: -3, Hi: -3, Init: -3}},
		{"-3..-2 = 4", api.Var{Type: api.TyRange, Lo: -3, Hi: -2, Init: 4}}, // what a range has not is no matter of the grammar
		{"0..-0 = 0", api.Var{Type: api.TyRange}},
		{"-0..0 = 0", api.Var{Type: api.TyRange}},
		{"-9223372036854775807..9223372036854775807 = 9", api.Var{Type: api.TyRange, Lo: -most, Hi: most, Init: 9}},
	} {
		c.v.Name, c.v.At = "x", 16
		wantProgram(t, "monitor M { var x : "+c.s+"; }", api.Program{Mons: []api.Monitor{{Name: "M", Vars: []api.Var{c.v}, At: 8}}}, true)
	}
}

// TestStmts: P4.1 and P4.3 of statements, in a thread and in a method, one and two of them.
func TestStmts(t *testing.T) {
	x, yes := variable("m", "x"), of(api.OpTrue)
	skip := api.Stmt{Kind: api.StSkip}
	for _, c := range []struct {
		s string
		w api.Stmt
	}{
		{"skip;", skip},
		{"m.x = 1;", api.Stmt{Kind: api.StSet, Mon: "m", Name: "x", E: number(1)}},
		{"m . y=m.x+1 ;", api.Stmt{Kind: api.StSet, Mon: "m", Name: "y", E: of(api.OpAdd, x, number(1))}},
		{"if true { }", api.Stmt{Kind: api.StIf, E: yes, Blocks: [][]api.Stmt{nil}}},
		{"if m.x { skip; }", api.Stmt{Kind: api.StIf, E: x, Blocks: [][]api.Stmt{{skip}}}},
		{"if m.x { skip; } else { }", api.Stmt{Kind: api.StIf, E: x, Blocks: [][]api.Stmt{{skip}, nil}}},
		{"if (m.x) { } else { skip; skip; }", api.Stmt{Kind: api.StIf, E: x, Blocks: [][]api.Stmt{nil, {skip, skip}}}},
		{"while !true { skip; }", api.Stmt{Kind: api.StWhile, E: of(api.OpNot, yes), Blocks: [][]api.Stmt{{skip}}}},
		{"loop { loop { } }", api.Stmt{Kind: api.StLoop, Blocks: [][]api.Stmt{{{Kind: api.StLoop, Blocks: [][]api.Stmt{nil}}}}}},
		{"choose { }", api.Stmt{Kind: api.StChoose, Blocks: [][]api.Stmt{nil}}},
		{"choose { skip; } or { } or { skip; }", api.Stmt{Kind: api.StChoose, Blocks: [][]api.Stmt{{skip}, nil, {skip}}}},
		{"choose { choose { } or { } } or { }", api.Stmt{Kind: api.StChoose, Blocks: [][]api.Stmt{{{Kind: api.StChoose, Blocks: [][]api.Stmt{nil, nil}}}, nil}}},
		{"sync m { skip; }", api.Stmt{Kind: api.StSync, Mon: "m", Blocks: [][]api.Stmt{{skip}}}},
		{"call m.f;", api.Stmt{Kind: api.StCall, Mon: "m", Name: "f"}},
		{"wait m;", api.Stmt{Kind: api.StWait, Mon: "m"}},
		{"wait m 1;", api.Stmt{Kind: api.StWait, Mon: "m", N: 1}},
		{"wait m 9223372036854775807;", api.Stmt{Kind: api.StWait, Mon: "m", N: most}},
		{"notify m;", api.Stmt{Kind: api.StNotify, Mon: "m"}},
		{"notifyall m;", api.Stmt{Kind: api.StAll, Mon: "m"}},
	} {
		body := []api.Stmt{c.w, c.w}
		wantProgram(t, "thread t 1 { "+c.s+" }", api.Program{Roles: []api.Role{{Name: "t", Count: 1, Body: body[:1]}}}, false)
		text := "monitor m { method f {" + c.s + c.s + "} }"
		wantProgram(t, text, api.Program{Mons: []api.Monitor{{Name: "m", Methods: []api.Method{{Name: "f", Body: body}}}}}, false)
		p, _, _ := parse.Parse(text)
		got := p.Mons[0].Methods[0].Body
		if got[0].At != 22 || got[1].At != 22+len(c.s) {
			t.Errorf("%q: at %d and %d", text, got[0].At, got[1].At)
		}
	}
}

// TestPlaces: P4.3, of all that has a place in a greater text.
func TestPlaces(t *testing.T) {
	s := "monitor M { var n : 0..3 = 1; method f { if (M.n) - 1 < 2 { choose { skip; } or { wait M 2; } } } }"
	p, err, _ := parse.Parse(s)
	if err != api.OK {
		t.Fatal(err)
	}
	m := p.Mons[0]
	branch := m.Methods[0].Body[0]
	choose := branch.Blocks[0][0]
	less := branch.E
	minus := less.Kids[0]
	for piece, at := range map[string]int{
		"M {": m.At, "n :": m.Vars[0].At, "f {": m.Methods[0].At, "if": branch.At, "choose": choose.At, "skip": choose.Blocks[0][0].At, "wait": choose.Blocks[1][0].At,
		"M.n": less.At, "M.n)": minus.At, "M.n) ": minus.Kids[0].At, "1 <": minus.Kids[1].At, "2 {": less.Kids[1].At,
	} {
		if want := strings.Index(s, piece); at != want {
			t.Errorf("%q: at %d, want %d", piece, at, want)
		}
	}
	if skip := choose.Blocks[0][0]; skip.E.At != 0 {
		t.Error("a place where there is no expression")
	}
}

// TestErrors: P4.2, ErrSyntax.
func TestErrors(t *testing.T) {
	for _, s := range []string{
		"@x", "@;", "@}", "@{", "@1", "@skip;", "@var x : int = 0;", "@method f { }", "@else", "@or { }",
		"monitor@", "monitor @{", "monitor @monitor", "monitor @1", "monitor M@", "monitor M @;", "monitor M @}", "monitor M {@", "monitor M { @skip; }", "monitor M { @x", "monitor M { } @}", "monitor M { }@;",
		"monitor M { @thread t 1 { } }", "monitor M { @monitor N { } }", "monitor M { method f { } @var x : int = 0; }",
		"monitor M { var @: int = 0; }", "monitor M { var @int : int = 0; }", "monitor M { var x @int = 0; }", "monitor M { var x : @x = 0; }", "monitor M { var x : @true; }", "monitor M { var x : int @; }", "monitor M { var x : int @== 0; }",
		"monitor M { var x : bool = @0; }", "monitor M { var x : bool = @-0; }", "monitor M { var x : int = @true; }", "monitor M { var x : int = -@-1; }", "monitor M { var x : int = @(1); }", "monitor M { var x : int = 1 @+ 1; }",
		"monitor M { var x : 0 @= 0; }", "monitor M { var x : 0@. .1 = 0; }", "monitor M { var x : 0..@= 0; }", "monitor M { var x : 0..1@; }", "monitor M { var x : 0..1 = @true; }", "monitor M { var x : -@.. 1 = 0; }", "monitor M { var x : int = 0 @}", "monitor M { var x : int = 0; @; }",
		"monitor M { method @{ } }", "monitor M { method f @; }", "monitor M { method f {@", "monitor M { method f { }@",
		"thread@", "thread @* { }", "thread @if 1 { }", "thread t @{ }", "thread t @-1 { }", "thread t 1@", "thread t 1 @skip;", "thread t * @1 { }", "thread t 1 @* { }", "thread t 1 {@", "thread t 1 { } @}",
		"thread t 1 { skip @}", "thread t 1 { skip@", "thread t 1 { @; }", "thread t 1 { skip; @; }", "thread t 1 { @{ } }", "thread t 1 { @1 = 2; }", "thread t 1 { @(m.x) = 2; }", "thread t 1 { @true; }", "thread t 1 { @else { } }", "thread t 1 { @or { } }", "thread t 1 { @monitor M { } }", "thread t 1 { @thread u 1 { } }", "thread t 1 { @var x : int = 0; }",
		"thread t 1 { m @= 1; }", "thread t 1 { m.@= 1; }", "thread t 1 { m.x @== 1; }", "thread t 1 { m.x = @; }", "thread t 1 { m.x = 1 @}", "thread t 1 { m.x@; }", "thread t 1 { m@; }", "thread t 1 { m@.. x = 1; }",
		"thread t 1 { if @{ } }", "thread t 1 { if true @; }", "thread t 1 { if true @skip; }", "thread t 1 { if true { } else @if true { } }", "thread t 1 { if true { } else { } @else { } }", "thread t 1 { if true { } @or { } }",
		"thread t 1 { while @{ } }", "thread t 1 { while true @; }", "thread t 1 { while true { } @else { } }", "thread t 1 { loop @true { } }", "thread t 1 { loop { } @or { } }", "thread t 1 { choose @; }", "thread t 1 { choose { } or @; }", "thread t 1 { choose { } @else { } }", "thread t 1 { choose @or { } }", "thread t 1 { choose { } or { } @; }",
		"thread t 1 { sync @{ } }", "thread t 1 { sync m @; }", "thread t 1 { sync m@.x { } }", "thread t 1 { call @; }", "thread t 1 { call m @; }", "thread t 1 { call m.f@(); }", "thread t 1 { call m.@call; }",
		"thread t 1 { wait @; }", "thread t 1 { wait @1; }", "thread t 1 { wait m @-1; }", "thread t 1 { wait m 1 @2; }", "thread t 1 { wait m@.x; }", "thread t 1 { notify @; }", "thread t 1 { notify m @1; }", "thread t 1 { notifyall @if; }", "thread t 1 { notifyall m @}",
	} {
		wantError(t, s, api.ErrSyntax)
	}
}

// TestRanges: P4.1 and P4.2, a range that ends below its beginning: at the first token of the second number. Where that is no number, it is below nothing.
func TestRanges(t *testing.T) {
	for _, s := range []string{
		"3..@1 = 2", "1..@0 = 2", "0..@-1 = 0", "0 .. @- 1 = 0", "3..@-3 = 2", "-3..@-4 = -3", "9223372036854775807..@9223372036854775806 = 0", "-9223372036854775806..@-9223372036854775807 = 0",
		"3..@1", "3..@-1", "3..@1 ; ) monitor", "3..- @= 2", "3..-@- 1 = 2", "-3..- @= 2", "3..@x", "3..@= 2", "3..-@", "3..@",
	} {
		wantError(t, "monitor M { var n : "+s, api.ErrSyntax)
		wantError(t, "monitor N { var n : 0..1 = 7; } monitor M { var m : int = 0; var n : "+s+"; method f { } }", api.ErrSyntax)
	}
	wantOK(t, "monitor M { var n : 1..3 = -7; }")
}

// TestWaitNothing: P4.1 and P4.2, a 0 behind wait.
func TestWaitNothing(t *testing.T) {
	for _, s := range []string{"wait M @0;", "wait M @0", "wait M @0 0", "loop { wait M; wait M 1; wait M @0; }"} {
		wantError(t, "thread t * { "+s, api.ErrSyntax)
	}
}

// TestScanned: P4.2, errors of the text ahead of all else.
func TestScanned(t *testing.T) {
	wantError(t, "x } @$", api.ErrByte)
	wantError(t, "x thread t 1 { a.b = @00; $", api.ErrNum)
	wantError(t, "monitor @"+strings.Repeat("n", api.MaxName+1), api.ErrName)
	wantError(t, "x 1 2 3 @9223372036854775808", api.ErrNum)
	wantError(t, strings.Repeat("(", 100)+"@&", api.ErrByte)
	long := "x $ 00" + strings.Repeat(" ", api.MaxText-5)
	wantError(t, long[:api.MaxText]+"@"+long[api.MaxText:], api.ErrLong)
	wantExprError(t, long[:api.MaxText]+"@"+long[api.MaxText:], api.ErrLong)
	wantOK(t, strings.Repeat(" ", api.MaxText))
	wantExpr(t, strings.Repeat(" ", api.MaxText-1)+"1", at(api.MaxText-1, number(1)), true)
}

// TestMany: P4.2, ErrMany: each limit, and one more.
func TestMany(t *testing.T) {
	for _, c := range []struct {
		begin, item, end string
		most             int
	}{
		{"", "monitor M { } ", "", api.MaxMons},
		{"", "monitor M { } thread t 1 { } ", "", api.MaxMons},
		{"", "thread t 1 { choose { } or { } } ", "", api.MaxRoles},
		{"monitor M { ", "var x : int = 0; ", "method f { } }", api.MaxVars},
		{"monitor M { var x : int = 0; } monitor N { ", "var x : 0..1 = 0; ", "}", api.MaxVars},
		{"monitor M { ", "method f { } ", "}", api.MaxMeths},
		{"monitor M { method f { } } monitor N { var x : int = 0; ", "method f { choose { } } ", "}", api.MaxMeths},
		{"thread t 1 { choose { } ", "or { skip; } ", "}", api.MaxBranch - 1},
		{"thread t 1 { choose { choose { } or { } } ", "or { choose { } or { } or { } } ", "choose { } }", api.MaxBranch - 1},
		{"thread t 1 { choose { choose { } ", "or { } ", "} or { } }", api.MaxBranch - 1},
	} {
		items := strings.Repeat(c.item, c.most)
		wantOK(t, c.begin+items+c.end)
		wantError(t, c.begin+items+"@"+c.item+c.end, api.ErrMany)
		word, _, _ := strings.Cut(c.item, " ")
		wantError(t, c.begin+items+"@"+word, api.ErrMany) // at its first token, whatever is behind it
		wantError(t, c.begin+items+"@"+word+" ) "+c.item, api.ErrMany)
		wantError(t, c.begin+"@) "+items+c.item, api.ErrSyntax) // but not ahead of an error
	}
	vars, methods := strings.Repeat("var x : int = 0; ", api.MaxVars), strings.Repeat("method f { } ", api.MaxMeths)
	all := "monitor M { " + vars + methods + "} "
	wantOK(t, strings.Repeat(all, api.MaxMons)+strings.Repeat("thread t * { } ", api.MaxRoles))
	// Where none may stand, none begins.
	wantError(t, "monitor M { "+vars+methods+"@var", api.ErrSyntax)
	wantError(t, strings.Repeat("monitor M { } ", api.MaxMons)+"thread t 1 { @monitor", api.ErrSyntax)
	wantError(t, strings.Repeat("thread t 1 { } ", api.MaxRoles)+"monitor M { @thread", api.ErrSyntax)
	wantError(t, "thread t 1 { choose { "+strings.Repeat("} or { ", api.MaxBranch-1)+"@or", api.ErrSyntax)
	wantError(t, "thread t 1 { choose { "+strings.Repeat("} or { ", api.MaxBranch-1)+"} skip; @or", api.ErrSyntax)
}
