package types_test

import (
	"fmt"
	"math"
	"strings"
	"testing"

	"vigil/api"
	"vigil/names"
	"vigil/types"
)

// TestCheckRight: P7.2, of programs in which all is right.
func TestCheckRight(t *testing.T) {
	for _, s := range []string{
		"", "monitor m { }", "thread t 1 { }", "thread t * { while true { } }", declares,
		declares + "thread t 2 { sync a { a.b = a.n == 3; while !a.b && a.x { wait a; wait a 5; } notifyall a; } call a.f; }",
		declares + "thread t 2 { if c.x < 1 { c.x = c.x + 1; } else { c.x = 2 * -c.x; } loop { choose { a.n = 9; } or { skip; } } }",
		"thread t 1 { m.x = m.y; } monitor m { var x : int = 0; var y : 0..1 = 0; method f { m.y = m.x; } }",
	} {
		wantText(t, s, api.OK)
	}
}

// TestCheckShape: P7.2: ErrShape and 0, ahead of all else.
func TestCheckShape(t *testing.T) {
	p := parsed(t, "monitor m { var n : 1..2 = 3; } thread t 1 { if 1 { } }")
	wantCheck(t, "a range", p, api.ErrRange, 16)
	p.Roles[0].Body = append(p.Roles[0].Body, api.Stmt{At: 9})
	wantCheck(t, "no shape", p, api.ErrShape, 0)
	wantCheck(t, "no shape", api.Program{Mons: []api.Monitor{{Name: "m", Vars: []api.Var{{Name: "x", Type: api.TyRange, Lo: 2, Hi: 1, Init: 1, At: 4}}}}}, api.ErrShape, 0)
	wantCheck(t, "no shape", api.Program{Mons: []api.Monitor{{Name: "m", Vars: []api.Var{{Name: "x", Type: api.TyBool, Init: 2, At: 4}}}}}, api.ErrShape, 0)
	wantCheck(t, "no shape", api.Program{Mons: make([]api.Monitor, api.MaxMons+1)}, api.ErrShape, 0)
}

// TestCheckNames: P7.2: an error of names comes ahead of all that is wrong with ranges and types.
func TestCheckNames(t *testing.T) {
	wrong := "monitor m { var n : 1..2 = 3; method f { if 1 { } m.n = true; } } "
	wantText(t, wrong+"monitor @m { }", api.ErrTwice)
	wantText(t, wrong+"thread t 1 { } thread @t 1 { }", api.ErrTwice)
	wantText(t, wrong+"thread @t 9 { }", api.ErrMany)
	wantText(t, wrong+"thread t 1 { skip; @wait x; }", api.ErrUnknown)
	wantText(t, wrong+"thread t 1 { @m.x = 1; }", api.ErrUnknown)
	wantText(t, wrong+"thread t 1 { while !1 { } if 1 && @m.x { } }", api.ErrUnknown)
}

// TestCheckRanges: P7.2: ErrRange at the first variable whose first value its range has not.
func TestCheckRanges(t *testing.T) {
	for _, s := range []string{
		"monitor m { var @n : 1..2 = 3; }", "monitor m { var @n : 1..2 = 0; }", "monitor m { var @n : -2..-1 = 0; }", "monitor m { var @n : 0..0 = -1; }",
		"monitor m { var @n : 0..3 = -1; }", "monitor m { var @n : -5..5 = 6; }", "monitor m { var @n : 0..1 = 9223372036854775807; }",
		"monitor m { var a : int = 7; var b : bool = true; var c : 0..1 = 1; var @d : 0..1 = 2; var e : 0..1 = 3; }",
		"monitor m { var a : 0..1 = 0; } monitor n { } monitor o { var b : 0..1 = 1; var @a : 0..1 = 2; } monitor p { var a : 0..1 = 2; }",
		// All variables come ahead of all statements.
		"thread t 1 { if 1 { } } monitor m { method f { if 1 { } } } monitor n { var @a : 0..1 = 2; method f { n.a = true; } }",
	} {
		wantText(t, s, api.ErrRange)
	}
	for _, s := range []string{"1..1 = 1", "0..3 = 0", "0..3 = 3", "-3..-1 = -3", "-3..-1 = -1", "-1..1 = 0", "int = -9", "int = 9223372036854775807", "-9223372036854775807..9223372036854775807 = 5"} {
		wantText(t, "monitor m { var x : "+s+"; }", api.OK)
	}
}

// TestCheckBounds: P7.2, of ranges with any bounds of 64 bits.
func TestCheckBounds(t *testing.T) {
	numbers := []int64{math.MinInt64 + 1, math.MinInt64 + 2, -1 << 32, -2, -1, 0, 1, 2, 1 << 32, math.MaxInt64 - 1, math.MaxInt64}
	for i, lo := range numbers {
		for _, hi := range numbers[i:] {
			for _, init := range numbers {
				v := api.Var{Name: "x", Type: api.TyRange, Lo: lo, Hi: hi, Init: init, At: -6}
				p := api.Program{Mons: []api.Monitor{{Name: "m", Vars: []api.Var{v}}}}
				if lo <= init && init <= hi {
					wantCheck(t, fmt.Sprintf("%+v", v), p, api.OK, 0)
				} else {
					wantCheck(t, fmt.Sprintf("%+v", v), p, api.ErrRange, -6)
				}
			}
		}
	}
}

// TestCheckExpr: P7.2: what a statement's expression must be, wherever it stands; and what is wrong in it.
func TestCheckExpr(t *testing.T) {
	around := []string{"%", "skip; %", "if true { % }", "if true { } else { % }", "while true { % }", "loop { skip; % }", "choose { } or { % } or { }", "sync c { sync a { % } }", "loop { if a.b { while a.x { % } } }"}
	wrong := []string{
		"if @1 { }", "if @a.n { }", "if @c.x + 1 { }", "if @-c.x { } else { }", "while @1 { }", "while @2 * a.n { }", "while (@a.n) { }",
		"a.b = @1;", "a.b = @a.n;", "a.x = @c.x;", "a.b = @-1;", "a.n = @true;", "a.n = @a.b;", "a.n = @c.x == 1;", "a.n = @!a.b;", "c.x = @a.x;", "c.x = @false;", "c.x = @1 < 2;", "c.x = (@a.b) || a.b;",
		"if !@1 { }", "while a.b && @1 { }", "a.b = a.b == @1;", "a.n = 1 + @a.b;", "c.x = @true + false;",
		// What is wrong in an expression comes ahead of what it is.
		"a.b = 1 + @true;", "a.n = !@1;", "if -@true { }", "while 1 + 2 * @a.b { }",
	}
	right := []string{"if a.n == 1 { } else { }", "if a.b { }", "while !a.x { }", "a.b = 1 < 2;", "a.b = a.x;", "a.n = c.x;", "a.n = -7;", "c.x = 2 * a.n;", "c.x = a.n;", "skip;", "call a.f;", "wait a 7;", "notify a;", "notifyall c;"}
	for _, frame := range around {
		for _, s := range wrong {
			wantStmts(t, strings.ReplaceAll(frame, "%", s), api.ErrType)
		}
		for _, s := range right {
			wantStmts(t, strings.ReplaceAll(frame, "%", s), api.OK)
		}
	}
}

// TestCheckOrder: P7.2: which of several errors is the first one.
func TestCheckOrder(t *testing.T) {
	// Of a statement: its expression, its blocks in order; then the next statement.
	for _, s := range []string{
		"if @1 { a.b = 2; } else { a.b = 3; } a.b = 4;", "if true { a.b = @2; } else { a.b = 3; } a.b = 4;", "if true { } else { a.b = @3; } a.b = 4;", "if true { } else { } a.b = @4; a.b = 5;",
		"while @1 { a.b = 2; }", "while true { loop { a.b = @2; } a.b = 3; }", "sync a { a.b = @2; } if 1 { }", "choose { } or { a.b = @1; } or { a.b = 2; }", "loop { if @1 { } while 2 { } }",
	} {
		wantStmts(t, s, api.ErrType)
	}
	// Of a program: methods, monitor by monitor, then roles, wherever they stand in the text.
	for _, s := range []string{
		"thread t 1 { if 1 { } } monitor m { method f { if @2 { } } }",
		"monitor m { method f { if @1 { } } method g { if 2 { } } } monitor n { method f { if 3 { } } }",
		"monitor m { method f { } method g { if @2 { } } } monitor n { method f { if 3 { } } } thread t 1 { if 4 { } }",
		"monitor m { method f { } } monitor n { method f { if @3 { } } } thread t 1 { if 4 { } }",
		"monitor m { } thread t 1 { if @1 { } } thread s 1 { if 2 { } }",
		"thread t 1 { } monitor m { } thread s 1 { if @2 { } } thread r * { while 3 { } }",
	} {
		wantText(t, s, api.ErrType)
	}
}

// TestCheckPlaces: P7.2: the place is what At says, whatever it is.
func TestCheckPlaces(t *testing.T) {
	for _, at := range []int{-1 << 62, -1, 0, 1, 1 << 62} {
		one := api.Expr{Op: api.OpNum, N: 1, At: at}
		role := func(e api.Expr) api.Program {
			s := api.Stmt{Kind: api.StWhile, E: e, Blocks: make([][]api.Stmt, 1), At: 8}
			return api.Program{Roles: []api.Role{{Name: "r", Count: 1, Body: []api.Stmt{s}, At: 6}}}
		}
		wantCheck(t, "while 1", role(one), api.ErrType, at)
		wantCheck(t, "while !1", role(api.Expr{Op: api.OpNot, Kids: []api.Expr{one}, At: 9}), api.ErrType, at)
		v := api.Var{Name: "x", Type: api.TyRange, Init: 1, At: at}
		wantCheck(t, "a range", api.Program{Mons: []api.Monitor{{Name: "m", Vars: []api.Var{v}, At: 5}}}, api.ErrRange, at)
	}
}

// TestCheckDeep: P7.2, of what is nested as deeply as may be.
func TestCheckDeep(t *testing.T) {
	block := []api.Stmt{{Kind: api.StIf, E: api.Expr{Op: api.OpNum, At: 3}, Blocks: make([][]api.Stmt, 1)}}
	e := api.Expr{Op: api.OpTrue, At: 4}
	for range deep / 2 {
		block = []api.Stmt{{Kind: api.StLoop, Blocks: [][]api.Stmt{block}}}
		e = api.Expr{Op: api.OpNot, Kids: []api.Expr{e}}
	}
	while := api.Stmt{Kind: api.StWhile, E: e, Blocks: make([][]api.Stmt, 1)}
	p := api.Program{Roles: []api.Role{{Name: "r", Star: true, Body: []api.Stmt{while}}}}
	wantCheck(t, "deep", p, api.OK, 0)
	p.Roles[0].Body = append(p.Roles[0].Body, block...)
	wantCheck(t, "deep", p, api.ErrType, 3)
}

// TestCheckMany: P7.2, of as much as a program may declare: each variable is found, and is what it is.
func TestCheckMany(t *testing.T) {
	p := api.Program{Roles: []api.Role{{Name: "r", Star: true}}}
	name := func(i int) string { return "n" + strings.Repeat("x", i) }
	for i := range api.MaxMons {
		m := api.Monitor{Name: name(i)}
		for k := range api.MaxVars {
			m.Vars = append(m.Vars, api.Var{Name: name(k), Type: []int{api.TyBool, api.TyInt, api.TyRange}[(i+k)%3], At: 1})
		}
		p.Mons = append(p.Mons, m)
	}
	for i := range api.MaxMons {
		for k := range api.MaxVars {
			set := api.Stmt{Kind: api.StSet, Mon: name(i), Name: name(k), E: api.Expr{Op: api.OpNum, At: 2}, At: 1}
			p.Roles[0].Body = []api.Stmt{set}
			if (i+k)%3 == 0 {
				wantCheck(t, "a bool", p, api.ErrType, 2)
			} else {
				wantCheck(t, "a number", p, api.OK, 0)
			}
		}
	}
}

// TestCheckByStack: P7.2, of programs that were made at random, against what a stack tells of their expressions in order.
func TestCheckByStack(t *testing.T) {
	told := map[api.Errno]int{}
	for seed := range uint64(8000) {
		p := newChance(seed, []int{10, 40, 100, 500, 1 << 30}[seed%5]).program()
		err, at := checked(p)
		wantCheck(t, fmt.Sprintf("seed %d: %+v", seed, p), p, err, at)
		told[err]++
	}
	for _, err := range []api.Errno{api.OK, api.ErrType, api.ErrRange, api.ErrUnknown} {
		if told[err] < 300 {
			t.Errorf("error %d: %d times", err, told[err])
		}
	}
}

// TestCheckedHasTypes: P7.2, P7.3: where Check is OK, every expression, and every part of it, has a type, and every first value is in its range.
func TestCheckedHasTypes(t *testing.T) {
	right := 0
	for seed := range uint64(4000) {
		p := newChance(seed, 100).program()
		if err, _ := types.Check(p); err != api.OK {
			continue
		}
		right++
		for _, x := range allTasks(p) {
			wantType(t, fmt.Sprintf("seed %d: %+v", seed, x.e), p, x.e, x.is, api.OK, 0)
			for _, part := range row(x.e) {
				if _, err, _ := types.Type(p, part); err != api.OK {
					t.Fatalf("seed %d: %d of a part %+v", seed, err, part)
				}
			}
		}
		for _, v := range names.Slots(p) {
			if v.Type == api.TyRange && (v.Init < v.Lo || v.Init > v.Hi) {
				t.Fatalf("seed %d: %+v", seed, v)
			}
		}
	}
	if right < 500 {
		t.Error(right)
	}
}
