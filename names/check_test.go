package names_test

import (
	"strings"
	"testing"

	"vigil/api"
	"vigil/names"
)

// TestNumbers: the errors' numbers and the limit that the chapter tells.
func TestNumbers(t *testing.T) {
	if api.ErrTwice != 60 || api.ErrUnknown != 61 || api.ErrMany != 6 || api.ErrShape != 20 || api.MaxCount != 8 {
		t.Error("other numbers")
	}
}

// TestCheckRight: P6.2, of programs in which all names are right.
func TestCheckRight(t *testing.T) {
	wantText(t, sample(), api.OK)
	for _, s := range []string{
		"", "monitor M { }", "thread t 1 { }", "thread t * { skip; }",
		"monitor M { var M : int = 0; }", "monitor M { method M { } }", "monitor M { } thread M 1 { }",
		"monitor M { var x : int = 0; method f { } } monitor N { var x : int = 0; var f : int = 0; method g { } }",
		"monitor M { var x : int = 0; } thread x 1 { sync M { M.x = M.x; } }",
		"thread t 1 { sync M { call M.f; } } monitor M { method f { call M.f; call N.g; } } monitor N { method g { } }",
		"monitor M { var m : int = 0; } monitor m { var M : int = 0; method f { M.m = m.M; } }",
		"monitor M { var x : 0..1 = 7; method f { M.x = true && 1; wait M; } }",
	} {
		wantText(t, s, api.OK)
	}
}

// TestCheckShape: P6.2: ErrShape and 0, ahead of all else.
func TestCheckShape(t *testing.T) {
	twice := api.Monitor{Name: "M", At: 5}
	unknown := api.Stmt{Kind: api.StWait, Mon: "X", At: 9}
	for _, p := range []api.Program{
		{Mons: []api.Monitor{{}}},
		{Mons: []api.Monitor{{Name: "if", At: 3}}},
		{Mons: []api.Monitor{twice, twice, {}}},
		{Mons: make([]api.Monitor, api.MaxMons+1)},
		{Mons: []api.Monitor{twice, twice}, Roles: []api.Role{{Name: "r", Count: -1}}},
		{Roles: []api.Role{{Name: "r", Star: true, Count: 1, At: 7}}},
		{Roles: []api.Role{{Name: "r", Count: 1, Body: []api.Stmt{unknown, {At: 4}}}}},
		{Roles: []api.Role{{Name: "r", Count: 9, Body: []api.Stmt{{Kind: api.StSet, Mon: "M", Name: "x", At: 4}}}}},
		{Mons: []api.Monitor{{Name: "M", Vars: []api.Var{{Name: "x"}, {Name: "x", Type: api.TyInt, At: 8}}}}},
		{Mons: []api.Monitor{{Name: "M", Methods: []api.Method{{Name: "f"}, {Name: "f"}, {}}}}},
	} {
		wantCheck(t, "no shape", p, api.ErrShape, 0)
	}
}

// TestCheckMonitors: P6.2, 1.
func TestCheckMonitors(t *testing.T) {
	for _, s := range []string{
		"monitor M { } monitor @M { }",
		"monitor M { } monitor N { } monitor @M { }",
		"monitor M { } monitor @M { } monitor M { }",
		"thread M 1 { } monitor M { } monitor @M { }",
		"monitor M { var x : int = 0; var @x : bool = true; }",
		"monitor M { var x : int = 0; var y : int = 0; var @x : 0..1 = 0; }",
		"monitor M { method f { } method @f { } }",
		"monitor M { method f { } method g { } method @f { } method g { } }",
		"monitor M { var f : int = 0; method @f { } }",
		"monitor M { var x : int = 0; var y : int = 0; method g { } method @y { } }",
		"monitor M { var x : int = 0; var @x : int = 0; method f { } method f { } }",
		"monitor L { var x : int = 0; } monitor M { var x : int = 0; var @x : int = 0; }",
		// What a monitor has comes ahead of the next monitor, its own name ahead of what it has.
		"monitor M { var x : int = 0; var @x : int = 0; } monitor M { }",
		"monitor M { method x { } method @x { } } monitor M { }",
		"monitor M { } monitor @M { var x : int = 0; var x : int = 0; method f { } method f { } }",
		"monitor M { } monitor N { method f { } method @f { } } monitor M { }",
	} {
		wantText(t, s, api.ErrTwice)
	}
}

// TestCheckRoles: P6.2, 2.
func TestCheckRoles(t *testing.T) {
	for _, s := range []string{
		"thread t 1 { } thread @t 1 { }",
		"thread t * { } thread @t 1 { }",
		"thread t 1 { } thread s 8 { } thread @t * { }",
		"thread t 1 { } thread @t 1 { } thread t 1 { }",
		"thread t 1 { } thread @t 0 { }",
		"thread t 1 { } thread @t 9 { }",
		"thread t 1 { } thread @t * { } thread s 0 { }",
	} {
		wantText(t, s, api.ErrTwice)
	}
	for _, s := range []string{
		"thread @t 0 { }", "thread @t 9 { }", "thread @t 9223372036854775807 { }", "thread t 1 { } thread @s 9 { }",
		"thread @t 0 { } thread t 1 { }", "thread t * { } thread @s 0 { } thread t 1 { }", "thread @t 9 { } thread s 0 { }",
	} {
		wantText(t, s, api.ErrMany)
	}
	for count := int64(0); count <= api.MaxCount+1; count++ {
		p := api.Program{Roles: []api.Role{{Name: "r", Count: count, At: -3}}}
		if count == 0 || count > api.MaxCount {
			wantCheck(t, "a count", p, api.ErrMany, -3)
		} else {
			wantCheck(t, "a count", p, api.OK, 0)
		}
	}
}

const declares = "monitor M { var x : int = 0; method f { } } monitor N { var y : bool = true; method g { } } "

// TestCheckOwnNames: P6.2, 3: a statement's own names, of each Kind.
func TestCheckOwnNames(t *testing.T) {
	for _, s := range []string{
		"@X.x = 1;", "@M.y = 1;", "@M.f = 1;", "@N.x = 1;", "@x.M = 1;", "@m.x = 1;",
		"@call X.f;", "@call M.g;", "@call M.x;", "@call N.f;", "@call f.M;", "@call M.M;",
		"@sync X { }", "@sync x { }", "@sync f { }", "@sync t { }", "@wait X;", "@wait X 5;", "@wait y;", "@notify X;", "@notify g;", "@notifyall X;", "@notifyall t;",
		"skip; @wait X; wait Y;", "sync M { @sync X { } }",
	} {
		wantText(t, declares+"thread t 1 { "+s+" }", api.ErrUnknown)
		wantText(t, declares+"monitor O { method h { skip; "+s+" } }", api.ErrUnknown)
	}
	for _, s := range []string{"M.x = 1;", "N.y = 1;", "call M.f;", "call N.g;", "sync M { }", "sync N { }", "wait M;", "wait N 5;", "notify N;", "notifyall M;"} {
		wantText(t, declares+"thread t 1 { "+s+" }", api.OK)
	}
}

// TestCheckExprNames: P6.2, 3: the first variable of an expression, from the left, that there is not.
func TestCheckExprNames(t *testing.T) {
	for _, e := range []string{
		"@X.x", "@M.y", "@M.f", "@N.x", "@N.g", "M.x + @M.z", "@M.z + M.x", "@X.a + X.b", "M.x - 2 * -@M.z", "!(M.x == 1 && @M.z || M.w)",
		"(@M.z)", "-(3 * (@X.x + M.z))", "N.y || N.y && @M.y < N.x", "1 + (M.x + (M.x + (M.x + @N.x)))", "((@M.a + M.b) + M.c) + M.d",
		"M.x == @M.a",
	} {
		for _, s := range []string{"M.x = %;", "if % { }", "while % { skip; }", "if 1 { } else { if % { } }", "loop { choose { } or { sync N { while % { } } } }"} {
			text := strings.ReplaceAll(s, "%", e)
			wantText(t, declares+"thread t 1 { "+text+" }", api.ErrUnknown)
			wantText(t, declares+"monitor O { method h { } method i { "+text+" } }", api.ErrUnknown)
		}
	}
}

// TestCheckOrder: P6.2: which of several errors is the first one.
func TestCheckOrder(t *testing.T) {
	// Of a statement: its own names, its expression, its blocks in order; then the next statement.
	for _, s := range []string{
		"@X.x = X.y;", "M.x = @X.y + X.z; X.x = 1;",
		"if @X.x { wait Y; } else { wait Z; }", "if N.y { @wait Y; } else { wait Z; }", "if N.y { } else { @wait Z; } wait Y;",
		"while @X.x { wait Y; }", "while N.y { loop { @wait Y; } wait Z; } wait X;",
		"@sync X { wait Y; }", "sync M { @wait Y; } sync X { }",
		"choose { skip; } or { @call M.h; } or { notify Y; }", "loop { @notifyall Y; } X.x = 1;",
	} {
		wantText(t, declares+"thread t 1 { "+s+" }", api.ErrUnknown)
	}
	// Of a program: methods, monitor by monitor, then roles, wherever they stand in the text.
	for _, s := range []string{
		"thread t 1 { wait X; } monitor M { method f { @wait Y; } }",
		"monitor M { method f { @wait X; } method g { wait Y; } } monitor N { method f { wait Z; } }",
		"monitor M { method f { } method g { @wait Y; } } monitor N { method f { wait Z; } } thread t 1 { wait X; }",
		"monitor M { method f { } } monitor N { method f { @wait Z; } } thread t 1 { wait X; }",
		"monitor M { } thread t 1 { @wait X; } thread s 1 { wait Y; }",
		"thread t 1 { wait M; } monitor M { } thread s 1 { @wait Y; }",
	} {
		wantText(t, s, api.ErrUnknown)
	}
	// All that is declared comes ahead of all that is used, monitors ahead of roles.
	wantText(t, "thread t 0 { } thread t 1 { } monitor M { } monitor @M { }", api.ErrTwice)
	wantText(t, "thread t 0 { wait X; } monitor M { var x : int = 0; method @x { wait X; } }", api.ErrTwice)
	wantText(t, "monitor M { method f { wait X; } } monitor @M { }", api.ErrTwice)
	wantText(t, "monitor M { method f { wait X; } } thread t 1 { wait X; } thread @t 1 { }", api.ErrTwice)
	wantText(t, "monitor M { method f { wait X; } } thread t 1 { wait X; } thread @s 9 { }", api.ErrMany)
}

// TestCheckPlaces: P6.2: the place is what At says, whatever it is.
func TestCheckPlaces(t *testing.T) {
	for _, at := range []int{-1 << 62, -1, 0, 1, 1 << 62} {
		mon := api.Monitor{Name: "M", At: at}
		wantCheck(t, "monitors", api.Program{Mons: []api.Monitor{{Name: "M", At: 7}, mon}}, api.ErrTwice, at)
		v, f := api.Var{Name: "x", Type: api.TyInt, At: at}, api.Method{Name: "x", At: at}
		wantCheck(t, "variables", api.Program{Mons: []api.Monitor{{Name: "M", Vars: []api.Var{{Name: "x", Type: api.TyBool}, v}}}}, api.ErrTwice, at)
		wantCheck(t, "methods", api.Program{Mons: []api.Monitor{{Name: "M", Vars: []api.Var{{Name: "x", Type: api.TyBool}}, Methods: []api.Method{f}}}}, api.ErrTwice, at)
		role := func(s api.Stmt) api.Program {
			return api.Program{Roles: []api.Role{{Name: "r", Count: 1, Body: []api.Stmt{s}}}}
		}
		wantCheck(t, "a statement", role(api.Stmt{Kind: api.StAll, Mon: "M", At: at}), api.ErrUnknown, at)
		x := api.Expr{Op: api.OpVar, Mon: "M", Name: "x", At: at}
		wantCheck(t, "an expression", role(api.Stmt{Kind: api.StIf, E: api.Expr{Op: api.OpNot, Kids: []api.Expr{x}, At: 9}, Blocks: make([][]api.Stmt, 1), At: 8}), api.ErrUnknown, at)
	}
}

// TestCheckDeep: P6.2, of what is nested as deeply as may be.
func TestCheckDeep(t *testing.T) {
	var block []api.Stmt
	e := api.Expr{Op: api.OpVar, Mon: "M", Name: "x", At: 3}
	for range deep {
		block = []api.Stmt{{Kind: api.StLoop, Blocks: [][]api.Stmt{block}}}
		e = api.Expr{Op: api.OpAdd, Kids: []api.Expr{{Op: api.OpNum}, e}}
	}
	p := api.Program{Roles: []api.Role{{Name: "r", Star: true, Body: append(block, api.Stmt{Kind: api.StWhile, E: e, Blocks: make([][]api.Stmt, 1)})}}}
	wantCheck(t, "deep", p, api.ErrUnknown, 3)
	p.Mons = []api.Monitor{{Name: "M", Vars: []api.Var{{Name: "x", Type: api.TyInt}}}}
	wantCheck(t, "deep", p, api.OK, 0)
}

// TestCheckMany: P6.2, of as much as a program may declare, all with names of their own, and the last one once more.
func TestCheckMany(t *testing.T) {
	p := api.Program{}
	name := func(i int) string { return "n" + strings.Repeat("x", i) }
	for i := range api.MaxMons {
		m := api.Monitor{Name: name(i)}
		for k := range api.MaxVars {
			m.Vars = append(m.Vars, api.Var{Name: name(k), Type: api.TyInt})
		}
		for k := range api.MaxMeths - 1 {
			m.Methods = append(m.Methods, api.Method{Name: name(k + api.MaxVars)})
		}
		p.Mons = append(p.Mons, m)
	}
	for i := range api.MaxRoles {
		s := api.Stmt{Kind: api.StSet, Mon: name(api.MaxMons - 1), Name: name(api.MaxVars - 1), E: api.Expr{Op: api.OpNum}}
		p.Roles = append(p.Roles, api.Role{Name: name(i), Count: api.MaxCount, Body: []api.Stmt{s}})
	}
	wantCheck(t, "many", p, api.OK, 0)
	last := &p.Mons[api.MaxMons-1]
	last.Methods = append(last.Methods, api.Method{Name: name(api.MaxVars + api.MaxMeths - 2), At: 44})
	wantCheck(t, "one more", p, api.ErrTwice, 44)
}

// TestCheckByTokens: P6.2, of programs that were made at random, against what their tokens say.
func TestCheckByTokens(t *testing.T) {
	told := map[api.Errno]int{}
	for seed := range uint64(6000) {
		s := newChance(seed, []int{3, 10, 40, 200, 1 << 30}[seed%5]).text(t)
		err, at := checked(t, s)
		wantCheck(t, s, parsed(t, s), err, at)
		told[err]++
	}
	for _, err := range []api.Errno{api.OK, api.ErrTwice, api.ErrUnknown, api.ErrMany} {
		if told[err] < 300 {
			t.Errorf("error %d: %d times", err, told[err])
		}
	}
}

// TestFound: P6.3.
func TestFound(t *testing.T) {
	right := 0
	for seed := range uint64(3000) {
		s := newChance(seed, 60).text(t)
		p := parsed(t, s)
		if err, _ := names.Check(p); err != api.OK {
			continue
		}
		right++
		for _, part := range parts(t, s) {
			for _, n := range append(declared(part), used(part)...) {
				if n.what != "thread" && !found(p, n) {
					t.Fatalf("%s\n%+v is not found", s, n)
				}
			}
		}
	}
	if right < 500 {
		t.Error(right)
	}
}

// found tells whether the calls find a name, and what they tell has it.
func found(p api.Program, n named) bool {
	switch n.what {
	case "monitor":
		at, ok := names.Monitor(p, n.name)
		return ok && p.Mons[at].Name == n.name
	case "method":
		f, ok := names.Method(p, n.mon, n.name)
		return ok && f.Name == n.name
	}
	slot, ok := names.Slot(p, n.mon, n.name)
	return ok && names.Slots(p)[slot].Name == n.name
}
