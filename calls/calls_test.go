package calls_test

import (
	"fmt"
	"slices"
	"testing"

	"vigil/api"
	"vigil/calls"
)

// TestNumbers: the errors' numbers and the limit that the chapter tells.
func TestNumbers(t *testing.T) {
	if api.ErrCycle != 80 || api.ErrBig != 81 || api.ErrUnknown != 61 || api.ErrShape != 20 || api.MaxInline != 400 {
		t.Error("other numbers")
	}
}

// TestCalls: P8.1: each method once, in the order in which they come first.
func TestCalls(t *testing.T) {
	for _, c := range []struct{ text, want string }{
		{"", ""},
		{"skip; sync M { wait M; } M.f = 1; notify M;", ""},
		{"call M.f;", "M.f"},
		{"call M.g; call M.f; call M.g; call M.g; call M.f;", "M.g M.f"},
		{"call M.f; call N.f; call f.M; call M.f;", "M.f N.f f.M"},
		{"call a.bc; call ab.c; call a.bc; call c.ab;", "a.bc ab.c c.ab"},
		{"if true { call M.a; } else { call M.b; } call M.c;", "M.a M.b M.c"},
		{"while true { call M.b; call M.a; } call M.b; call M.c;", "M.b M.a M.c"},
		{"loop { call M.a; }", "M.a"},
		{"sync M { call N.a; }", "N.a"},
		{"choose { call M.c; } or { call M.b; } or { call M.a; call M.c; }", "M.c M.b M.a"},
		{"loop { if true { } else { while true { choose { skip; } or { sync M { call M.z; } call M.y; } } } } call M.x; call M.z;", "M.z M.y M.x"},
	} {
		if got := calls.Calls(stmts(t, c.text)); !slices.Equal(got, refs(c.want)) {
			t.Errorf("%s: %v, want %s", c.text, got, c.want)
		}
	}
}

// TestCallsNoShape: P8.1 of what no program has, too.
func TestCallsNoShape(t *testing.T) {
	inner := []api.Stmt{call("", ""), call("if", "0")}
	l := []api.Stmt{
		{Kind: api.StCall, Mon: "M", Name: "f", N: -1, E: api.Expr{Op: 99}, Blocks: [][]api.Stmt{inner, {call("M", "f"), call("M", "")}}},
		{Kind: 77, Mon: "M", Name: "g", Blocks: [][]api.Stmt{nil, {call("M", "h")}}},
		{Kind: api.StSkip, Mon: "M", Name: "i", Blocks: [][]api.Stmt{{call("", "f")}}},
	}
	want := []api.Ref{{Mon: "M", Name: "f"}, {}, {Mon: "if", Name: "0"}, {Mon: "M"}, {Mon: "M", Name: "h"}, {Name: "f"}}
	if got := calls.Calls(l); !slices.Equal(got, want) {
		t.Errorf("%v, want %v", got, want)
	}
	if got := calls.Calls(nil); len(got) != 0 {
		t.Error(got)
	}
}

// TestCallsDeep: P8.1, of what is nested as deeply as may be, and of many.
func TestCallsDeep(t *testing.T) {
	l := within(deep, []api.Stmt{call("M", "f")})
	if got := calls.Calls(l); !slices.Equal(got, refs("M.f")) {
		t.Error(got)
	}
	var many []api.Stmt
	var want []api.Ref
	for i := range 100000 {
		name := fmt.Sprint(i % 30000)
		many = append(many, call("M", name))
		if i < 30000 {
			want = append(want, api.Ref{Mon: "M", Name: name})
		}
	}
	if got := calls.Calls(many); !slices.Equal(got, want) {
		t.Error(len(got), len(want))
	}
}

const declares = `monitor M { method f { skip; } method g { call M.f; call M.f; } method e { } method x { skip; skip; skip; } }
monitor N { method f { skip; skip; } method h { if true { call M.g; } else { call N.f; skip; } } }
`

// TestCount: P8.2, of ordinary statements: each one is 1, a call is 1 and what its method is.
func TestCount(t *testing.T) {
	p := parsed(t, declares)
	for s, want := range map[string]int{
		"": 0, "skip;": 1, "skip; skip;": 2, "M.x = 1;": 1, "M.x = 1 + 2 * 3;": 1, "wait M;": 1, "wait M 7; notify M; notifyall M;": 3,
		"if true { }": 1, "if true { skip; }": 2, "if true { skip; } else { skip; skip; }": 4, "while true { skip; }": 2, "loop { }": 1, "loop { loop { skip; } }": 3,
		"choose { } or { }": 1, "choose { skip; } or { skip; } or { skip; skip; }": 5, "sync M { }": 1, "sync M { skip; }": 2, "sync N { sync M { skip; } skip; }": 4,
		"call M.e;": 1, "call M.f;": 2, "call M.f; call M.f;": 4, "call M.g;": 5, "call M.x;": 4, "call N.f;": 3, "call N.h;": 11, "skip; call N.h; call M.e; skip;": 14,
		"loop { call M.f; }": 3, "if true { call M.f; } else { call N.f; }": 6, "while true { sync N { call M.g; skip; } }": 8, "choose { call M.e; } or { loop { call M.g; } } or { }": 8,
	} {
		wantStmts(t, p, s, want, api.OK)
	}
	// Example 1 of the chapter, and that of the map's test.
	q := parsed(t, "monitor M { method s { skip; } }")
	wantStmts(t, q, "call M.s; call M.s;", 4, api.OK)
	wantInline(t, q, "call M.s; call M.s;", "sync M { skip; } sync M { skip; }")
	wantStmts(t, api.Program{}, "loop { skip; }", 2, api.OK)
}

// TestCountShape: P8.2: ErrShape, ahead of all else: of p, or of a role that does l.
func TestCountShape(t *testing.T) {
	right := parsed(t, declares+"monitor R { method r { call R.r; } }")
	lists := [][]api.Stmt{nil, skips(1), skips(401), {call("M", "f")}, {call("X", "f")}, {call("R", "r")}}
	for i, p := range []api.Program{
		{Mons: []api.Monitor{{}}},
		{Mons: []api.Monitor{{Name: "if"}}},
		{Mons: make([]api.Monitor, api.MaxMons+1)},
		{Mons: right.Mons, Roles: []api.Role{{Name: "r", Count: -1}}},
		{Mons: right.Mons, Roles: []api.Role{{Name: "r", Body: []api.Stmt{{}}}}},
		{Mons: append(right.Mons[:3:3], api.Monitor{Name: "O", Methods: []api.Method{{Name: "f", Body: []api.Stmt{{Kind: api.StLoop}}}}})},
		{Mons: append(right.Mons[:3:3], api.Monitor{Name: "O", Vars: []api.Var{{Name: "x"}}})},
	} {
		for k, l := range lists {
			wantCount(t, fmt.Sprint("program ", i, ", list ", k), p, l, 0, api.ErrShape)
		}
	}
	for i, s := range []api.Stmt{
		{}, {Kind: -1}, {Kind: 12}, {Kind: api.StSkip, N: 1}, {Kind: api.StSkip, Mon: "M"}, {Kind: api.StLoop}, {Kind: api.StChoose, Blocks: make([][]api.Stmt, api.MaxBranch+1)},
		{Kind: api.StSync, Mon: "M", Name: "f", Blocks: make([][]api.Stmt, 1)}, {Kind: api.StSync, Mon: "M"}, {Kind: api.StSet, Mon: "M", Name: "x"},
		call("M", ""), call("", "f"), call("M", "if"), call("0", "f"), {Kind: api.StCall, Mon: "M", Name: "f", N: 2},
		{Kind: api.StCall, Mon: "M", Name: "f", Blocks: make([][]api.Stmt, 1)}, {Kind: api.StCall, Mon: "M", Name: "f", E: api.Expr{Op: api.OpTrue}},
		{Kind: api.StWait, Mon: "M", N: -1}, {Kind: api.StIf, E: api.Expr{Op: api.OpNum, N: -1}, Blocks: make([][]api.Stmt, 1)},
	} {
		for k, l := range lists {
			what := fmt.Sprint("statement ", i, " behind list ", k)
			wantCount(t, what, right, append(slices.Clone(l), s), 0, api.ErrShape)
			wantCount(t, what, right, within(3, append(slices.Clone(l), s)), 0, api.ErrShape)
		}
	}
}

// TestCountManyRoles: P8.2: that p has as many roles as there may be is no reason to refuse one of its Bodies.
func TestCountManyRoles(t *testing.T) {
	p := parsed(t, declares)
	for i := range api.MaxRoles {
		p.Roles = append(p.Roles, api.Role{Name: fmt.Sprint("r", i), Star: true, Body: stmts(t, "call M.g;")})
	}
	for _, r := range p.Roles {
		wantCount(t, r.Name, p, r.Body, 5, api.OK)
	}
	wantCheck(t, "many roles", p, api.OK, 0)
	p.Roles = append(p.Roles, api.Role{Name: "more", Star: true})
	wantCount(t, "too many roles", p, nil, 0, api.ErrShape)
}

// TestCountUnknown: P8.2: ErrUnknown, of what l calls, or leads to, ahead of cycles and of sizes.
func TestCountUnknown(t *testing.T) {
	p := parsed(t, `monitor M { var v : int = 0; method f { call M.g; } method g { loop { call N.none; } } method r { call M.s; } method s { call M.r; call M.f; } method o { call M.o; } method e { } }
monitor N { method w { call M.e; } } thread t 1 { }`)
	for _, s := range []string{
		"call X.e;", "call M.none;", "call N.e;", "call M.v;", "call t.e;", "call M.M;", "call m.e;", "call e.M;", "call M.f;", "call M.g;", "skip; call M.e; loop { if true { } else { call M.none; } }", "sync M { call M.f; }",
		// Ahead of a cycle, wherever it stands, and of a size.
		"call M.r;", "call M.s;", "call M.o; call X.e;", "call X.e; call M.o;", "call M.o; call M.f;", "call M.f; call M.o;",
	} {
		wantStmts(t, p, s, 0, api.ErrUnknown)
	}
	wantCount(t, "many", p, append(skips(1000), call("X", "e")), 0, api.ErrUnknown)
	wantCount(t, "many", p, append([]api.Stmt{call("X", "e")}, skips(1000)...), 0, api.ErrUnknown)
	wantStmts(t, p, "call M.e; call N.w;", 3, api.OK)
}

// TestCountFirst: P8.2: of several methods of a name the first one is called, of the first monitor of its name.
func TestCountFirst(t *testing.T) {
	p := parsed(t, `monitor M { method f { skip; skip; } method f { } method h { call M.f; } method h { call M.none; } }
monitor M { method f { skip; } method g { skip; } } monitor N { method f { } method g { call M.f; } }`)
	wantStmts(t, p, "call M.f;", 3, api.OK)
	wantStmts(t, p, "call M.h;", 4, api.OK)
	wantStmts(t, p, "call M.g;", 0, api.ErrUnknown)
	wantStmts(t, p, "call N.f;", 1, api.OK)
	wantStmts(t, p, "call N.g;", 4, api.OK)
	wantInline(t, p, "call N.g;", "sync N { sync M { skip; skip; } }")
	q := parsed(t, "monitor M { method f { call M.f; } method f { } } monitor N { method f { } method f { call N.f; } }")
	wantStmts(t, q, "call M.f;", 0, api.ErrCycle)
	wantStmts(t, q, "call N.f;", 1, api.OK)
}

// TestCountCycle: P8.2: ErrCycle, where l leads to a method that leads to itself; ahead of sizes.
func TestCountCycle(t *testing.T) {
	p := parsed(t, `monitor M { method own { call M.own; } method a { skip; call N.b; } method to { skip; call M.e; call M.a; } method e { } method two { call M.e; call M.e; } }
monitor N { method b { if true { } else { choose { } or { call N.c; } } } method c { sync N { call M.a; } } method from { call M.to; } method deep { loop { while true { call N.deep; } } } method x { call N.none; } }`)
	for _, s := range []string{
		"call M.own;", "call M.a;", "call N.b;", "call N.c;", "call M.to;", "call N.from;", "call N.deep;", "call M.e; call M.own;", "call M.own; call M.e;", "loop { sync M { call M.to; } }", "call M.two; call N.from; call M.two;",
	} {
		wantStmts(t, p, s, 0, api.ErrCycle)
	}
	// Those that are called again and again go round no more than others; a cycle that is not led to is none here.
	wantStmts(t, p, "call M.e; call M.e; call M.two; call M.two; loop { call M.e; }", 10, api.OK)
	wantCount(t, "many", p, append(skips(1000), call("N", "from")), 0, api.ErrCycle)
	wantCount(t, "many", p, append([]api.Stmt{call("N", "from")}, skips(1000)...), 0, api.ErrCycle)
	for _, last := range []string{"n", "nx", "nxxxxxxxxxxxxxxx"} {
		q := chain(func(next api.Stmt) []api.Stmt { return []api.Stmt{next} })
		wantCount(t, "a chain", q, q.Roles[0].Body, api.MaxMons*api.MaxMeths, api.OK)
		q.Mons[api.MaxMons-1].Methods[api.MaxMeths-1].Body = []api.Stmt{call(q.Mons[api.MaxMons-1].Name, last)}
		wantCount(t, "a chain to "+last, q, q.Roles[0].Body, 0, api.ErrCycle)
	}
}

// TestCountBig: P8.2: ErrBig of more than MaxInline, at the edge: of statements side by side, within one another, and of calls.
func TestCountBig(t *testing.T) {
	p := parsed(t, declares)
	p.Mons = append(p.Mons, api.Monitor{Name: "B", Methods: []api.Method{
		{Name: "half", Body: skips(199)}, {Name: "most", Body: skips(399)}, {Name: "over", Body: skips(400)}, {Name: "twice", Body: []api.Stmt{call("B", "half"), call("B", "half")}},
		{Name: "less", Body: append(skips(198), call("B", "half"))}, {Name: "nested", Body: within(399, nil)}, {Name: "vast", Body: skips(10000)},
	}})
	for _, c := range []struct {
		what string
		l    []api.Stmt
		n    int
	}{
		{"399", skips(399), 399}, {"400", skips(400), 400}, {"401", skips(401), 0}, {"many", skips(200000), 0},
		{"nested 400", within(400, nil), 400}, {"nested 401", within(401, nil), 0}, {"nested with one", within(399, skips(1)), 400}, {"nested with two", within(399, skips(2)), 0},
		{"deep", within(deep, nil), 0}, {"deep, and a call", within(deep, []api.Stmt{call("M", "f")}), 0},
		{"half", []api.Stmt{call("B", "half")}, 200}, {"half twice", []api.Stmt{call("B", "half"), call("B", "half")}, 400},
		{"half twice and one", append(skips(1), call("B", "half"), call("B", "half")), 0}, {"half, and one, and half", []api.Stmt{call("B", "half"), skips(1)[0], call("B", "half")}, 0},
		{"half twice within one", within(1, []api.Stmt{call("B", "half"), call("B", "half")}), 0}, {"twice", []api.Stmt{call("B", "twice")}, 0},
		{"most", []api.Stmt{call("B", "most")}, 400}, {"most and one", append([]api.Stmt{call("B", "most")}, skips(1)...), 0}, {"over", []api.Stmt{call("B", "over")}, 0},
		{"less", []api.Stmt{call("B", "less")}, 399}, {"less and one", append(skips(1), call("B", "less")), 400}, {"less and two", append(skips(2), call("B", "less")), 0},
		{"nested", []api.Stmt{call("B", "nested")}, 400}, {"vast", []api.Stmt{call("B", "vast")}, 0}, {"vast, often", slices.Repeat([]api.Stmt{call("B", "vast")}, 100000), 0},
		{"200 calls of 2", slices.Repeat([]api.Stmt{call("M", "f")}, 200), 400}, {"201 calls of 2", slices.Repeat([]api.Stmt{call("M", "f")}, 201), 0},
		{"400 calls of 1", slices.Repeat([]api.Stmt{call("M", "e")}, 400), 400}, {"401 calls of 1", slices.Repeat([]api.Stmt{call("M", "e")}, 401), 0},
	} {
		err := api.OK
		if c.n == 0 {
			err = api.ErrBig
		}
		wantCount(t, c.what, p, c.l, c.n, err)
	}
	// What is not called counts nothing, however big it is.
	wantStmts(t, p, "call M.f;", 2, api.OK)
}

// TestCountEnds: P8.2: methods that call one another twice, in a chain, would be 2^128 statements.
func TestCountEnds(t *testing.T) {
	p := chain(func(next api.Stmt) []api.Stmt { return []api.Stmt{next, next} })
	wantCount(t, "doubled", p, p.Roles[0].Body, 0, api.ErrBig)
	wantCheck(t, "doubled", p, api.ErrBig, 7)
	// From the end on: 1, 3, 7, ..
	all := p.Mons[api.MaxMons-1]
	for i, n := range []int{1, 3, 7, 15, 31, 63, 127, 255, 0, 0} {
		l := []api.Stmt{call(all.Name, all.Methods[api.MaxMeths-1-i].Name)}
		err := api.OK
		if n == 0 {
			err = api.ErrBig
		}
		wantCount(t, fmt.Sprint("doubled ", i, " times"), p, l, n, err)
	}
}

// TestCountDeep: P8.2: what is called may be as deep, one within the other.
func TestCountDeep(t *testing.T) {
	p := chain(func(next api.Stmt) []api.Stmt { return []api.Stmt{next} })
	for i := range p.Mons[0].Methods {
		p.Mons[0].Methods[i].Body = within(deep, p.Mons[0].Methods[i].Body)
	}
	wantCount(t, "deep methods", p, p.Roles[0].Body, 0, api.ErrBig)
	q := chain(func(next api.Stmt) []api.Stmt { return within(2, []api.Stmt{next}) })
	wantCount(t, "a chain", q, q.Roles[0].Body, 128+127*2, api.OK)
}
