package own_test

import (
	"fmt"
	"reflect"
	"slices"
	"strings"
	"testing"

	"vigil/api"
	"vigil/own"
)

// TestNumbers: the errors' numbers that the chapter tells.
func TestNumbers(t *testing.T) {
	if api.ErrOwn != 90 || api.ErrPure != 91 {
		t.Error("other numbers")
	}
}

// TestScopeRight: P9.1, of statements in which all is owned that is asked for.
func TestScopeRight(t *testing.T) {
	for s, owned := range map[string]string{
		"": "", " ": "M", "skip; loop { } choose { } or { skip; } if true { } else { } while 1 == 2 { }": "",
		// A call asks for nothing, a sync neither.
		"call M.f; sync M { call N.f; } call N.f;": "", "sync M { } sync N { sync M { } } sync M { sync M { } }": "",
		"M.x = 1;": "M", "wait M; wait M 7; notify M; notifyall M;": "M", "notify N; notify M; notify O; notify N;": "O N M",
		"M.x = M.y + 2 * (N.x - -M.x);": "M N", "if M.x == N.x { } while !(M.b && N.b) { M.x = N.x; }": "N M",
		"sync M { M.x = M.x; wait M; wait M 3; notify M; notifyall M; }":                                                "",
		"sync M { sync N { M.x = N.x; notify M; notify N; } notify M; } sync N { notify N; }":                           "",
		"sync M { sync M { notify M; } notify M; sync N { } notify M; }":                                                "",
		"sync M { sync N { sync M { } notify N; notify M; } sync O { notify M; notify O; } notify M; }":                 "",
		"sync N { notify M; sync O { notify N; } notify N; notify M; } notify M;":                                       "M",
		"sync M { if M.b { M.x = 1; } else { loop { choose { notify M; } or { if M.b { } else { notifyall M; } } } } }": "",
		"notify M;": "M M M", "sync M { notify M; } notify M; sync M { } notify M;": "M",
	} {
		wantStmts(t, s, owned, api.OK)
	}
	wantScope(t, "nil", nil, nil, api.OK, 0)
	wantScope(t, "nil", nil, []string{"", "M"}, api.OK, 0)
}

// TestScopeAsks: P9.1: each kind that asks for its own monitor, and names that are all but the same.
func TestScopeAsks(t *testing.T) {
	for _, s := range []string{"M.x = 1;", "wait M;", "wait M 7;", "notify M;", "notifyall M;"} {
		for _, owned := range []string{"", "N", "m", "MM", "x", "N O P", "m MM M1 _M"} {
			wantStmts(t, "@"+s, owned, api.ErrOwn)
			wantStmts(t, s, owned+" M", api.OK)
			wantStmts(t, s, "M "+owned, api.OK)
			wantStmts(t, "sync M { skip; "+s+" }", owned, api.OK)
			wantStmts(t, "sync N { skip; @"+s+" }", owned, api.ErrOwn)
		}
	}
	for _, s := range []string{"M.x = @N.y;", "if @N.y == 0 { }", "if @N.y == 0 { } else { }", "while @N.y == 0 { }"} {
		wantStmts(t, s, "M", api.ErrOwn)
		wantStmts(t, strings.ReplaceAll(s, "@", ""), "M N", api.OK)
		wantStmts(t, "sync N { "+strings.ReplaceAll(s, "@", "")+" }", "M", api.OK)
		wantStmts(t, "sync M { } sync O { "+s+" }", "M", api.ErrOwn)
	}
}

// TestScopeFirst: P9.1: of several errors the first one: a statement's own, then those of its expression from the left, then those in its blocks; then the next statement's.
func TestScopeFirst(t *testing.T) {
	for _, s := range []string{
		"@N.x = O.x;", "M.x = @N.x + O.x;", "M.x = M.x + (M.y - @O.x) + N.x;", "M.x = 2 * -(@N.x); notify N;", "M.x = @N.x - N.x;",
		"if M.x < 1 && (M.x == -@O.x || N.b) { notify N; }", "while !(!(@N.b)) { notify O; }", "if @N.x == M.x { notify O; } else { notify N; }",
		"if M.b { @notify O; } else { notify N; } notify O;", "if M.b { } else { @notify N; } notify O;", "choose { } or { notify M; } or { loop { @notify O; } } or { notify N; }",
		"@notify N; notify O;", "skip; notify M; @notify O; notify N;", "loop { @notify N; } notify O;", "while true { while true { } @wait O; } notify N;",
		"if true { if true { @notify N; } notify O; }", "loop { loop { } } @notify N;",
	} {
		wantStmts(t, s, "M", api.ErrOwn)
	}
}

// TestScopeSync: P9.1: a sync owns its monitor in its block, and nowhere else.
func TestScopeSync(t *testing.T) {
	for _, s := range []string{
		"sync N { } @notify N;", "@notify N; sync N { }", "sync N { notify N; } @notify N;", "sync N { sync N { notify N; } } @notify N;",
		"sync N { sync N { } notify N; } sync O { @notify N; }", "sync N { sync O { notify O; } @notify O; }", "sync O { sync N { } notify O; @notify N; }",
		"sync O { sync N { notify O; notify N; } sync P { notify O; notify P; @notify N; } }", "sync O { sync P { } } sync P { notify P; @notify O; }",
		"if true { sync N { } } else { @notify N; }", "choose { sync N { notify N; } } or { @notify N; }", "loop { sync N { } @notify N; }", "sync N { sync M { } } notify M; @notify N;",
		"sync N { sync O { sync P { } } sync P { notify N; notify P; @notify O; } }", "sync N { sync O { sync N { notify O; } notify N; } notify N; } @notify O;",
		// A call owns nothing, not even behind it.
		"call N.f; @notify N;", "sync O { call N.f; @N.x = 1; }",
	} {
		wantStmts(t, s, "M", api.ErrOwn)
	}
}

// TestScopePure: P9.1: ErrPure, at what a guard reads of another monitor than its waits'.
func TestScopePure(t *testing.T) {
	for _, s := range []string{
		// Example 1 of the chapter.
		"while @N.x == 0 { wait M; }",
		"if @N.x == 0 { wait M; }", "if @N.b { } else { wait M; }", "if @N.b { notify M; } else { skip; wait M 3; skip; }", "while @N.b { notify M; loop { } wait M 7; }",
		"if M.x == @N.x { wait M; }", "while M.b && 2 * M.x == M.y - -(@N.x) || O.b { wait M; }", "while @N.b && M.b { wait M; }", "while !(@N.b) { wait M; }", "if @O.b || N.b { wait M; }",
		// All waits must have it: of two that are unlike no variable is.
		"while @M.b { wait M; wait N; }", "while @M.b { wait N; wait M; }", "if @M.b { wait M; } else { wait N; }", "if @N.b { wait M; } else { wait N; }", "while @O.b { wait M; wait N; }",
		"while 1 == 2 && @M.b && N.b { wait M; wait M; wait M; wait N; wait M; }", "if @M.b { wait M; skip; } else { wait M; notify N; wait M; wait N; }",
		// One that stands itself in the block, beside one that is deeper.
		"while @N.b { if M.b { wait M; } wait M; }", "while @N.b { loop { wait N; } wait M; }",
		// Within a guard that is right, and behind one.
		"while M.b { wait M; if @N.b { wait M; } }", "while N.b { wait N; } while @N.b { wait M; }", "if M.b { } else { if N.b { } else { while @M.b { wait N; } } }",
	} {
		wantStmts(t, s, "M N O", api.ErrPure)
		wantStmts(t, "sync O { sync N { "+s+" } }", "M", api.ErrPure)
	}
}

// TestScopeNoGuard: P9.1: what reads other monitors, and is no guard, or the guard of what is deeper.
func TestScopeNoGuard(t *testing.T) {
	for _, s := range []string{
		"while M.x == 0 { wait M; }", "if M.b && M.x == M.y { wait M; skip; wait M 3; } else { notify N; wait M; }", "while N.b { wait N; } while M.b { wait M; }",
		"while true { wait M; wait N; }", "if 1 == 2 { wait M; } else { wait N; wait O; }", "if N.b { } else { }", "while N.b && M.b { notify M; notifyall N; skip; }",
		"while N.b { sync M { wait M; } }", "while N.b { if M.b { wait M; } }", "if N.b { loop { wait M; } } else { choose { } or { wait M; } }", "if N.b { while true { wait M; } }",
		"while N.b { if M.b { wait M; } wait N; }", "M.x = N.x; wait M;", "M.x = N.x; wait M; if N.b { } wait M;", "if N.b { call M.f; }",
		"loop { wait M; if N.b { } }", "choose { wait M; } or { while N.b { } }",
	} {
		wantStmts(t, s, "O N M", api.OK)
	}
}

// TestScopeOrder: P9.1: who asks for what is not owned comes ahead of ErrPure in one expression, and behind it in a block.
func TestScopeOrder(t *testing.T) {
	wantStmts(t, "while @N.b { wait M; }", "N", api.ErrPure)
	wantStmts(t, "while @N.b { wait M; }", "M", api.ErrOwn)
	wantStmts(t, "while @N.b { wait M; }", "", api.ErrOwn)
	wantStmts(t, "while true { @wait M; }", "N", api.ErrOwn)
	wantStmts(t, "while N.b && @O.b { wait M; }", "M N", api.ErrOwn)
	wantStmts(t, "while @N.b && O.b { wait M; }", "M N O", api.ErrPure)
	wantStmts(t, "while @N.b { notify O; wait M; }", "N", api.ErrPure)
	wantStmts(t, "if @N.b { notify O; } else { notify O; wait M; }", "N M", api.ErrPure)
	wantStmts(t, "while M.b { @notify O; wait M; if N.b { wait M; } }", "N M", api.ErrOwn)
	wantStmts(t, "while M.b { wait M; if @N.b { wait M; } notify O; }", "N M", api.ErrPure)
	wantStmts(t, "@notify O; while N.b { wait M; }", "N M", api.ErrOwn)
	wantStmts(t, "while @N.b { wait M; } notify O;", "N M", api.ErrPure)
}

// TestScopeNoShape: P9.1 of what no program has: its words hold of each kind, whatever else it has.
func TestScopeNoShape(t *testing.T) {
	in := func(kind int, e api.Expr, blocks ...[]api.Stmt) []api.Stmt {
		return []api.Stmt{{Kind: kind, Mon: "M", E: e, Blocks: blocks, At: 3}}
	}
	none := api.Expr{At: 2}
	for kind := -2; kind < 15; kind++ {
		what := fmt.Sprint("kind ", kind)
		asks := slices.Contains([]int{api.StSet, api.StWait, api.StNotify, api.StAll}, kind)
		guards := kind == api.StIf || kind == api.StWhile
		tell := func(on bool, err api.Errno, at int) (api.Errno, int) {
			if on {
				return err, at
			}
			return api.OK, 0
		}
		err, at := tell(asks, api.ErrOwn, 3)
		wantScope(t, what, in(kind, none), nil, err, at)
		wantScope(t, what, in(kind, none), []string{"M"}, api.OK, 0)
		// Its expression is gone over in any case, and in a sync with what is owned outside.
		wantScope(t, what, in(kind, read("N", 5)), []string{"M"}, api.ErrOwn, 5)
		if !asks {
			wantScope(t, what, in(kind, read("M", 5), []api.Stmt{notify("M", 6)}), []string{"N"}, api.ErrOwn, 5)
		}
		// Its blocks too, each of them, which own the monitor of a sync alone.
		for n := range 10 {
			blocks := append(make([][]api.Stmt, n), []api.Stmt{notify("N", 6)})
			wantScope(t, what, in(kind, none, blocks...), []string{"M"}, api.ErrOwn, 6)
			wantScope(t, what, in(kind, none, blocks...), []string{"N", "M"}, api.OK, 0)
			if !asks {
				err, at := tell(kind != api.StSync, api.ErrOwn, 7)
				wantScope(t, what, in(kind, none, append(make([][]api.Stmt, n), []api.Stmt{notify("M", 7)})...), nil, err, at)
			}
			err, at := tell(guards, api.ErrPure, 5)
			wantScope(t, what, in(kind, read("N", 5), append(blocks, []api.Stmt{wait("M", 8)})...), []string{"M", "N"}, err, at)
			wantScope(t, what, in(kind, read("M", 5), append(blocks, []api.Stmt{wait("M", 8)})...), []string{"M", "N"}, api.OK, 0)
		}
	}
}

// TestScopeExprs: P9.1: expressions are gone over as they stand, from the left, whatever they are.
func TestScopeExprs(t *testing.T) {
	within := of(api.OpVar, read("N", 7), read("O", 8))
	within.Mon = "M"
	for _, c := range []struct {
		e     api.Expr
		owned string
		at    int
	}{
		{within, "", 1}, {within, "N", 1}, {within, "M", 7}, {within, "M N", 8}, {within, "O M", 7}, {within, "O N M", 0},
		{of(api.OpNum, read("N", 7)), "", 7}, {of(99, of(-1, of(0), of(api.OpVar, read("N", 7)))), "", 1}, {of(api.OpTrue, of(api.OpFalse), of(api.OpNot, read("O", 8), read("N", 7))), "O", 7},
		{of(api.OpAdd, of(api.OpAdd, read("N", 4), read("O", 5)), of(api.OpOr, read("P", 6))), "N O", 6}, {of(api.OpAdd, of(api.OpAdd, read("N", 4), read("O", 5)), read("P", 6)), "N P", 5},
		{of(api.OpAdd, of(api.OpAdd, read("N", 4), read("O", 5)), read("P", 6)), "O P", 4}, {api.Expr{Op: api.OpNum, Mon: "N", At: 9}, "", 0}, {api.Expr{Op: 99, Mon: "N", Name: "x", At: 9}, "", 0},
	} {
		for _, kind := range []int{api.StSkip, api.StIf, api.StSync, 77} {
			err := api.ErrOwn
			if c.at == 0 {
				err = api.OK
			}
			wantScope(t, fmt.Sprintf("%+v", c.e), []api.Stmt{{Kind: kind, Mon: "M", E: c.e, At: 3}}, strings.Fields(c.owned), err, c.at)
		}
	}
}

// TestScopeNames: P9.1: names are compared as texts, those too that are none.
func TestScopeNames(t *testing.T) {
	for _, mon := range []string{"", " ", "M", "if", "0", "M.x", "\xff", "M\x00", strings.Repeat("n", 1000)} {
		l := []api.Stmt{notify(mon, 4)}
		for _, owned := range [][]string{nil, {mon + "x"}, {"x" + mon}, {mon + " "}, {"Mm", "iF", "00"}} {
			wantScope(t, mon, l, owned, api.ErrOwn, 4)
			wantScope(t, mon, l, append(slices.Clone(owned), mon), api.OK, 0)
			wantScope(t, mon, []api.Stmt{{Kind: api.StSync, Mon: mon, Blocks: [][]api.Stmt{l}}}, owned, api.OK, 0)
		}
	}
}

// TestScopePlaces: P9.1: the place is what At says, whatever it is.
func TestScopePlaces(t *testing.T) {
	for _, at := range []int{-1 << 63, -1, 0, 1, 1<<63 - 1} {
		wantScope(t, "a statement", []api.Stmt{notify("M", at)}, nil, api.ErrOwn, at)
		wantScope(t, "a variable", []api.Stmt{{Kind: api.StLoop, E: of(api.OpNot, read("M", at)), At: 5}}, nil, api.ErrOwn, at)
		wantScope(t, "a guard", []api.Stmt{{Kind: api.StIf, E: of(api.OpNot, read("M", at)), Blocks: [][]api.Stmt{{wait("N", 7)}}, At: 5}}, []string{"M"}, api.ErrPure, at)
	}
}

// TestScopeKeeps: what is handed in is not changed, the room behind it neither.
func TestScopeKeeps(t *testing.T) {
	for seed := range uint64(300) {
		c, again := newChance(seed, 20, 10), newChance(seed, 20, 10)
		l, same := c.block([]string{"a"}, 4), again.block([]string{"a"}, 4)
		room := []string{"a", "P", "a", "Q", "R", "S", "T"}
		kept := slices.Clone(room)
		for n := range room {
			own.Scope(l, room[:n]...)
		}
		if !reflect.DeepEqual(l, same) || !slices.Equal(room, kept) {
			t.Fatalf("seed %d: %q", seed, room)
		}
	}
	room := []string{"M", "P", "Q", "R"}
	l := parsed(t, "thread t 1 { sync N { notify M; sync O { notify N; notify O; } } }").Roles[0].Body
	wantScope(t, "spare room", l, room[:1], api.OK, 0)
	if !slices.Equal(room, []string{"M", "P", "Q", "R"}) {
		t.Errorf("%q", room)
	}
}

// TestScopeDeep: P9.1, of what is nested as deeply as may be, with one monitor and with one a level.
func TestScopeDeep(t *testing.T) {
	name := func(i int) string { return fmt.Sprint("n", i) }
	loop := func(int) api.Stmt { return api.Stmt{Kind: api.StLoop} }
	one := func(int) api.Stmt { return api.Stmt{Kind: api.StSync, Mon: "M"} }
	each := func(i int) api.Stmt { return api.Stmt{Kind: api.StSync, Mon: name(i)} }
	inner := []api.Stmt{notify("M", 4), notify("N", 5)}
	wantScope(t, "loops", nested(deep, inner, loop), []string{"M"}, api.ErrOwn, 5)
	wantScope(t, "loops", nested(deep, inner, loop), []string{"M", "N"}, api.OK, 0)
	wantScope(t, "one", nested(deep, inner, one), nil, api.ErrOwn, 5)
	wantScope(t, "one", nested(deep, inner, one), []string{"N"}, api.OK, 0)
	var asks []api.Stmt
	for i := range deep {
		asks = append(asks, notify(name(i), 100+i))
	}
	wantScope(t, "each", nested(deep, asks, each), nil, api.OK, 0)
	wantScope(t, "each but one", nested(deep-1, asks, each), nil, api.ErrOwn, 100+deep-1)
	e := read("M", 4)
	for range deep {
		e = of(api.OpAdd, of(api.OpNum), e)
	}
	wait := [][]api.Stmt{{wait("N", 6)}}
	wantScope(t, "an expression", []api.Stmt{{Kind: api.StWhile, E: e, Blocks: wait}}, []string{"N"}, api.ErrOwn, 4)
	wantScope(t, "an expression", []api.Stmt{{Kind: api.StWhile, E: e, Blocks: wait}}, []string{"N", "M"}, api.ErrPure, 4)
}

// TestScopeMany: P9.1, of many names, statements, variables and waits.
func TestScopeMany(t *testing.T) {
	const many = 100000
	var owned []string
	var asks, syncs, waits []api.Stmt
	var sum api.Expr
	for i := range many {
		name := fmt.Sprint("n", i)
		owned = append(owned, name)
		asks = append(asks, notify(name, 100+i))
		syncs = append(syncs, api.Stmt{Kind: api.StSync, Mon: name, Blocks: [][]api.Stmt{{notify(name, 100+i), notify("n0", 50)}}})
		waits = append(waits, wait("n0", 100+i))
		sum.Kids = append(sum.Kids, read("n0", 200+i))
	}
	wantScope(t, "asks", asks, owned, api.OK, 0)
	wantScope(t, "asks", asks, owned[:many-1], api.ErrOwn, 100+many-1)
	wantScope(t, "syncs", syncs, []string{"n0"}, api.OK, 0)
	wantScope(t, "syncs", append(syncs[1:], notify("n1", 40)), []string{"n0"}, api.ErrOwn, 40)
	guard := []api.Stmt{{Kind: api.StWhile, E: sum, Blocks: [][]api.Stmt{waits}}}
	wantScope(t, "waits", guard, []string{"n0"}, api.OK, 0)
	sum.Kids[many-1].Mon = "n1"
	wantScope(t, "waits", guard, owned, api.ErrPure, 200+many-1)
	waits[many-1].Mon = "n1"
	wantScope(t, "waits", guard, owned, api.ErrPure, 200)
}

// TestScopeUpward: P9.1, of statements that were made at random, against going upward from each of them.
func TestScopeUpward(t *testing.T) {
	told := map[api.Errno]int{}
	for seed := range uint64(20000) {
		c := newChance(seed, []int{3, 10, 30, 1 << 30}[seed%4], []int{4, 30, 1 << 30}[seed%3])
		owned := c.owned()
		l := c.block(owned, 5)
		err, at := scoped(l, owned)
		wantScope(t, fmt.Sprint("seed ", seed), l, owned, err, at)
		told[err]++
	}
	for _, err := range []api.Errno{api.OK, api.ErrOwn, api.ErrPure} {
		if told[err] < 1000 {
			t.Errorf("error %d: %d times", err, told[err])
		}
	}
}

// TestMoreIsMore: P9.3: where Scope is OK, it is so with more that is owned, wherever it stands in the list.
func TestMoreIsMore(t *testing.T) {
	right, asking := 0, 0
	for seed := range uint64(6000) {
		c := newChance(seed, 20, 20)
		owned := c.owned()
		l := c.block(owned, 5)
		if err, _ := own.Scope(l, owned...); err != api.OK {
			continue
		}
		right++
		if err, _ := own.Scope(l); err != api.OK {
			asking++
		}
		for range 5 {
			more := slices.Clone(owned)
			for range 1 + c.IntN(4) {
				more = slices.Insert(more, c.IntN(len(more)+1), c.one(append(c.mons, "other", "")))
			}
			wantScope(t, fmt.Sprint("seed ", seed), l, more, api.OK, 0)
		}
	}
	if right < 1000 || asking < 300 {
		t.Error(right, asking)
	}
}
