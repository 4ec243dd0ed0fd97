package flow_test

import (
	"reflect"
	"slices"
	"testing"

	"vigil/api"
	"vigil/flow"
)

// TestNumbers: the numbers that the chapter tells.
func TestNumbers(t *testing.T) {
	kinds := []int{api.EdSkip, api.EdTest, api.EdSet, api.EdEnter, api.EdLeave, api.EdWait, api.EdNotify, api.EdAll, api.EdPick}
	if api.ErrWide != 120 || api.MaxLocs != 600 || !slices.Equal(kinds, []int{1, 2, 3, 4, 5, 6, 7, 8, 9}) {
		t.Error("other numbers")
	}
}

// TestLowerPlain: P12.1, of statements that make one edge.
func TestLowerPlain(t *testing.T) {
	wantFlow(t, "", 1)
	// Example 1 of the chapter.
	wantFlow(t, "skip; skip;", 3, "0>1 skip @skip", "1>2 skip @skip")
	wantFlow(t, "a.n = 2 * a.n + z.u;", 2, "0>1 set var2 [2 * a.n + z.u]@2 @a.n")
	wantFlow(t, "z.u = 3; c.b = (!(c.b)); a.b = true;", 4, "0>1 set [3]@3 @z.u", "1>2 set var3 [!c.b]@!(c.b)) @c.b", "2>3 set var1 [true]@true @a.b")
	wantFlow(t, "notify z; notify c; notifyall a; notifyall z;", 5, "0>1 notify @notify", "1>2 notify mon2 @notify", "2>3 all mon1 @notifyall", "3>4 all @notifyall")
}

// TestLowerSync: P12.1.
func TestLowerSync(t *testing.T) {
	wantFlow(t, "sync c { }", 3, "0>1 enter mon2 @sync", "1>2 leave mon2 @sync")
	wantFlow(t, "skip; sync a { skip; sync z { notify a; } } skip;", 9,
		"0>1 skip @skip", "1>2 enter mon1 @sync", "2>3 skip @skip", "3>4 enter @sync", "4>5 notify mon1 @notify", "5>6 leave @sync", "6>7 leave mon1 @sync", "7>8 skip @skip")
}

// TestLowerIf: P12.1: with and without a second block, and with empty ones.
func TestLowerIf(t *testing.T) {
	for _, s := range []string{"if a.b { }", "if a.b { } else { }"} {
		wantFlow(t, s, 4, "0>1 test [a.b]@a.b @a.b", "1>2 skip @if", "0>3 test [!a.b]@a.b @a.b", "3>2 skip @if")
	}
	wantFlow(t, "if a.n == 1 { skip; } notify c;", 6,
		"0>1 test [a.n == 1]@a.n @a.n", "1>2 skip @skip", "2>3 skip @if", "0>4 test [!a.n == 1]@a.n @a.n", "4>3 skip @if", "3>5 notify mon2 @notify")
	wantFlow(t, "notify c; if !a.b { skip; skip; } else { notify a; } skip;", 9,
		"0>1 notify mon2 @notify", "1>2 test [!a.b]@!a.b @!a.b", "2>3 skip @skip", "3>4 skip @skip", "4>5 skip @if",
		"1>6 test [!!a.b]@!a.b @!a.b", "6>7 notify mon1 @notify", "7>5 skip @if", "5>8 skip @skip")
	wantFlow(t, "if true { if a.b { } } else { if c.b { } }", 10,
		"0>1 test [true]@true @true", "1>2 test [a.b]@a.b @a.b", "2>3 skip @if", "1>4 test [!a.b]@a.b @a.b", "4>3 skip @if", "3>5 skip @if",
		"0>6 test [!true]@true @true", "6>7 test [c.b]@c.b @c.b", "7>8 skip @if", "6>9 test [!c.b]@c.b @c.b", "9>8 skip @if", "8>5 skip @if")
}

// TestLowerWhile: P12.1.
func TestLowerWhile(t *testing.T) {
	wantFlow(t, "while a.b { }", 3, "0>1 test [a.b]@a.b @a.b", "1>0 skip @while", "0>2 test [!a.b]@a.b @a.b")
	wantFlow(t, "skip; while a.n < 3 { a.n = a.n + 1; while a.b { } } notify z;", 8,
		"0>1 skip @skip", "1>2 test [a.n < 3]@a.n @a.n", "2>3 set var2 [a.n + 1]@a.n @a.n",
		"3>4 test [a.b]@a.b @a.b", "4>3 skip @while", "3>5 test [!a.b]@a.b @a.b", "5>1 skip @while", "1>6 test [!a.n < 3]@a.n @a.n", "6>7 notify @notify")
}

// TestLowerLoop: P12.1: behind a loop a place is made, to which no edge of the loop leads.
func TestLowerLoop(t *testing.T) {
	wantFlow(t, "loop { }", 2, "0>0 skip @loop")
	wantFlow(t, "loop { skip; } notify a;", 4, "0>1 skip @skip", "1>0 skip @loop", "2>3 notify mon1 @notify")
	wantFlow(t, "loop { loop { } } loop { }", 4, "0>0 skip @loop", "1>0 skip @loop", "2>2 skip @loop")
	wantFlow(t, "skip; loop { while a.b { } loop { notify a; } }", 7,
		"0>1 skip @skip", "1>2 test [a.b]@a.b @a.b", "2>1 skip @while", "1>3 test [!a.b]@a.b @a.b", "3>4 notify mon1 @notify", "4>3 skip @loop", "5>1 skip @loop")
}

// TestLowerChoose: P12.1, of one block up to as many as there may be.
func TestLowerChoose(t *testing.T) {
	wantFlow(t, "choose { }", 3, "0>1 pick @choose", "1>2 skip @choose")
	wantFlow(t, "choose { skip; } or { } or { notify a; skip; } skip;", 9,
		"0>1 pick @choose", "1>2 skip @skip", "0>3 pick n1 @choose", "0>4 pick n2 @choose", "4>5 notify mon1 @notify", "5>6 skip @skip",
		"2>7 skip @choose", "3>7 skip @choose", "6>7 skip @choose", "7>8 skip @skip")
	wantFlow(t, "choose { } or { choose { } or { } }", 7,
		"0>1 pick @choose", "0>2 pick n1 @choose", "2>3 pick @choose", "2>4 pick n1 @choose", "3>5 skip @choose", "4>5 skip @choose", "1>6 skip @choose", "5>6 skip @choose")
	wantFlow(t, "choose { } or { } or { } or { } or { } or { } or { } or { }", 10,
		"0>1 pick @choose", "0>2 pick n1 @choose", "0>3 pick n2 @choose", "0>4 pick n3 @choose", "0>5 pick n4 @choose", "0>6 pick n5 @choose", "0>7 pick n6 @choose", "0>8 pick n7 @choose",
		"1>9 skip @choose", "2>9 skip @choose", "3>9 skip @choose", "4>9 skip @choose", "5>9 skip @choose", "6>9 skip @choose", "7>9 skip @choose", "8>9 skip @choose")
}

// TestLowerCalls: P12.1: what is called stands within its monitor, at the place of the call.
func TestLowerCalls(t *testing.T) {
	wantFlow(t, "call a.f; call c.h;", 13,
		"0>1 enter mon1 @call", "1>2 set var2 [1]@1 @a.n", "2>3 leave mon1 @call",
		"3>4 enter mon2 @call", "4>5 test [c.b]@c.b @c.b", "5>6 enter mon1 @call", "6>7 set var2 [1]@1 @a.n", "7>8 leave mon1 @call", "8>9 wait mon2 n5 site1 @wait",
		"9>10 skip out1 @if", "4>11 test [!c.b]@c.b @c.b", "11>10 skip @if", "10>12 leave mon2 @call", "guard mon2 [!c.b]@c.b")
	// A wait in a method does not stand in what is around the call, and each call has guards of its own.
	wantFlow(t, "sync a { while a.n == 0 { call a.g; } call a.g; }", 15,
		"0>1 enter mon1 @sync", "1>2 test [a.n == 0]@a.n @a.n", "2>3 enter mon1 @call", "3>4 test [a.b]@a.b @a.b", "4>5 wait mon1 site1 @wait", "5>3 skip @while", "3>6 test out1 [!a.b]@a.b @a.b",
		"6>7 leave mon1 @call", "7>1 skip @while", "1>8 test [!a.n == 0]@a.n @a.n",
		"8>9 enter mon1 @call", "9>10 test [a.b]@a.b @a.b", "10>11 wait mon1 site2 @wait", "11>9 skip @while", "9>12 test out2 [!a.b]@a.b @a.b", "12>13 leave mon1 @call", "13>14 leave mon1 @sync",
		"guard mon1 [!a.b]@a.b loop", "guard mon1 [!a.b]@a.b loop")
}

// TestGuardBare: P12.2: a wait that stands in no if and no while, or deeper than that, waits for what is true, and leaves its guard itself.
func TestGuardBare(t *testing.T) {
	wantFlow(t, "wait a;", 2, "0>1 wait mon1 site1 out1 @wait", "guard mon1 [true]@wait")
	wantFlow(t, "wait z 7; skip; wait c;", 4, "0>1 wait n7 site1 out1 @wait", "1>2 skip @skip", "2>3 wait mon2 site2 out2 @wait", "guard mon0 [true]@wait", "guard mon2 [true]@wait")
	wantFlow(t, "sync a { wait a; }", 4, "0>1 enter mon1 @sync", "1>2 wait mon1 site1 out1 @wait", "2>3 leave mon1 @sync", "guard mon1 [true]@wait")
	wantFlow(t, "loop { wait a; }", 3, "0>1 wait mon1 site1 out1 @wait", "1>0 skip @loop", "guard mon1 [true]@wait")
	wantFlow(t, "choose { } or { wait a; }", 5, "0>1 pick @choose", "0>2 pick n1 @choose", "2>3 wait mon1 site1 out1 @wait", "1>4 skip @choose", "3>4 skip @choose", "guard mon1 [true]@wait")
	wantFlow(t, "while a.b { sync a { wait a; } }", 6,
		"0>1 test [a.b]@a.b @a.b", "1>2 enter mon1 @sync", "2>3 wait mon1 site1 out1 @wait", "3>4 leave mon1 @sync", "4>0 skip @while", "0>5 test [!a.b]@a.b @a.b", "guard mon1 [true]@wait")
	wantFlow(t, "if a.b { loop { wait a; } } else { choose { wait a; } }", 9,
		"0>1 test [a.b]@a.b @a.b", "1>2 wait mon1 site1 out1 @wait", "2>1 skip @loop", "3>4 skip @if", "0>5 test [!a.b]@a.b @a.b",
		"5>6 pick @choose", "6>7 wait mon1 site2 out2 @wait", "7>8 skip @choose", "8>4 skip @if", "guard mon1 [true]@wait", "guard mon1 [true]@wait")
}

// TestGuardWhile: P12.2: what ends the loop is waited for, and who sees that it is so leaves the guard.
func TestGuardWhile(t *testing.T) {
	// Example 1 of the chapter.
	wantFlow(t, "while a.b { wait a; }", 4, "0>1 test [a.b]@a.b @a.b", "1>2 wait mon1 site1 @wait", "2>0 skip @while", "0>3 test out1 [!a.b]@a.b @a.b", "guard mon1 [!a.b]@a.b loop")
	wantFlow(t, "while !a.b { skip; wait a 3; skip; }", 6,
		"0>1 test [!a.b]@!a.b @!a.b", "1>2 skip @skip", "2>3 wait mon1 n3 site1 @wait", "3>4 skip @skip", "4>0 skip @while", "0>5 test out1 [!!a.b]@!a.b @!a.b", "guard mon1 [!!a.b]@!a.b loop")
	// Of several the greatest one that stands there itself is told, though one with a greater number is deeper.
	wantFlow(t, "while a.b { wait a; if a.n == 0 { wait a; } wait a 3; while a.b { wait a; } }", 12,
		"0>1 test [a.b]@a.b @a.b", "1>2 wait mon1 site1 @wait", "2>3 test [a.n == 0]@a.n @a.n", "3>4 wait mon1 site2 @wait", "4>5 skip out2 @if", "2>6 test [!a.n == 0]@a.n @a.n", "6>5 skip @if",
		"5>7 wait mon1 n3 site3 @wait", "7>8 test [a.b]@a.b @a.b", "8>9 wait mon1 site4 @wait", "9>7 skip @while", "7>10 test out4 [!a.b]@a.b @a.b", "10>0 skip @while", "0>11 test out3 [!a.b]@a.b @a.b",
		"guard mon1 [!a.b]@a.b loop", "guard mon1 [!a.n == 0]@a.n", "guard mon1 [!a.b]@a.b loop", "guard mon1 [!a.b]@a.b loop")
	wantFlow(t, "while true { wait a; wait z; }", 5,
		"0>1 test [true]@true @true", "1>2 wait mon1 site1 @wait", "2>3 wait site2 @wait", "3>0 skip @while", "0>4 test out2 [!true]@true @true", "guard mon1 [!true]@true loop", "guard mon0 [!true]@true loop")
}

// TestGuardIf: P12.2: each of its blocks has guards of its own, which the end of that block leaves.
func TestGuardIf(t *testing.T) {
	wantFlow(t, "if a.b { wait a; }", 5,
		"0>1 test [a.b]@a.b @a.b", "1>2 wait mon1 site1 @wait", "2>3 skip out1 @if", "0>4 test [!a.b]@a.b @a.b", "4>3 skip @if", "guard mon1 [!a.b]@a.b")
	wantFlow(t, "if a.b { } else { wait a; skip; }", 6,
		"0>1 test [a.b]@a.b @a.b", "1>2 skip @if", "0>3 test [!a.b]@a.b @a.b", "3>4 wait mon1 site1 @wait", "4>5 skip @skip", "5>2 skip out1 @if", "guard mon1 [a.b]@a.b")
	wantFlow(t, "if !a.b { wait a; wait a 2; } else { wait a; } wait c;", 8,
		"0>1 test [!a.b]@!a.b @!a.b", "1>2 wait mon1 site1 @wait", "2>3 wait mon1 n2 site2 @wait", "3>4 skip out2 @if",
		"0>5 test [!!a.b]@!a.b @!a.b", "5>6 wait mon1 site3 @wait", "6>4 skip out3 @if", "4>7 wait mon2 site4 out4 @wait",
		"guard mon1 [!!a.b]@!a.b", "guard mon1 [!!a.b]@!a.b", "guard mon1 [!a.b]@!a.b", "guard mon2 [true]@wait")
	wantFlow(t, "if a.b { while a.b { wait a; } }", 7,
		"0>1 test [a.b]@a.b @a.b", "1>2 test [a.b]@a.b @a.b", "2>3 wait mon1 site1 @wait", "3>1 skip @while", "1>4 test out1 [!a.b]@a.b @a.b", "4>5 skip @if",
		"0>6 test [!a.b]@a.b @a.b", "6>5 skip @if", "guard mon1 [!a.b]@a.b loop")
}

// TestLowerNumbers: P12.1: an edge has its statement's N and place, whatever they are, and nothing else of it.
func TestLowerNumbers(t *testing.T) {
	p := parsed(t, declares)
	for _, at := range []int{-1 << 63, -1, 0, 1, 1<<63 - 1} {
		for _, n := range []int64{0, 1, 1<<63 - 1} {
			l := []api.Stmt{{Kind: api.StWait, Mon: "a", N: n, E: api.Expr{At: 9}, At: at}, {Kind: api.StSkip, E: api.Expr{At: 8}, At: at}}
			want := api.Flow{Locs: 3, Edges: []api.Edge{{To: 1, Kind: api.EdWait, Mon: 1, N: n, Site: 1, Out: 1, At: at}, {From: 1, To: 2, Kind: api.EdSkip, At: at}}}
			want.Guards = []api.Guard{{Mon: 1, E: api.Expr{Op: api.OpTrue, At: at}}}
			if f, err := flow.Lower(p, l); err != api.OK || !reflect.DeepEqual(f, want) {
				t.Errorf("error %d, %+v, want %+v", err, f, want)
			}
		}
	}
}

// TestLowerErrors: P12.1: calls.Inline's errors, ahead of ErrWide.
func TestLowerErrors(t *testing.T) {
	p := parsed(t, declares)
	many := func(n int) []api.Stmt {
		return slices.Repeat([]api.Stmt{{Kind: api.StIf, E: api.Expr{Op: api.OpTrue}, Blocks: [][]api.Stmt{nil}}}, n)
	}
	call := api.Stmt{Kind: api.StCall, Mon: "a", Name: "x"}
	for _, n := range []int{0, 1, 250, 400, 401} {
		wantError(t, "no shape", p, append(many(n), call, api.Stmt{}), api.ErrShape)
		wantError(t, "no shape", p, append(many(n), api.Stmt{Kind: api.StLoop}), api.ErrShape)
		wantError(t, "no such method", p, append(many(n), call), api.ErrUnknown)
	}
	wantError(t, "too big", p, many(401), api.ErrBig)
	wantError(t, "too big", p, skips(401), api.ErrBig)
	wantError(t, "too wide", p, many(400), api.ErrWide)
	wantError(t, "no program", api.Program{Roles: make([]api.Role, 1)}, nil, api.ErrShape)
}

// TestLowerWide: P12.1: MaxLocs places are not too many, and one more is, however they come about.
func TestLowerWide(t *testing.T) {
	for _, c := range []struct {
		what    string
		s       api.Stmt
		n, rest int
	}{
		{"if", api.Stmt{Kind: api.StIf, E: api.Expr{Op: api.OpTrue}, Blocks: make([][]api.Stmt, 1)}, 199, 2},
		{"if, else", api.Stmt{Kind: api.StIf, E: api.Expr{Op: api.OpTrue}, Blocks: make([][]api.Stmt, 2)}, 199, 2},
		{"if", api.Stmt{Kind: api.StIf, E: api.Expr{Op: api.OpTrue}, Blocks: [][]api.Stmt{skips(1), skips(1)}}, 119, 4},
		{"while", api.Stmt{Kind: api.StWhile, E: api.Expr{Op: api.OpTrue}, Blocks: make([][]api.Stmt, 1)}, 299, 1},
		{"sync", api.Stmt{Kind: api.StSync, Mon: "a", Blocks: make([][]api.Stmt, 1)}, 299, 1},
		{"call", api.Stmt{Kind: api.StCall, Mon: "a", Name: "g"}, 119, 4},
		{"choose", api.Stmt{Kind: api.StChoose, Blocks: make([][]api.Stmt, 8)}, 66, 5},
		{"loop", api.Stmt{Kind: api.StLoop, Blocks: [][]api.Stmt{{{Kind: api.StChoose, Blocks: make([][]api.Stmt, 8)}}}}, 59, 9},
	} {
		p := parsed(t, declares)
		l := append(slices.Repeat([]api.Stmt{c.s}, c.n), skips(c.rest)...)
		if f, err := flow.Lower(p, l); err != api.OK || f.Locs != 600 {
			t.Errorf("%s: error %d, %d places", c.what, err, f.Locs)
		}
		wantError(t, c.what, p, append(l, skips(1)...), api.ErrWide)
	}
}

// TestLowerDeep: P12.1, of statements that are nested as deeply as so many may be, and of an expression that is nested as deeply as may be.
func TestLowerDeep(t *testing.T) {
	p := parsed(t, declares)
	var l []api.Stmt
	for range api.MaxInline {
		l = []api.Stmt{{Kind: api.StLoop, Blocks: [][]api.Stmt{l}}}
	}
	if f, err := flow.Lower(p, l); err != api.OK || f.Locs != 401 || len(f.Edges) != 400 || f.Edges[399].From != 399 || f.Edges[399].To != 0 {
		t.Error(err, f.Locs, len(f.Edges))
	}
	l = nil
	for range 200 {
		l = []api.Stmt{{Kind: api.StWhile, E: api.Expr{Op: api.OpTrue}, Blocks: [][]api.Stmt{l}}}
	}
	if f, err := flow.Lower(p, l); err != api.OK || f.Locs != 401 || len(f.Edges) != 600 {
		t.Error(err, f.Locs, len(f.Edges))
	}
	e := api.Expr{Op: api.OpVar, Mon: "a", Name: "b"}
	for range 1<<16 - 4 {
		e = api.Expr{Op: api.OpNot, Kids: []api.Expr{e}}
	}
	l = []api.Stmt{{Kind: api.StWhile, E: e, Blocks: [][]api.Stmt{{{Kind: api.StWait, Mon: "a"}}}}}
	if f, err := flow.Lower(p, l); err != api.OK || f.Locs != 4 || f.Guards[0].E.Op != api.OpNot {
		t.Error(err, f.Locs)
	}
}

// TestOut: P12.4, of places that there are and that there are not, of any flow.
func TestOut(t *testing.T) {
	p := parsed(t, declares)
	f, err := flow.Lower(p, parsed(t, "thread t 1 { while a.b { choose { skip; } or { } or { wait a; } } }").Roles[0].Body)
	if err != api.OK {
		t.Fatal(err)
	}
	for loc, want := range [][]int{{0, 10}, {1, 3, 4}, {2}, {6}, {7}, {5}, {8}, {9}, {}} {
		if got := flow.Out(f, loc); !slices.Equal(got, want) {
			t.Errorf("%d: %d, want %d", loc, got, want)
		}
	}
	for _, loc := range []int{-1 << 63, -1, 10, 600, 1<<63 - 1} {
		if got := flow.Out(f, loc); len(got) != 0 {
			t.Errorf("%d: %d", loc, got)
		}
	}
	odd := api.Flow{Locs: -3, Edges: []api.Edge{{From: -7, To: 3}, {From: 9}, {From: -7}, {From: 1 << 40, Kind: 77}, {From: -7, To: -7}}}
	for loc, want := range map[int][]int{-7: {0, 2, 4}, 9: {1}, 1 << 40: {3}, 0: nil, 3: nil} {
		if got := flow.Out(odd, loc); !slices.Equal(got, want) {
			t.Errorf("%d: %d, want %d", loc, got, want)
		}
	}
	if got := flow.Out(api.Flow{}, 0); len(got) != 0 {
		t.Error(got)
	}
	// The answer is its own.
	first := flow.Out(f, 1)
	first[0] = 99
	if got := flow.Out(f, 1); !slices.Equal(got, []int{1, 3, 4}) {
		t.Error(got)
	}
}
