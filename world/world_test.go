package world_test

import (
	"math"
	"reflect"
	"slices"
	"strings"
	"testing"

	"vigil/api"
	"vigil/flow"
	"vigil/world"
)

// TestNumbers: the numbers that the chapter tells.
func TestNumbers(t *testing.T) {
	states := []int{api.ThRun, api.ThWait, api.ThWoken, api.ThDone, api.ThFault}
	if !slices.Equal(states, []int{0, 1, 2, 3, 4}) || api.MaxThreads != 40 || api.MaxTime != 1<<40 || api.ErrArg != 2 || api.ErrMany != 6 {
		t.Error("other numbers")
	}
}

// TestMake: P14.1, of programs that are right.
func TestMake(t *testing.T) {
	for _, s := range []string{
		"", "monitor a { }", "thread t 1 { }", busy,
		"monitor a { var n : 0..3 = 1; method f { while a.n == 3 { wait a; } a.n = a.n + 1; notifyall a; } } thread r 8 { loop { call a.f; } } thread s * { call a.f; }",
	} {
		p := parsed(t, s)
		x, err, at := world.Make(p)
		want, flowsErr, _ := flow.Flows(parsed(t, s))
		if err != api.OK || at != 0 || flowsErr != api.OK || !reflect.DeepEqual(x.P, parsed(t, s)) || !reflect.DeepEqual(x.Flows, want) {
			t.Errorf("%s: error %d at %d, %+v", s, err, at, x)
		}
		if !reflect.DeepEqual(p, parsed(t, s)) {
			t.Errorf("%s: is changed: %+v", s, p)
		}
	}
}

// TestMakeErrors: P14.1: the error of flow.Flows and its place, beside which there is no system.
func TestMakeErrors(t *testing.T) {
	for marked, want := range map[string]api.Errno{
		"monitor m { } monitor @m { }":                                              api.ErrTwice,
		"monitor m { } thread @t 9 { }":                                             api.ErrMany,
		"thread t 1 { @notify m; }":                                                 api.ErrUnknown,
		"monitor m { var @n : 0..3 = 4; }":                                          api.ErrRange,
		"thread t 1 { if @1 { } }":                                                  api.ErrType,
		"monitor m { method @f { call m.f; } }":                                     api.ErrCycle,
		"thread @t 1 { " + strings.Repeat("skip; ", 401) + "}":                      api.ErrBig,
		"monitor m { } thread t 1 { skip; @notify m; }":                             api.ErrOwn,
		"thread t 1 { } thread @u * { " + strings.Repeat("if true { } ", 200) + "}": api.ErrWide,
		"monitor m { } monitor n { var b : bool = true; method f { sync m { while @n.b { wait m; } } } }": api.ErrPure,
	} {
		s := strings.ReplaceAll(marked, "@", "")
		if x, err, at := world.Make(parsed(t, s)); err != want || at != strings.Index(marked, "@") || !reflect.DeepEqual(x, api.System{}) {
			t.Errorf("%.300s: error %d at %d, %+v, want %d", marked, err, at, x, want)
		}
	}
	for _, p := range []api.Program{{Roles: make([]api.Role, 1)}, {Mons: make([]api.Monitor, 9)}, {Roles: []api.Role{{Name: "r", Count: 1, Body: []api.Stmt{{}}, At: 5}}}} {
		if x, err, at := world.Make(p); err != api.ErrShape || at != 0 || !reflect.DeepEqual(x, api.System{}) {
			t.Errorf("%+v: error %d at %d, %+v", p, err, at, x)
		}
	}
}

// TestMakeApart: a system's lists are its own: what is done to the program's lists later leaves it as it is, and so do two systems each other.
func TestMakeApart(t *testing.T) {
	text := "monitor a { var n : int = 4; method f { a.n = 1; } } thread r 2 { call a.f; } thread s * { skip; }"
	p := parsed(t, text)
	x, _, _ := world.Make(p)
	other, _, _ := world.Make(p)
	spoil := func(p api.Program) {
		p.Mons[0].Vars[0], p.Mons[0].Methods[0].Body[0] = api.Var{Name: "z", Init: 5}, api.Stmt{Kind: 77}
		p.Mons[0].Methods[0], p.Mons[0], p.Roles[0].Body[0] = api.Method{Name: "z"}, api.Monitor{Name: "z"}, api.Stmt{Kind: 78}
		p.Roles[0], p.Roles[1] = api.Role{Name: "z"}, api.Role{Count: 9}
	}
	spoil(p)
	spoil(other.P)
	other.Flows[0].Edges[0].To, other.Flows[2].Name = 99, "z"
	if want := systemOf(t, text); !reflect.DeepEqual(x, want) {
		t.Errorf("%+v, want %+v", x, want)
	}
}

// TestFirst: P14.2.
func TestFirst(t *testing.T) {
	run, done, free := api.ThRun, api.ThDone, api.Lock{Owner: -1, Depth: 0}
	for _, c := range []struct {
		text   string
		counts []int
		want   api.World
	}{
		{"", nil, api.World{}},
		{"monitor a { } monitor c { var b : bool = true; var r : -2..3 = -1; } monitor d { var n : int = 9; }", nil, api.World{Locks: []api.Lock{free, free, free}, Vals: []int64{1, -1, 9}}},
		{"thread t 1 { }", nil, api.World{Threads: []api.Thread{{State: done}}}},
		{"thread t 1 { skip; }", nil, api.World{Threads: []api.Thread{{State: run}}}},
		{"thread t 1 { loop { } }", nil, api.World{Threads: []api.Thread{{State: run}}}},
		{"monitor a { method f { } } thread t 1 { call a.f; } thread u 2 { choose { } }", nil, api.World{Threads: []api.Thread{{Role: 0}, {Role: 1}, {Role: 2}}, Locks: []api.Lock{free}}},
		{"thread t * { skip; }", []int{0}, api.World{}},
		{"thread t * { }", []int{2}, api.World{Threads: []api.Thread{{State: done}, {State: done}}}},
		{busy, []int{0, 0}, api.World{Threads: []api.Thread{{Role: 0}, {Role: 1}, {Role: 3, State: done}}, Locks: []api.Lock{free, free}, Vals: []int64{1, 1, -7}}},
		{busy, []int{2, 1}, api.World{Threads: []api.Thread{{Role: 0}, {Role: 1}, {Role: 2}, {Role: 2}, {Role: 3, State: done}, {Role: 4}}, Locks: []api.Lock{free, free}, Vals: []int64{1, 1, -7}}},
		{"thread a * { skip; } thread b 1 { skip; } thread c * { } thread d * { skip; }", []int{1, 0, 3}, api.World{Threads: []api.Thread{{Role: 0}, {Role: 1}, {Role: 3}, {Role: 3}, {Role: 3}}}},
	} {
		x := systemOf(t, c.text)
		w, err := world.First(x, c.counts...)
		if err != api.OK || !alike(w, c.want) {
			t.Errorf("%s: %d: error %d, %+v, want %+v", c.text, c.counts, err, w, c.want)
		}
		wantChecked(t, "the first world", x, w, api.OK)
	}
}

// TestFirstMany: P14.2: MaxThreads threads are not too many, and one more is, however they come about.
func TestFirstMany(t *testing.T) {
	eights := func(n int) string { // threads, 8 n in all
		var s strings.Builder
		for _, name := range "abcdefgh"[:n] {
			s.WriteString("thread " + string(name) + " 8 { skip; } ")
		}
		return s.String()
	}
	for _, c := range []struct {
		text   string
		counts []int
		many   int
		err    api.Errno
	}{
		{eights(5), nil, 40, api.OK}, {eights(5) + "thread z 1 { }", nil, 0, api.ErrMany}, {"thread z 1 { } " + eights(5), nil, 0, api.ErrMany}, {eights(8), nil, 0, api.ErrMany},
		{"thread s * { skip; }", []int{40}, 40, api.OK}, {"thread s * { skip; }", []int{41}, 0, api.ErrMany}, {"thread s * { skip; }", []int{math.MaxInt}, 0, api.ErrMany},
		{"thread s * { } thread u * { }", []int{13, 27}, 40, api.OK}, {"thread s * { } thread u * { }", []int{14, 27}, 0, api.ErrMany}, {"thread s * { } thread u * { }", []int{40, 0}, 40, api.OK},
		{"thread s * { } thread u * { }", []int{math.MaxInt, math.MaxInt}, 0, api.ErrMany}, {"thread s * { } thread u * { } thread v * { }", []int{math.MaxInt, math.MaxInt, 2}, 0, api.ErrMany},
		{"thread s * { } thread u * { } thread v * { }", []int{1, math.MaxInt, math.MaxInt}, 0, api.ErrMany}, {"thread z 1 { } thread s * { }", []int{math.MaxInt}, 0, api.ErrMany},
		{eights(4) + "thread s * { skip; }", []int{8}, 40, api.OK}, {eights(4) + "thread s * { skip; }", []int{9}, 0, api.ErrMany}, {"thread s * { skip; } " + eights(4), []int{9}, 0, api.ErrMany},
		{eights(5) + "thread s * { } thread u * { }", []int{0, 0}, 40, api.OK}, {eights(5) + "thread s * { } thread u * { }", []int{0, 1}, 0, api.ErrMany},
	} {
		w, err := world.First(systemOf(t, c.text), c.counts...)
		if err != c.err || len(w.Threads) != c.many {
			t.Errorf("%s: %d: error %d, %d threads, want %d, %d", c.text, c.counts, err, len(w.Threads), c.err, c.many)
		}
		if err != api.OK && !reflect.DeepEqual(w, api.World{}) {
			t.Errorf("%s: %d: %+v beside an error", c.text, c.counts, w)
		}
	}
}

// TestFirstArgs: P14.2: ErrArg, ahead of ErrMany.
func TestFirstArgs(t *testing.T) {
	full := strings.Repeat("thread X 8 { } ", 6)
	for _, name := range "abcdef" {
		full = strings.Replace(full, "X", string(name), 1)
	}
	for _, c := range []struct {
		text   string
		counts []int
	}{
		{"", []int{0}}, {"", []int{0, 0}}, {"thread t 1 { }", []int{1}}, {"monitor a { } thread t 8 { }", []int{0}}, {full, []int{0}}, {full, []int{41}},
		{"thread s * { }", nil}, {"thread s * { }", []int{}}, {"thread s * { }", []int{0, 0}}, {"thread s * { }", []int{1, 2, 3}}, {"thread s * { }", []int{41, 0}}, {full + "thread s * { }", nil},
		{"thread s * { }", []int{-1}}, {"thread s * { }", []int{math.MinInt}}, {full + "thread s * { }", []int{-1}}, {"thread s * { }", []int{0, -1}},
		{"thread s * { } thread u * { }", []int{-1, 0}}, {"thread s * { } thread u * { }", []int{0, -1}}, {"thread s * { } thread u * { }", []int{41, -1}}, {"thread s * { } thread u * { }", []int{-1, 41}},
		{"thread s * { } thread u * { }", []int{2, -1}}, {"thread s * { } thread u * { }", []int{50}}, {"thread s * { } thread u * { }", []int{50, 1, 1}}, {busy, nil}, {busy, []int{1}}, {busy, []int{1, 1, 1}}, {busy, []int{1, 1, 1, 1, 1}},
	} {
		if w, err := world.First(systemOf(t, c.text), c.counts...); err != api.ErrArg || !reflect.DeepEqual(w, api.World{}) {
			t.Errorf("%s: %d: error %d, %+v", c.text, c.counts, err, w)
		}
	}
}

// TestFirstApart: what is told once is not changed by what is told later, nor by what is done to that; system and counts stay as they are.
func TestFirstApart(t *testing.T) {
	x := systemOf(t, busy)
	counts := []int{2, 1, 7, 8}
	w := firstOf(t, x, counts[:2]...)
	before := copied(w)
	again := firstOf(t, x, counts[:2]...)
	again.Threads[0].Loc, again.Locks[0].Owner, again.Vals[0] = 5, 5, 5
	_, _, _ = append(w.Threads, api.Thread{Loc: 6}), append(w.Locks, api.Lock{Owner: 6}), append(w.Vals, 6)
	if !reflect.DeepEqual(w, before) || !reflect.DeepEqual(firstOf(t, x, 2, 1), before) {
		t.Errorf("%+v, before %+v", w, before)
	}
	if !slices.Equal(counts, []int{2, 1, 7, 8}) || !reflect.DeepEqual(x, systemOf(t, busy)) {
		t.Error("what was handed in is changed")
	}
}

// TestSame: P14.4.
func TestSame(t *testing.T) {
	base := func() api.World {
		return api.World{Threads: []api.Thread{{Role: 1, Loc: 2, State: 1, Left: 3, Depth: 4}, {Role: 5}}, Locks: []api.Lock{{Owner: 1, Depth: 2}, {Owner: -1}}, Vals: []int64{7, -8}}
	}
	if !world.Same(base(), base()) || !world.Same(roomy(base()), base()) || !world.Same(api.World{}, api.World{}) {
		t.Error("the same, and not the same")
	}
	for i, change := range []func(w *api.World){
		func(w *api.World) { w.Threads[0].Role++ }, func(w *api.World) { w.Threads[0].Loc-- }, func(w *api.World) { w.Threads[0].State++ },
		func(w *api.World) { w.Threads[0].Left++ }, func(w *api.World) { w.Threads[0].Depth = 0 }, func(w *api.World) { w.Threads[1].Depth++ },
		func(w *api.World) { w.Threads[0], w.Threads[1] = w.Threads[1], w.Threads[0] }, func(w *api.World) { w.Threads = w.Threads[:1] }, func(w *api.World) { w.Threads = nil },
		func(w *api.World) { w.Threads = append(w.Threads, api.Thread{}) },
		func(w *api.World) { w.Locks[0].Owner = 0 }, func(w *api.World) { w.Locks[1].Depth++ }, func(w *api.World) { w.Locks[0], w.Locks[1] = w.Locks[1], w.Locks[0] },
		func(w *api.World) { w.Locks = w.Locks[:1] }, func(w *api.World) { w.Locks = w.Locks[:0] }, func(w *api.World) { w.Locks = append(w.Locks, api.Lock{}) },
		func(w *api.World) { w.Vals[0]++ }, func(w *api.World) { w.Vals[1] = 8 }, func(w *api.World) { w.Vals[0], w.Vals[1] = w.Vals[1], w.Vals[0] },
		func(w *api.World) { w.Vals = w.Vals[:1] }, func(w *api.World) { w.Vals = nil }, func(w *api.World) { w.Vals = append(w.Vals, 0) },
	} {
		w := base()
		change(&w)
		if world.Same(w, base()) || world.Same(base(), w) || !world.Same(w, copied(w)) {
			t.Errorf("change %d: %+v", i, w)
		}
	}
	// An empty list is like none, each for itself.
	for i := range 8 {
		var w api.World
		if i&1 != 0 {
			w.Threads = []api.Thread{}
		}
		if i&2 != 0 {
			w.Locks = []api.Lock{}
		}
		if i&4 != 0 {
			w.Vals = []int64{}
		}
		if !world.Same(w, api.World{}) || !world.Same(api.World{}, w) || world.Text(w) != "/ /" {
			t.Errorf("%d: unlike", i)
		}
	}
}
