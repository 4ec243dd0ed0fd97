package world_test

import (
	"fmt"
	"math"
	"math/rand/v2"
	"slices"
	"strings"
	"testing"

	"vigil/api"
	"vigil/flow"
	"vigil/names"
	"vigil/world"
)

// threadOf is a thread from its numbers; T is MaxTime, M the greatest number, m the least one.
func threadOf(t testing.TB, s string) api.Thread {
	t.Helper()
	s = strings.NewReplacer("T+", fmt.Sprint(1<<40+1), "T", fmt.Sprint(1<<40), "M", fmt.Sprint(most), "m", fmt.Sprint(least)).Replace(s)
	var x api.Thread
	if n, err := fmt.Sscanf(s, "%d:%d:%d:%d:%d", &x.Role, &x.Loc, &x.State, &x.Left, &x.Depth); n != 5 {
		t.Fatalf("%q: %v", s, err)
	}
	return x
}

// TestCheckThreads: P14.3, of one thread that may be, in each state, and of one that may not.
func TestCheckThreads(t *testing.T) {
	x := systemOf(t, busy)
	check := func(list string, want api.Errno) {
		for _, s := range strings.Fields(list) {
			w := firstOf(t, x, 0, 0)
			w.Threads = []api.Thread{threadOf(t, s)}
			wantChecked(t, s, x, w, want)
			// Likewise if it is one of many.
			w.Threads = append(make([]api.Thread, 20), w.Threads[0], api.Thread{Role: 4, Loc: 1})
			wantChecked(t, s, x, w, want)
		}
	}
	check("0:0:0:0:0 0:1:0:0:0 0:3:0:0:0 0:4:0:0:0 1:2:0:0:0 2:0:0:0:0 2:2:0:0:0 2:6:0:0:0 4:0:0:0:0 4:1:0:0:0", api.OK)
	check("0:2:1:0:1 1:2:1:0:7 0:2:1:1:1 0:2:1:T:1 0:2:1:0:T 0:2:1:T:T 2:2:1:9:1 2:2:1:10:1 2:2:1:0:1", api.OK)
	check("0:2:2:0:1 1:2:2:0:2 2:2:2:0:T", api.OK)
	check("0:5:3:0:0 3:0:3:0:0 4:2:3:0:0 2:7:3:0:0 0:0:3:0:0 0:2:3:0:0", api.OK)
	check("0:0:4:0:0 0:2:4:0:0 0:5:4:0:0 3:0:4:0:0 4:2:4:0:0", api.OK)
	// No flow, no place of it, no state.
	check("-1:0:0:0:0 5:0:0:0:0 6:0:3:0:0 m:0:0:0:0 M:0:0:0:0 -1:0:3:0:0 5:0:4:0:0", api.ErrArg)
	check("0:-1:0:0:0 0:6:0:0:0 0:m:0:0:0 0:M:0:0:0 0:-1:3:0:0 0:6:3:0:0 0:6:4:0:0 3:1:3:0:0 4:3:3:0:0 2:8:3:0:0 2:-3:4:0:0", api.ErrArg)
	check("0:0:-1:0:0 0:0:5:0:0 0:0:m:0:0 0:0:M:0:0 0:2:5:0:1 0:2:-1:0:1 0:5:6:0:0", api.ErrArg)
	// Left and Depth beyond their bounds, or where there are none.
	check("0:2:1:-1:1 0:2:1:T+:1 0:2:1:m:1 0:2:1:M:1 0:2:1:0:-1 0:2:1:0:T+ 0:2:1:0:m 0:2:1:0:M 0:2:2:-1:1 0:2:2:0:-1 0:2:2:0:T+", api.ErrArg)
	check("0:0:0:1:0 0:0:0:0:1 0:2:0:1:0 0:2:0:0:1 0:2:0:9:1 0:0:0:-1:0 0:0:0:0:-1 0:0:0:T:0", api.ErrArg)
	check("0:5:3:1:0 0:5:3:0:1 0:5:3:-1:0 0:5:3:0:-1 0:2:3:1:1 0:0:4:1:0 0:0:4:0:1 0:0:4:-1:0 0:0:4:0:-1 0:2:4:1:1", api.ErrArg)
	// It runs where no edge leads on.
	check("0:5:0:0:0 2:7:0:0:0 3:0:0:0:0 4:2:0:0:0", api.ErrArg)
	// It waits, or is woken, where no wait leads on, or has not had its monitor, or is woken and waits for the clock still.
	check("0:0:1:0:1 0:1:1:0:1 0:3:1:0:1 0:4:1:0:1 0:5:1:0:1 2:0:1:0:1 2:3:1:9:1 3:0:1:0:1 4:0:1:0:1 4:2:1:0:1", api.ErrArg)
	check("0:0:2:0:1 0:1:2:0:1 0:3:2:0:1 0:4:2:0:1 0:5:2:0:1 2:0:2:0:1 3:0:2:0:1 4:1:2:0:1", api.ErrArg)
	check("0:2:1:0:0 0:2:1:5:0 2:2:1:9:0 0:2:2:0:0 0:2:2:1:1 2:2:2:9:1 0:2:2:T:1", api.ErrArg)
}

// TestCheckLocks: P14.3: who may own a monitor, and how often.
func TestCheckLocks(t *testing.T) {
	x := systemOf(t, busy)
	for _, c := range []struct {
		lock api.Lock
		want api.Errno
	}{
		{api.Lock{Owner: -1}, api.OK}, {api.Lock{Owner: 0, Depth: 1}, api.OK}, {api.Lock{Owner: 1, Depth: 3}, api.OK}, {api.Lock{Owner: 2, Depth: 1}, api.OK}, {api.Lock{Owner: 2, Depth: 1 << 40}, api.OK},
		{api.Lock{Owner: 3, Depth: 1}, api.ErrArg}, {api.Lock{Owner: 4, Depth: 1}, api.ErrArg}, {api.Lock{Owner: 5, Depth: 1}, api.ErrArg}, {api.Lock{Owner: math.MaxInt, Depth: 1}, api.ErrArg},
		{api.Lock{Owner: -1, Depth: 1}, api.ErrArg}, {api.Lock{Owner: -1, Depth: -1}, api.ErrArg}, {api.Lock{Owner: -2}, api.ErrArg}, {api.Lock{Owner: -2, Depth: 1}, api.ErrArg}, {api.Lock{Owner: math.MinInt, Depth: 1}, api.ErrArg},
		{api.Lock{}, api.ErrArg}, {api.Lock{Owner: 1}, api.ErrArg}, {api.Lock{Owner: 0, Depth: -1}, api.ErrArg}, {api.Lock{Owner: 0, Depth: 1<<40 + 1}, api.ErrArg}, {api.Lock{Owner: 0, Depth: math.MaxInt}, api.ErrArg}, {api.Lock{Owner: 0, Depth: math.MinInt}, api.ErrArg},
	} {
		for mon := range 2 {
			w := firstOf(t, x, 1, 1)
			// One runs, one waits, one is woken, one is done, one has faulted.
			w.Threads[1], w.Threads[2], w.Threads[4] = threadOf(t, "1:2:1:0:1"), threadOf(t, "2:2:2:0:1"), threadOf(t, "4:1:4:0:0")
			w.Locks[mon] = c.lock
			wantChecked(t, "a lock", x, w, c.want)
			// One thread may own all.
			w.Locks[1-mon] = api.Lock{Owner: 1, Depth: 2}
			wantChecked(t, "a lock beside one", x, w, c.want)
		}
	}
	w := firstOf(t, x, 0, 0)
	for n := range 5 {
		w.Locks = slices.Repeat([]api.Lock{{Owner: -1}}, n)
		wantChecked(t, fmt.Sprint(n, " locks"), x, w, []api.Errno{api.ErrArg, api.OK}[btoi(n == 2)])
	}
	w.Locks, w.Threads = []api.Lock{{Owner: -1}, {Owner: 0, Depth: 1}}, nil
	wantChecked(t, "a lock without threads", x, w, api.ErrArg)
}

// TestCheckVals: P14.3: each variable has a value that it may have, and there are no others.
func TestCheckVals(t *testing.T) {
	x := systemOf(t, busy)
	for slot, bounds := range [][2]int64{{0, 1}, {-2, 3}, {least, most}} {
		for _, n := range []int64{least, least + 1, -3, -2, -1, 0, 1, 2, 3, 4, 5, most - 1, most} {
			w := firstOf(t, x, 1, 1)
			w.Vals[slot] = n
			want := api.ErrArg
			if bounds[0] <= n && n <= bounds[1] {
				want = api.OK
			}
			wantChecked(t, "a value", x, w, want)
		}
	}
	w := firstOf(t, x, 1, 1)
	for n := range 6 {
		w.Vals = make([]int64, n)
		wantChecked(t, fmt.Sprint(n, " values"), x, w, []api.Errno{api.ErrArg, api.OK}[btoi(n == 3)])
	}
}

// TestCheckMany: P14.3: MaxThreads threads are not too many, whatever counts are; of a system without monitors and roles there is one world.
func TestCheckMany(t *testing.T) {
	x := systemOf(t, busy)
	w := firstOf(t, x, 1, 1)
	for _, n := range []int{0, 1, 39, 40, 41, 42, 1000} {
		w.Threads = slices.Repeat([]api.Thread{{Role: 1, Loc: 4}}, n)
		wantChecked(t, fmt.Sprint(n, " threads"), x, w, []api.Errno{api.OK, api.ErrArg}[btoi(n > 40)])
	}
	none := systemOf(t, "")
	wantChecked(t, "the empty world", none, api.World{}, api.OK)
	wantChecked(t, "a thread", none, api.World{Threads: make([]api.Thread, 1)}, api.ErrArg)
	wantChecked(t, "a lock", none, api.World{Locks: []api.Lock{{Owner: -1}}}, api.ErrArg)
	wantChecked(t, "a value", none, api.World{Vals: make([]int64, 1)}, api.ErrArg)
	wantChecked(t, "no lock, no value", x, api.World{}, api.ErrArg)
}

func btoi(b bool) int {
	if b {
		return 1
	}
	return 0
}

// faults are all that P14.3 finds wrong with a world, each as a word, whatever else is wrong.
func faults(x api.System, w api.World) []string {
	var all []string
	add := func(is bool, s string) {
		if is {
			all = append(all, s)
		}
	}
	beyond := func(n int64) bool { return n < 0 || n > 1<<40 }
	vars := names.Slots(x.P)
	add(len(w.Threads) > 40, "threads")
	add(len(w.Locks) != len(x.P.Mons), "locks")
	add(len(w.Vals) != len(vars), "values")
	for i, n := range w.Vals {
		if i < len(vars) {
			add(vars[i].Type == api.TyBool && n != 0 && n != 1 || vars[i].Type == api.TyRange && (n < vars[i].Lo || n > vars[i].Hi), "value")
		}
	}
	for _, t := range w.Threads {
		var out []int
		if t.Role >= 0 && t.Role < len(x.Flows) {
			out = flow.Out(x.Flows[t.Role], t.Loc)
			add(t.Loc < 0 || t.Loc >= x.Flows[t.Role].Locs, "place")
		} else {
			add(true, "role")
		}
		waits := len(out) == 1 && x.Flows[t.Role].Edges[out[0]].Kind == api.EdWait
		add(t.State < 0 || t.State > 4, "state")
		add(beyond(t.Left) || beyond(int64(t.Depth)), "time")
		add(t.State == api.ThRun && len(out) == 0, "end")
		add((t.State == api.ThWait || t.State == api.ThWoken) && !waits, "no wait")
		add((t.State == api.ThWait || t.State == api.ThWoken) && t.Depth < 1, "depth")
		add(t.State != api.ThWait && t.Left != 0, "left")
		add(t.State != api.ThWait && t.State != api.ThWoken && t.Depth != 0, "has")
	}
	for _, l := range w.Locks {
		owner := -1
		if l.Owner >= 0 && l.Owner < len(w.Threads) {
			owner = w.Threads[l.Owner].State
		}
		free := l.Owner == -1 && l.Depth == 0
		add(!free && (owner < 0 || owner > 2), "owner")
		add(!free && (l.Depth == 0 || beyond(int64(l.Depth))), "own")
	}
	return all
}

// chance makes worlds of a system by a rule that is the same each time.
type chance struct {
	*rand.Rand
	x api.System
}

func one[T any](c chance, l ...T) T {
	return l[c.IntN(len(l))]
}

// number is a number that is often small, and often at a bound.
func (c chance) number() int64 {
	return one[int64](c, 0, 0, 1, 1, 2, 3, 4, 5, 6, -1, -2, 9, 1<<40-1, 1<<40, 1<<40+1, most, least, c.Int64N(20), c.Int64())
}

// thread is one that may be, where there is one in that state.
func (c chance) thread() api.Thread {
	t := api.Thread{Role: c.IntN(len(c.x.Flows)), State: c.IntN(5)}
	f := c.x.Flows[t.Role]
	t.Loc = c.IntN(f.Locs)
	out := flow.Out(f, t.Loc)
	switch {
	case len(out) > 0 && f.Edges[out[0]].Kind == api.EdWait && t.State > 0:
		t.State, t.Depth = 1+c.IntN(2), 1+c.IntN(3)
		if t.State == api.ThWait {
			t.Left = one[int64](c, 0, 3, 1<<40)
		}
	case len(out) > 0:
		t.State = one(c, api.ThRun, api.ThFault, api.ThDone)
	default:
		t.State = one(c, api.ThFault, api.ThDone)
	}
	return t
}

// world is one that may be.
func (c chance) world() api.World {
	var w api.World
	var owners []int
	for i := range c.IntN(5) {
		w.Threads = append(w.Threads, c.thread())
		if w.Threads[i].State < api.ThDone {
			owners = append(owners, i)
		}
	}
	for range c.x.P.Mons {
		l := api.Lock{Owner: -1}
		if len(owners) > 0 && c.IntN(2) == 0 {
			l = api.Lock{Owner: one(c, owners...), Depth: one(c, 1, 2, 1<<40)}
		}
		w.Locks = append(w.Locks, l)
	}
	for _, v := range names.Slots(c.x.P) {
		w.Vals = append(w.Vals, one(c, v.Lo, v.Hi, v.Init))
	}
	return w
}

// spoil changes one number of a world, or how many things it has.
func (c chance) spoil(w *api.World) {
	n := c.number()
	switch k := c.IntN(9); {
	case k < 5 && len(w.Threads) > 0:
		t := &w.Threads[c.IntN(len(w.Threads))]
		switch k {
		case 0:
			t.Role = int(n)
		case 1:
			t.Loc = int(n)
		case 2:
			t.State = int(n)
		case 3:
			t.Left = n
		case 4:
			t.Depth = int(n)
		}
	case k == 5:
		w.Locks[c.IntN(len(w.Locks))].Owner = int(n)
	case k == 6:
		w.Locks[c.IntN(len(w.Locks))].Depth = int(n)
	case k == 7:
		w.Vals[c.IntN(len(w.Vals))] = n
	case c.IntN(4) == 0:
		w.Locks = append(w.Locks, api.Lock{Owner: -1})
	case c.IntN(3) == 0:
		w.Vals = w.Vals[1:]
	default:
		w.Threads = w.Threads[:len(w.Threads)/2]
	}
}

// TestCheckFaults: P14.3, of worlds that were made at random, and of such with a number changed, against all that may be wrong with them.
func TestCheckFaults(t *testing.T) {
	x, alone := systemOf(t, busy), map[string]int{}
	for seed := range uint64(150000) {
		c := chance{rand.New(rand.NewPCG(seed, 14)), x}
		w := c.world()
		for range c.IntN(3) {
			c.spoil(&w)
			if len(w.Locks) == 0 || len(w.Vals) == 0 {
				break
			}
		}
		all := faults(c.x, w)
		want := api.OK
		if len(all) > 0 {
			want = api.ErrArg
		}
		if got := world.Check(c.x, w); got != want {
			t.Fatalf("seed %d: %+v: error %d, but %q", seed, w, got, all)
		}
		if len(all) < 2 {
			alone[strings.Join(all, "")]++
		}
	}
	// Each fault but that of too many threads was the only one, again and again.
	if alone[""] < 40000 || len(alone) != 15 {
		t.Error(alone)
	}
	for what, n := range alone {
		if n < 50 {
			t.Error(what, n)
		}
	}
}
