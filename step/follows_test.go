package step_test

import (
	"fmt"
	"slices"
	"testing"

	"vigil/api"
	"vigil/flow"
	"vigil/held"
	"vigil/sample"
	"vigil/step"
	"vigil/world"
)

// everything are all picks that Do takes: of threads, of nobody, of the clock.
func everything(x api.System, w api.World) []api.Pick {
	all := step.Picks(x, w)
	for t := range w.Threads {
		if w.Threads[t].State == api.ThWait {
			all = append(all, spur(t))
		}
	}
	return append(all, tick())
}

// heldOf tells of each flow what is owned at its places.
func heldOf(t testing.TB, x api.System) [][][]int {
	t.Helper()
	var all [][][]int
	for _, f := range x.Flows {
		h, ok := held.Held(f, len(x.P.Mons))
		if !ok {
			t.Fatal(f)
		}
		all = append(all, h)
	}
	return all
}

// wantOwners holds P15.6 of a world that is reached: a thread owns a monitor as often as it is owned at its place. Who waits, or is woken, has let one go, and will own it so often again; who has faulted has let go all.
func wantOwners(t testing.TB, what string, x api.System, w api.World, at [][][]int) {
	t.Helper()
	for i, thread := range w.Threads {
		if thread.State == api.ThFault {
			for mon, l := range w.Locks {
				if l.Owner == i {
					t.Errorf("%s: %s: thread %d owns %d", what, world.Text(w), i, mon)
				}
			}
			continue
		}
		for mon, n := range at[thread.Role][thread.Loc] {
			owns := 0
			if w.Locks[mon].Owner == i {
				owns = w.Locks[mon].Depth
			}
			if waits := thread.State == api.ThWait || thread.State == api.ThWoken; waits && (&rules{x: x, w: w}).leads(i)[0].Mon == mon {
				if owns > 0 || thread.Depth != n {
					t.Errorf("%s: %s: thread %d owns %d %d times, and did %d times", what, world.Text(w), i, mon, owns, thread.Depth)
				}
			} else if owns != n {
				t.Errorf("%s: %s: thread %d owns %d %d times, not %d times", what, world.Text(w), i, mon, owns, n)
			}
		}
	}
}

// wantOthers holds P15.7 of a step: it changes no other thread but those that it wakes, and variables by an EdSet alone.
func wantOthers(t testing.TB, what string, x api.System, w, next api.World, p api.Pick, took api.Took) {
	t.Helper()
	if p.Kind != api.PkRun {
		return
	}
	for i := range w.Threads {
		if i == p.Thread || w.Threads[i] == next.Threads[i] {
			continue
		}
		woken := w.Threads[i]
		woken.State, woken.Left = api.ThWoken, 0
		if !slices.Contains(took.Woken, i) || next.Threads[i] != woken || w.Threads[i].State != api.ThWait {
			t.Errorf("%s: %s, %+v: thread %d: %+v", what, world.Text(w), p, i, next.Threads[i])
		}
	}
	e := x.Flows[w.Threads[p.Thread].Role].Edges[took.Edge]
	for slot := range w.Vals {
		if w.Vals[slot] != next.Vals[slot] && (e.Kind != api.EdSet || e.Var != slot) {
			t.Errorf("%s: %s, %+v: slot %d is %d", what, world.Text(w), p, slot, next.Vals[slot])
		}
	}
}

// TestWalks: P15.5 to P15.7, along picks that are made at random, from the first world on, and P15.1 to P15.4 on the way.
func TestWalks(t *testing.T) {
	var seen, ruled tally
	for seed := range uint64(1500) {
		d := drawn(seed, 155)
		x, text := d.System()
		at, what := heldOf(t, x), fmt.Sprint("seed ", seed, ": ", text)
		w := d.First(x)
		for i := range 120 {
			if wantOwners(t, what, x, w, at); i%50 == 49 {
				wantRules(t, what, x, w, &ruled)
			}
			all := everything(x, w)
			if runs := len(step.Picks(x, w)); runs > 0 && d(4) > 0 {
				all = all[:runs]
			}
			p := sample.One(d, all...)
			next, took, err := step.Do(x, w, p)
			if err != api.OK || world.Check(x, next) != api.OK {
				t.Fatalf("%s: %s, %+v: error %d, %+v", what, world.Text(w), p, err, next)
			}
			wantOthers(t, what, x, w, next, p, took)
			if seen.count(x, w, p, next, took); t.Failed() {
				return
			}
			w = next
		}
	}
	// In worlds that are reached nobody lacks a monitor.
	for kind := api.EdSkip; kind <= api.EdPick; kind++ {
		reckons := kind == api.EdTest || kind == api.EdSet
		if seen.kinds[kind] < 400 || reckons && seen.faults[kind] < 30 || !reckons && seen.faults[kind] > 0 {
			t.Errorf("kind %d: %+v", kind, seen)
		}
	}
	if seen.resumed < 1000 || seen.ended < 500 || seen.drawn < 5 || seen.all < 5 || seen.over < 50 {
		t.Errorf("%+v", seen)
	}
}

// TestAllWorlds: P15.5 to P15.7, and P15.1 to P15.4, at all worlds of a few programs, wakeups by nobody among the picks; and what these programs are for.
func TestAllWorlds(t *testing.T) {
	const buffer = `monitor a { var n : 0..1 = 0;
  method put { while a.n == 1 { wait a; } a.n = a.n + 1; notify a; }
  method get { while a.n == 0 { wait a 2; } a.n = a.n - 1; notifyall a; } }
thread p 1 { loop { call a.put; } } thread g * { call a.get; call a.get; }`
	const ring = "monitor a { } monitor c { } thread p 1 { sync a { sync c { skip; } } } thread q 1 { sync c { sync a { skip; } } }"
	const nested = "monitor a { var b : bool = false; } thread p 2 { sync a { sync a { while !a.b { wait a 1; } } a.b = false; } } thread q 1 { sync a { a.b = true; choose { notify a; } or { notifyall a; } or { } } }"
	for _, c := range []struct {
		text   string
		counts []int
		stuck  int // how many worlds there are in which no thread can, but some are not done
		ends   int // in how many all are done
	}{
		{ring, nil, 1, 1}, {nested, nil, 3, 0}, {buffer, []int{2}, 1, 0}, {"thread r 1 { skip; }", nil, 0, 1}, {"thread r 2 { loop { } }", nil, 0, 0},
		{"monitor a { } thread r 1 { sync a { wait a; } }", nil, 1, 1}, {"monitor a { } thread r 1 { sync a { wait a 3; } }", nil, 3, 1},
		{"monitor a { var n : 0..2 = 0; } thread r 3 { sync a { a.n = a.n + 1; } }", nil, 3, 0},
	} {
		x := systemOf(t, c.text)
		at := heldOf(t, x)
		list := []api.World{firstOf(t, x, c.counts...)}
		found, seen := map[string]bool{world.Text(list[0]): true}, tally{}
		stuck, ends := 0, 0
		for i := 0; i < len(list); i++ {
			w := list[i]
			wantOwners(t, c.text, x, w, at)
			wantRules(t, c.text, x, w, &seen)
			done := !slices.ContainsFunc(w.Threads, func(t api.Thread) bool { return t.State != api.ThDone })
			ends += btoi(done)
			stuck += btoi(!done && len(step.Picks(x, w)) == 0)
			for _, p := range everything(x, w) {
				next, took, err := step.Do(x, w, p)
				if err != api.OK || world.Check(x, next) != api.OK {
					t.Fatalf("%s: %s, %+v: error %d, %+v", c.text, world.Text(w), p, err, next)
				}
				if wantOthers(t, c.text, x, w, next, p, took); !found[world.Text(next)] {
					found[world.Text(next)] = true
					list = append(list, next)
				}
			}
			if t.Failed() || len(list) > 20000 {
				t.Fatal(c.text, len(list))
			}
		}
		if stuck != c.stuck || ends != c.ends {
			t.Errorf("%s: %d worlds, %d stuck, %d ends", c.text, len(list), stuck, ends)
		}
	}
}

func btoi(b bool) int {
	if b {
		return 1
	}
	return 0
}

// TestBounds: P15.3 where what comes is beyond what Check takes, so that P15.5 cannot be: a monitor is owned once more, a wait has the number of its edge, all the same.
func TestBounds(t *testing.T) {
	x := systemOf(t, "monitor a { } thread r * { sync a { wait a 1099511627776; wait a 9223372036854775807; } }")
	wantDone(t, x, worldOf(t, "0:1:0:0:0 / 0:1 /"), run(0, 0), "0:1:1:T:1 / -1:0 /", 1)
	w := worldOf(t, "0:0:0:0:0 0:2:0:0:0 / 0:T /")
	wantDone(t, x, w, run(0, 0), "0:1:0:0:0 0:2:0:0:0 / 0:1099511627777 /", 0)
	w.Locks[0].Owner = 1
	wantDone(t, x, w, run(1, 0), "0:0:0:0:0 0:2:1:9223372036854775807:T / -1:0 /", 2)
	wantPicks(t, x, worldOf(t, "0:2:1:9223372036854775807:1 / -1:0 /"))
	// As far as a world goes, the clock ticks.
	wantDone(t, x, worldOf(t, "0:1:1:T:1 / -1:0 /"), tick(), "0:1:1:1099511627775:1 / -1:0 /", -1)
}

// TestLong: threads of the longest flows that there may be, each at its last place but one.
func TestLong(t *testing.T) {
	text := "thread r 8 { "
	for range 199 {
		text += "if true { } "
	}
	x := systemOf(t, text+"}")
	w := firstOf(t, x)
	f := x.Flows[0]
	for i := range w.Threads {
		w.Threads[i].Loc = f.Edges[len(f.Edges)-1].From
	}
	for i := range w.Threads {
		next, took, err := step.Do(x, w, run(i, 0))
		if err != api.OK || took.Edge != len(f.Edges)-1 || next.Threads[i].State != api.ThDone || len(flow.Out(f, next.Threads[i].Loc)) > 0 {
			t.Errorf("%d: error %d, %+v, %+v", i, err, took, next.Threads[i])
		}
	}
}
