package script_test

import (
	"math"
	"testing"

	"vigil/api"
	"vigil/script"
)

// two is a program in which threads wait for one another, and for the clock.
const two = "monitor a { var n : 0..3 = 0; } thread r 2 { sync a { wait a 2; notify a; } }"

// busy is a program of which much can be done: of each star a few threads.
const busy = `monitor a { var n : int = 0; }
thread r * { sync a { wait a 2; } } thread p * { sync a { notify a; } } thread q * { choose { skip; } or { sync a { a.n = a.n + 1; } } }`

// TestRun: P16.3: what can be done is done, what cannot is passed over.
func TestRun(t *testing.T) {
	x := systemOf(t, "thread r 2 { skip; skip; }")
	w := firstOf(t, x)
	const begin = "0:0:0:0:0 1:0:0:0:0 / /"
	wantRan(t, x, w, "", begin, 0)
	wantRan(t, x, w, "t", begin, 1)
	wantRan(t, x, w, "0", "0:1:0:0:0 1:0:0:0:0 / /", 1)
	wantRan(t, x, w, "0 1", "0:1:0:0:0 1:1:0:0:0 / /", 2)
	wantRan(t, x, w, "0 0", "0:2:3:0:0 1:0:0:0:0 / /", 2)
	wantRan(t, x, w, "0 0 0 0 1 1 1", "0:2:3:0:0 1:2:3:0:0 / /", 4)
	wantRan(t, x, w, "3 0.1 s2 t", begin, 1)
	wantRan(t, x, w, "3 0.1 s0 s1 1.999999 999999", begin, 0)
	wantRan(t, x, w, "5 1 0.2 0 s0 1 t 1 t 0.1 0", "0:2:3:0:0 1:2:3:0:0 / /", 6)
	// Picks that have no text are passed over as all are that cannot be done.
	got, n := ran(t, x, w, api.Pick{Kind: 3}, run(-1, 0), run(0, -1), api.Pick{Kind: api.PkTick, Thread: 1}, spur(-1), run(1, 0), run(math.MaxInt, 0), run(0, math.MinInt))
	if n != 1 || got.Threads[0].Loc != 0 || got.Threads[1].Loc != 1 {
		t.Error(got, n)
	}
}

// TestRunWaits: P16.3 with draws, waits, wakeups by somebody, by nobody and by the clock.
func TestRunWaits(t *testing.T) {
	x := systemOf(t, busy)
	w := firstOf(t, x, 2, 1, 1)
	const begin = "0:0:0:0:0 0:0:0:0:0 1:0:0:0:0 2:0:0:0:0 / -1:0 / 0"
	wantRan(t, x, w, "", begin, 0)
	// Two wait; the draw tells who is woken. While a is owned, nobody else enters.
	wantRan(t, x, w, "0 1 2 0 1 2 1", "0:1:1:2:1 0:1:1:2:1 1:0:0:0:0 2:0:0:0:0 / -1:0 / 0", 4)
	wantRan(t, x, w, "0 0 1 1 2 2.1", "0:1:1:2:1 0:1:2:0:1 1:2:0:0:0 2:0:0:0:0 / 2:1 / 0", 6)
	wantRan(t, x, w, "0 0 1 1 2 2", "0:1:2:0:1 0:1:1:2:1 1:2:0:0:0 2:0:0:0:0 / 2:1 / 0", 6)
	wantRan(t, x, w, "0 0 1 1 2 2.2", "0:1:1:2:1 0:1:1:2:1 1:1:0:0:0 2:0:0:0:0 / 2:1 / 0", 5)
	// Who is woken by nobody, or by the clock, comes back as soon as a is owned by nobody.
	wantRan(t, x, w, "0 0 0 s0 s0 0 0", "0:3:3:0:0 0:0:0:0:0 1:0:0:0:0 2:0:0:0:0 / -1:0 / 0", 5)
	wantRan(t, x, w, "0 0 t s1 t 0 t 0 t", "0:3:3:0:0 0:0:0:0:0 1:0:0:0:0 2:0:0:0:0 / -1:0 / 0", 8)
	// A branch is drawn.
	wantRan(t, x, w, "3.2 3.1 3.1 3 3", "0:0:0:0:0 0:0:0:0:0 1:0:0:0:0 2:5:0:0:0 / 3:1 / 1", 3)
}

// TestRounds: P16.3: each thread in turn, then the clock, so many times.
func TestRounds(t *testing.T) {
	x := systemOf(t, "thread r 2 { skip; skip; }")
	w := firstOf(t, x)
	wantRounds(t, x, w, 0, "0:0:0:0:0 1:0:0:0:0 / /", "")
	wantRounds(t, x, w, 1, "0:1:0:0:0 1:1:0:0:0 / /", "0 1 t")
	wantRounds(t, x, w, 2, "0:2:3:0:0 1:2:3:0:0 / /", "0 1 t 0 1 t")
	wantRounds(t, x, w, 3, "0:2:3:0:0 1:2:3:0:0 / /", "0 1 t 0 1 t t")
	w.Threads[0] = api.Thread{Loc: 2, State: api.ThDone}
	wantRounds(t, x, w, 3, "0:2:3:0:0 1:2:3:0:0 / /", "1 t 1 t t")
	w.Threads = nil
	wantRounds(t, x, w, 4, "/ /", "t t t t")
}

// TestRoundsWait: P16.3: in a round, who comes behind is given what those ahead have let go; the first draw is taken; the clock ticks at the end alone; nobody is woken by nobody.
func TestRoundsWait(t *testing.T) {
	x := systemOf(t, busy)
	w := firstOf(t, x, 2, 1, 1)
	for n, want := range []struct{ world, done string }{
		{"0:0:0:0:0 0:0:0:0:0 1:0:0:0:0 2:0:0:0:0 / -1:0 / 0", ""},
		{"0:1:0:0:0 0:0:0:0:0 1:0:0:0:0 2:1:0:0:0 / 0:1 / 0", "0 3 t"},
		{"0:1:1:1:1 0:1:0:0:0 1:0:0:0:0 2:2:0:0:0 / 1:1 / 0", "0 1 3 t"},
		{"0:1:2:0:1 0:1:1:1:1 1:1:0:0:0 2:7:3:0:0 / 2:1 / 0", "1 2 3 t"},
		{"0:1:2:0:1 0:1:2:0:1 1:2:0:0:0 2:7:3:0:0 / 2:1 / 0", "2 t"},
		{"0:1:2:0:1 0:1:2:0:1 1:3:3:0:0 2:7:3:0:0 / -1:0 / 0", "2 t"},
		{"0:2:0:0:0 0:1:2:0:1 1:3:3:0:0 2:7:3:0:0 / 0:1 / 0", "0 t"},
		{"0:3:3:0:0 0:2:0:0:0 1:3:3:0:0 2:7:3:0:0 / 1:1 / 0", "0 1 t"},
		{"0:3:3:0:0 0:3:3:0:0 1:3:3:0:0 2:7:3:0:0 / -1:0 / 0", "1 t"},
		{"0:3:3:0:0 0:3:3:0:0 1:3:3:0:0 2:7:3:0:0 / -1:0 / 0", "t"},
	} {
		all, _ := rounds(t, x, w, n)
		if n == 0 {
			wantRounds(t, x, w, 0, want.world, "")
			continue
		}
		before, _ := rounds(t, x, w, n-1)
		wantRounds(t, x, before, 1, want.world, want.done)
		wantRounds(t, x, all, 0, want.world, "")
	}
	_, l := rounds(t, x, w, 10)
	if s, _ := script.Put(l); s != "0 3 t 0 1 3 t 1 2 3 t 2 t 2 t 0 t 0 1 t 1 t t t" {
		t.Error(s)
	}
}

// TestRoundsBounds: P16.3: of n of 0 to 1000; else no round at all.
func TestRoundsBounds(t *testing.T) {
	x := systemOf(t, "monitor a { var n : int = 0; } thread r 1 { loop { sync a { a.n = a.n + 1; } } }")
	w := firstOf(t, x)
	const begin = "0:0:0:0:0 / -1:0 / 0"
	for _, n := range []int{math.MinInt, -1000, -2, -1, 1001, 1002, 2000, 1 << 32, 1<<32 + 1, math.MaxInt} {
		wantRounds(t, x, w, n, begin, "")
	}
	for _, n := range []int{1, 2, 999, 1000} {
		got, l := rounds(t, x, w, n)
		if len(l) != 2*n || got.Threads[0].State != api.ThRun {
			t.Errorf("%d rounds: %d picks, %+v", n, len(l), got)
		}
	}
	// With as many threads as there may be.
	x = systemOf(t, "thread r * { loop { skip; } }")
	if _, l := rounds(t, x, firstOf(t, x, api.MaxThreads), 1000); len(l) != 1000*(api.MaxThreads+1) {
		t.Error(len(l))
	}
}

// TestFaults: P16.3: who faults has done a step; what it owned is let go.
func TestFaults(t *testing.T) {
	x := systemOf(t, "monitor a { var n : int = 9223372036854775807; } thread r 2 { sync a { a.n = a.n + 1; } }")
	wantRan(t, x, firstOf(t, x), "0 1 0 0 1 1", "0:1:4:0:0 1:1:4:0:0 / -1:0 / 9223372036854775807", 4)
	wantRounds(t, x, firstOf(t, x), 9, "0:1:4:0:0 1:1:4:0:0 / -1:0 / 9223372036854775807", "0 t 0 1 t 1 t t t t t t t")
}

// TestRefused: of a world that world.Check refuses nothing can be done: it stays.
func TestRefused(t *testing.T) {
	x := systemOf(t, "monitor a { var n : 0..3 = 0; } thread r 1 { sync a { a.n = 1; } }")
	for _, s := range []string{"/ /", "0:0:0:0:0 / -1:0 / 4", "0:9:0:0:0 / -1:0 / 0", "1:0:0:0:0 / -1:0 / 0", "0:0:0:0:0 / 1:1 / 0", "0:0:0:0:0 / -1:0 -1:0 / 0", words("0:0:0:0:0", 41) + " / -1:0 / 0", words("0:0:0:0:0", 100000) + " / -1:0 / 0"} {
		w := worldOf(t, s)
		wantRan(t, x, w, "0 t s0 0.1", s, 0)
		wantRounds(t, x, w, 3, s, "")
		wantRounds(t, x, w, 1000, s, "")
	}
	// The system that has nothing has a world in which the clock may tick.
	x = systemOf(t, "")
	wantRan(t, x, api.World{}, "0 t s0 t", "/ /", 2)
	wantRounds(t, x, api.World{}, 2, "/ /", "t t")
	// A step may lead to what Check refuses; from there on nothing can be done.
	x = systemOf(t, "monitor a { } thread r 1 { sync a { wait a 9223372036854775807; } }")
	wantRan(t, x, firstOf(t, x), "0 t 0 t s0 0", "0:1:1:9223372036854775807:1 / -1:0 /", 3)
	wantRounds(t, x, firstOf(t, x), 1000, "0:1:1:9223372036854775807:1 / -1:0 /", "0 t 0")
}

// TestApart: what was told once is not changed by what is done with it or told later.
func TestApart(t *testing.T) {
	x := systemOf(t, two)
	w := firstOf(t, x)
	next, l := script.Rounds(x, w, 3)
	same, again := script.Rounds(x, w, 3)
	for i := range again {
		again[i] = spur(70)
	}
	spoil(same)
	wantRounds(t, x, w, 3, "0:1:2:0:1 1:1:1:1:1 / -1:0 / 0", "0 t 0 1 t 1 t")
	if s, _ := script.Put(l); s != "0 t 0 1 t 1 t" || next.Threads[1].Left != 1 {
		t.Error(s, next)
	}
}
