package step_test

import (
	"math"
	"slices"
	"strings"
	"testing"

	"vigil/api"
	"vigil/step"
	"vigil/world"
)

// busy has edges of every kind, by flow and place:
// e (0): 0 enters a; from 1 the edge 1 tests a.b, the edge 4 its not; 2 sets a.n, 5 sets a.b; 3 and 6 skip; 4 leaves a; 7 is the end.
// g (1): 0 enters a, 1 c; 2 waits at a for 5 ticks; 3 notifies a; 4 wakes all at c; 5 leaves c, 6 a; 7 is the end.
// h (2): from 0 the edges 0, 1, 3 pick 1, 2, 4; 1, 2, 3, 5 skip, 4 does so to itself; 6 is the end.
// l (3): 0 enters c; from 1 the edge 1 tests c.x + 1 > 0, the edge 4 its not; 2 waits at c; 3 skips to 1; 4 sets c.x; 5 leaves c; 6 skips; 7 is the end.
// Its variables are a.b, a.n, c.x.
const busy = `monitor a { var b : bool = true; var n : 0..3 = 1; }
monitor c { var x : int = 0; }
thread e 1 { sync a { if a.b { a.n = a.n + 1; } else { a.b = a.n > 1; } } }
thread g 1 { sync a { sync c { wait a 5; notify a; notifyall c; } } }
thread h * { choose { } or { skip; } or { loop { } } }
thread l * { sync c { while c.x + 1 > 0 { wait c; } c.x = -c.x; } skip; }
`

// TestNumbers: the numbers that the chapter tells.
func TestNumbers(t *testing.T) {
	if api.PkRun != 0 || api.PkSpur != 1 || api.PkTick != 2 || api.ErrPick != 150 || api.ErrArg != 2 {
		t.Error("other numbers")
	}
}

// TestCan: P15.1, P15.4: who can, where all threads that can have one step each.
func TestCan(t *testing.T) {
	x := systemOf(t, busy)
	for _, c := range []struct {
		world string
		who   []int
	}{
		// All that begin can: they would enter what is free, or pick.
		{"0:0:0:0:0 1:0:0:0:0 3:0:0:0:0 / -1:0 -1:0 / 1 1 0", []int{0, 1, 2}},
		// The chapter's example: where one has entered, the other one cannot.
		{"0:1:0:0:0 1:0:0:0:0 / 0:1 -1:0 / 1 1 0", []int{0}},
		{"0:0:0:0:0 1:1:0:0:0 3:0:0:0:0 / 1:1 -1:0 / 1 1 0", []int{1, 2}},
		{"0:0:0:0:0 1:2:0:0:0 3:0:0:0:0 / 1:1 1:1 / 1 1 0", []int{1}},
		// Who owns a monitor may enter it again, however often it does.
		{"0:0:0:0:0 0:0:0:0:0 / 0:1 -1:0 / 1 1 0", []int{0}},
		{"0:0:0:0:0 0:0:0:0:0 / 1:T -1:0 / 1 1 0", []int{1}},
		// A monitor whose owner waits, or is woken, at another one is no free one.
		{"3:0:0:0:0 1:2:1:0:1 / -1:0 1:1 / 1 1 0", nil},
		{"3:0:0:0:0 1:2:2:0:1 / -1:0 1:1 / 1 1 0", []int{1}},
		// Kinds that are no enter ask for nothing, even where what they need is owned by others, or by nobody.
		{"0:1:0:0:0 0:2:0:0:0 0:3:0:0:0 0:4:0:0:0 1:2:0:0:0 1:3:0:0:0 1:4:0:0:0 / 6:1 5:1 / 1 1 0", []int{0, 1, 2, 3, 4, 5, 6}},
		{"0:1:0:0:0 0:5:0:0:0 0:4:0:0:0 1:2:0:0:0 1:3:0:0:0 1:4:0:0:0 2:4:0:0:0 / -1:0 -1:0 / 1 1 0", []int{0, 1, 2, 3, 4, 5, 6}},
		// Who waits cannot.
		{"1:2:1:5:1 1:2:1:0:1 3:2:1:0:1 / -1:0 -1:0 / 1 1 0", nil},
		// Who is woken can where its own monitor is free, whatever is with others; not even it itself may own that.
		{"1:2:2:0:1 3:2:2:0:1 / -1:0 -1:0 / 1 1 0", []int{0, 1}},
		{"1:2:2:0:1 3:2:2:0:1 0:1:0:0:0 / 2:1 -1:0 / 1 1 0", []int{1, 2}},
		{"1:2:2:0:1 3:2:2:0:1 0:1:0:0:0 / -1:0 2:1 / 1 1 0", []int{0, 2}},
		{"1:2:2:0:1 3:2:2:0:1 / 0:1 1:1 / 1 1 0", nil},
		// Nor can who is done or has faulted.
		{"0:7:3:0:0 0:1:4:0:0 2:6:3:0:0 0:0:3:0:0 3:2:4:0:0 / -1:0 -1:0 / 1 1 0", nil},
		{"/ -1:0 -1:0 / 1 1 0", nil},
	} {
		var want []api.Pick
		for _, who := range c.who {
			want = append(want, run(who, 0))
		}
		w := worldOf(t, c.world)
		wantPicks(t, x, w, want...)
		for thread := range w.Threads {
			if !slices.Contains(c.who, thread) {
				wantRefused(t, x, w, run(thread, 0), api.ErrPick)
			}
		}
		for _, thread := range []int{math.MinInt, -1, len(w.Threads), math.MaxInt} {
			if step.Can(x, w, thread) {
				t.Errorf("%s: %d can", c.world, thread)
			}
			wantRefused(t, x, w, run(thread, 0), api.ErrPick)
		}
	}
}

// TestWaiters: P15.2: who waits, not who is woken, runs, or has faulted where it waited; at that monitor, not at another one.
func TestWaiters(t *testing.T) {
	x := systemOf(t, busy)
	w := worldOf(t, "3:2:1:0:1 1:2:1:5:1 0:0:0:0:0 1:2:2:0:1 3:2:2:0:1 1:2:1:0:2 1:2:0:0:0 3:2:4:0:0 3:2:0:0:0 3:2:1:0:3 3:2:3:0:0 1:2:4:0:0 / 6:1 9:2 / 1 1 0")
	for mon, want := range map[int][]int{0: {1, 5}, 1: {0, 9}, -1: nil, 2: nil, 3: nil, math.MinInt: nil, math.MaxInt: nil} {
		if got := step.Waiters(x, w, mon); !slices.Equal(got, want) {
			t.Errorf("at %d: %d, want %d", mon, got, want)
		}
	}
	if got := step.Waiters(x, worldOf(t, "0:0:0:0:0 / -1:0 -1:0 / 1 1 0"), 0); len(got) > 0 {
		t.Error(got)
	}
}

// deed is a step that can be, and what comes of it: a world, an edge, who is woken.
type deed struct {
	world string
	pick  api.Pick
	want  string
	edge  int
	woken []int
}

// wantAll holds Do of busy's worlds against what must come of them, and Check against that (P15.5).
func wantAll(t *testing.T, all []deed) {
	t.Helper()
	x := systemOf(t, busy)
	for _, c := range all {
		w := worldOf(t, c.world)
		wantDone(t, x, w, c.pick, c.want, c.edge, c.woken...)
		if next, _, _ := step.Do(x, w, c.pick); world.Check(x, next) != api.OK {
			t.Errorf("%s: %+v is no world", c.world, next)
		}
	}
}

// TestGoes: P15.3 of who runs: an EdSkip, an EdPick, an EdTest, an EdSet, and the end.
func TestGoes(t *testing.T) {
	wantAll(t, []deed{
		{"2:2:0:0:0 / -1:0 -1:0 / 1 1 0", run(0, 0), "2:3:0:0:0 / -1:0 -1:0 / 1 1 0", 2, nil},
		{"2:4:0:0:0 / -1:0 -1:0 / 1 1 0", run(0, 0), "2:4:0:0:0 / -1:0 -1:0 / 1 1 0", 4, nil},
		{"2:3:0:0:0 / -1:0 -1:0 / 1 1 0", run(0, 0), "2:6:3:0:0 / -1:0 -1:0 / 1 1 0", 6, nil},
		{"2:5:0:0:0 2:6:3:0:0 / -1:0 -1:0 / 0 3 -7", run(0, 0), "2:6:3:0:0 2:6:3:0:0 / -1:0 -1:0 / 0 3 -7", 7, nil},
		// Which one is picked is told by the draw.
		{"2:0:0:0:0 / -1:0 -1:0 / 1 1 0", run(0, 0), "2:1:0:0:0 / -1:0 -1:0 / 1 1 0", 0, nil},
		{"2:0:0:0:0 / -1:0 -1:0 / 1 1 0", run(0, 1), "2:2:0:0:0 / -1:0 -1:0 / 1 1 0", 1, nil},
		{"2:0:0:0:0 2:0:0:0:0 / -1:0 -1:0 / 1 1 0", run(1, 2), "2:0:0:0:0 2:4:0:0:0 / -1:0 -1:0 / 1 1 0", 3, nil},
		// A test goes by what it comes to, whoever owns what it reads.
		{"0:1:0:0:0 / 0:1 -1:0 / 1 1 0", run(0, 0), "0:2:0:0:0 / 0:1 -1:0 / 1 1 0", 1, nil},
		{"0:1:0:0:0 / 0:1 -1:0 / 0 1 0", run(0, 0), "0:5:0:0:0 / 0:1 -1:0 / 0 1 0", 4, nil},
		{"0:1:0:0:0 / -1:0 -1:0 / 0 1 0", run(0, 0), "0:5:0:0:0 / -1:0 -1:0 / 0 1 0", 4, nil},
		{"3:1:0:0:0 / -1:0 0:1 / 1 1 0", run(0, 0), "3:2:0:0:0 / -1:0 0:1 / 1 1 0", 1, nil},
		{"3:1:0:0:0 / -1:0 0:1 / 1 1 -1", run(0, 0), "3:4:0:0:0 / -1:0 0:1 / 1 1 -1", 4, nil},
		// A set changes one variable.
		{"0:2:0:0:0 / 0:1 -1:0 / 1 1 5", run(0, 0), "0:3:0:0:0 / 0:1 -1:0 / 1 2 5", 2, nil},
		{"0:2:0:0:0 / 0:1 -1:0 / 1 2 5", run(0, 0), "0:3:0:0:0 / 0:1 -1:0 / 1 3 5", 2, nil},
		{"0:5:0:0:0 / 0:1 -1:0 / 0 2 5", run(0, 0), "0:6:0:0:0 / 0:1 -1:0 / 1 2 5", 5, nil},
		{"0:5:0:0:0 / 0:1 -1:0 / 1 1 5", run(0, 0), "0:6:0:0:0 / 0:1 -1:0 / 0 1 5", 5, nil},
		{"3:4:0:0:0 / -1:0 0:1 / 1 1 9223372036854775807", run(0, 0), "3:5:0:0:0 / -1:0 0:1 / 1 1 -9223372036854775807", 5, nil},
		{"3:4:0:0:0 0:0:0:0:0 / 1:1 -1:0 / 1 1 -4", run(0, 0), "3:5:0:0:0 0:0:0:0:0 / 1:1 -1:0 / 1 1 4", 5, nil},
	})
}

// TestLocks: P15.3 of who runs: an EdEnter, an EdLeave.
func TestLocks(t *testing.T) {
	wantAll(t, []deed{
		{"1:0:0:0:0 / -1:0 -1:0 / 1 1 0", run(0, 0), "1:1:0:0:0 / 0:1 -1:0 / 1 1 0", 0, nil},
		{"0:0:0:0:0 1:1:0:0:0 / 1:1 -1:0 / 1 1 0", run(1, 0), "0:0:0:0:0 1:2:0:0:0 / 1:1 1:1 / 1 1 0", 1, nil},
		{"1:1:0:0:0 / 0:1 0:2 / 1 1 0", run(0, 0), "1:2:0:0:0 / 0:1 0:3 / 1 1 0", 1, nil},
		{"1:5:0:0:0 / 0:1 0:3 / 1 1 0", run(0, 0), "1:6:0:0:0 / 0:1 0:2 / 1 1 0", 5, nil},
		{"1:5:0:0:0 / 0:1 0:1 / 1 1 0", run(0, 0), "1:6:0:0:0 / 0:1 -1:0 / 1 1 0", 5, nil},
		{"1:5:0:0:0 / 0:1 0:T / 1 1 0", run(0, 0), "1:6:0:0:0 / 0:1 0:1099511627775 / 1 1 0", 5, nil},
		// Who leaves may be at the end by that, and wakes nobody.
		{"0:0:0:0:0 1:6:0:0:0 1:2:1:5:1 / 1:1 -1:0 / 1 1 0", run(1, 0), "0:0:0:0:0 1:7:3:0:0 1:2:1:5:1 / -1:0 -1:0 / 1 1 0", 6, nil},
	})
}

// TestWaits: P15.3 of an EdWait, and of who is ThWoken.
func TestWaits(t *testing.T) {
	wantAll(t, []deed{
		{"1:2:0:0:0 / 0:1 0:1 / 1 1 0", run(0, 0), "1:2:1:5:1 / -1:0 0:1 / 1 1 0", 2, nil},
		{"0:0:0:0:0 1:2:0:0:0 / 1:7 1:2 / 1 1 0", run(1, 0), "0:0:0:0:0 1:2:1:5:7 / -1:0 1:2 / 1 1 0", 2, nil},
		{"3:2:0:0:0 / -1:0 0:T / 1 1 0", run(0, 0), "3:2:1:0:T / -1:0 -1:0 / 1 1 0", 2, nil},
		// Who is woken owns it as often as it did, and goes on behind the wait.
		{"1:2:2:0:1 / -1:0 -1:0 / 1 1 0", run(0, 0), "1:3:0:0:0 / 0:1 -1:0 / 1 1 0", 2, nil},
		{"3:2:2:0:9 1:2:2:0:4 / -1:0 0:1 / 1 1 0", run(1, 0), "3:2:2:0:9 1:3:0:0:0 / 1:4 0:1 / 1 1 0", 2, nil},
		{"3:2:2:0:T 1:2:2:0:4 / -1:0 -1:0 / 1 1 0", run(0, 0), "3:3:0:0:0 1:2:2:0:4 / -1:0 0:T / 1 1 0", 2, nil},
	})
}

// TestWakes: P15.3 of an EdNotify, an EdAll, a PkSpur.
func TestWakes(t *testing.T) {
	const three = "1:2:1:0:2 1:3:0:0:0 1:2:1:3:1 3:2:1:0:1 1:2:2:0:1 1:2:1:5:1 / 1:1 1:1 / 1 1 0"
	wantAll(t, []deed{
		{three, run(1, 0), "1:2:2:0:2 1:4:0:0:0 1:2:1:3:1 3:2:1:0:1 1:2:2:0:1 1:2:1:5:1 / 1:1 1:1 / 1 1 0", 3, []int{0}},
		{three, run(1, 1), "1:2:1:0:2 1:4:0:0:0 1:2:2:0:1 3:2:1:0:1 1:2:2:0:1 1:2:1:5:1 / 1:1 1:1 / 1 1 0", 3, []int{2}},
		{three, run(1, 2), "1:2:1:0:2 1:4:0:0:0 1:2:1:3:1 3:2:1:0:1 1:2:2:0:1 1:2:2:0:1 / 1:1 1:1 / 1 1 0", 3, []int{5}},
		// Where nobody waits it goes on all the same.
		{"1:3:0:0:0 3:2:1:0:1 1:2:2:0:1 / 0:2 -1:0 / 1 1 0", run(0, 0), "1:4:0:0:0 3:2:1:0:1 1:2:2:0:1 / 0:2 -1:0 / 1 1 0", 3, nil},
		{"3:2:1:0:1 1:4:0:0:0 3:2:1:0:7 1:2:1:5:1 3:2:2:0:1 / 1:1 1:1 / 1 1 0", run(1, 0), "3:2:2:0:1 1:5:0:0:0 3:2:2:0:7 1:2:1:5:1 3:2:2:0:1 / 1:1 1:1 / 1 1 0", 4, []int{0, 2}},
		{"1:4:0:0:0 1:2:1:5:1 / 0:1 0:1 / 1 1 0", run(0, 0), "1:5:0:0:0 1:2:1:5:1 / 0:1 0:1 / 1 1 0", 4, nil},
		// A wakeup by nobody is one of a single thread, by no edge.
		{three, spur(0), "1:2:2:0:2 1:3:0:0:0 1:2:1:3:1 3:2:1:0:1 1:2:2:0:1 1:2:1:5:1 / 1:1 1:1 / 1 1 0", -1, []int{0}},
		{three, spur(3), "1:2:1:0:2 1:3:0:0:0 1:2:1:3:1 3:2:2:0:1 1:2:2:0:1 1:2:1:5:1 / 1:1 1:1 / 1 1 0", -1, []int{3}},
		{three, spur(5), "1:2:1:0:2 1:3:0:0:0 1:2:1:3:1 3:2:1:0:1 1:2:2:0:1 1:2:2:0:1 / 1:1 1:1 / 1 1 0", -1, []int{5}},
	})
}

// TestTicks: P15.3 of a PkTick.
func TestTicks(t *testing.T) {
	wantAll(t, []deed{
		{"/ -1:0 -1:0 / 1 1 0", tick(), "/ -1:0 -1:0 / 1 1 0", -1, nil},
		{"1:2:1:0:1 0:0:0:0:0 3:2:2:0:1 0:7:3:0:0 0:1:4:0:0 / 1:1 2:1 / 1 1 0", tick(), "1:2:1:0:1 0:0:0:0:0 3:2:2:0:1 0:7:3:0:0 0:1:4:0:0 / 1:1 2:1 / 1 1 0", -1, nil},
		{"1:2:1:2:1 1:2:1:T:1 / -1:0 -1:0 / 1 1 0", tick(), "1:2:1:1:1 1:2:1:1099511627775:1 / -1:0 -1:0 / 1 1 0", -1, nil},
		{"1:2:1:1:3 1:2:1:2:1 1:2:1:0:1 3:2:1:1:2 / -1:0 -1:0 / 1 1 0", tick(), "1:2:2:0:3 1:2:1:1:1 1:2:1:0:1 3:2:2:0:2 / -1:0 -1:0 / 1 1 0", -1, []int{0, 3}},
	})
}

// TestFaults: P15.3 of who faults: it stays where it is, and lets go all that it owns, and nothing else.
func TestFaults(t *testing.T) {
	wantAll(t, []deed{
		// What is beyond the bounds of numbers, in a test and in a set; a value that a variable may not have.
		{"3:1:0:0:0 / -1:0 0:1 / 1 1 9223372036854775807", run(0, 0), "3:1:4:0:0 / -1:0 -1:0 / 1 1 9223372036854775807", 1, nil},
		{"3:4:0:0:0 / 0:3 0:1 / 1 1 -9223372036854775808", run(0, 0), "3:4:4:0:0 / -1:0 -1:0 / 1 1 -9223372036854775808", 5, nil},
		{"0:0:0:0:0 0:2:0:0:0 / 1:2 0:1 / 1 3 0", run(1, 0), "0:0:0:0:0 0:2:4:0:0 / -1:0 0:1 / 1 3 0", 2, nil},
		{"1:2:1:5:1 0:2:0:0:0 / 1:2 1:1 / 1 3 0", run(1, 0), "1:2:1:5:1 0:2:4:0:0 / -1:0 -1:0 / 1 3 0", 2, nil},
		// A monitor that nobody owns, or somebody else.
		{"0:4:0:0:0 / -1:0 0:1 / 1 1 0", run(0, 0), "0:4:4:0:0 / -1:0 -1:0 / 1 1 0", 7, nil},
		{"0:0:0:0:0 1:5:0:0:0 / 1:1 0:2 / 1 1 0", run(1, 0), "0:0:0:0:0 1:5:4:0:0 / -1:0 0:2 / 1 1 0", 5, nil},
		{"1:2:0:0:0 / -1:0 0:1 / 1 1 0", run(0, 0), "1:2:4:0:0 / -1:0 -1:0 / 1 1 0", 2, nil},
		{"3:2:0:0:0 1:2:1:5:1 / 0:1 1:1 / 1 1 0", run(0, 0), "3:2:4:0:0 1:2:1:5:1 / -1:0 1:1 / 1 1 0", 2, nil},
		{"1:4:0:0:0 3:2:1:0:1 / 0:1 -1:0 / 1 1 0", run(0, 0), "1:4:4:0:0 3:2:1:0:1 / -1:0 -1:0 / 1 1 0", 4, nil},
		// Among waiters that are not woken by it there is a choice, too.
		{"1:3:0:0:0 1:2:1:5:1 1:2:1:0:1 / -1:0 0:1 / 1 1 0", run(0, 0), "1:3:4:0:0 1:2:1:5:1 1:2:1:0:1 / -1:0 -1:0 / 1 1 0", 3, nil},
		{"1:3:0:0:0 1:2:1:5:1 1:2:1:0:1 / 1:1 -1:0 / 1 1 0", run(0, 1), "1:3:4:0:0 1:2:1:5:1 1:2:1:0:1 / 1:1 -1:0 / 1 1 0", 3, nil},
	})
}

// TestPicks: P15.4: the choices of an EdPick and of an EdNotify, by rising thread and draw; none beyond these.
func TestPicks(t *testing.T) {
	x := systemOf(t, busy)
	for _, c := range []struct {
		world string
		many  []int // how many choices each thread has
	}{
		{"2:0:0:0:0 0:0:0:0:0 2:0:0:0:0 2:1:0:0:0 / 1:1 -1:0 / 1 1 0", []int{3, 1, 3, 1}},
		{"2:0:0:0:0 0:0:0:0:0 2:0:3:0:0 2:0:4:0:0 / -1:0 -1:0 / 1 1 0", []int{3, 1, 0, 0}},
		{"1:3:0:0:0 1:2:1:5:1 1:2:1:0:1 3:2:1:0:1 / 0:1 0:1 / 1 1 0", []int{2, 0, 0, 0}},
		{"1:2:1:5:1 1:3:0:0:0 1:2:1:5:1 1:2:1:1:1 / 1:1 1:1 / 1 1 0", []int{0, 3, 0, 0}},
		{"1:2:1:5:1 1:3:0:0:0 1:2:2:0:1 / 1:1 1:1 / 1 1 0", []int{0, 1, 0}},
		{"1:3:0:0:0 1:2:2:0:1 3:2:1:0:1 / 0:1 0:1 / 1 1 0", []int{1, 0, 0}},
		{"1:3:0:0:0 1:3:0:0:0 1:2:1:0:1 1:2:1:0:1 / 0:1 0:1 / 1 1 0", []int{2, 2, 0, 0}},
		// Who wakes all has no choice, nor has who is woken, tests or waits, whoever waits there.
		{"1:4:0:0:0 3:2:1:0:1 3:2:1:0:1 / 0:1 0:1 / 1 1 0", []int{1, 0, 0}},
		{"1:2:2:0:1 1:2:1:0:1 1:2:1:0:1 1:2:0:0:0 0:1:0:0:0 / -1:0 -1:0 / 1 1 0", []int{1, 0, 0, 1, 1}},
		{"/ -1:0 -1:0 / 1 1 0", nil},
	} {
		w := worldOf(t, c.world)
		var want []api.Pick
		for thread, n := range c.many {
			for draw := range n {
				want = append(want, run(thread, draw))
			}
			for _, draw := range []int{math.MinInt, -1, n, n + 1, math.MaxInt} {
				wantRefused(t, x, w, run(thread, draw), api.ErrPick)
			}
		}
		wantPicks(t, x, w, want...)
	}
}

// TestErrPick: P15.3: picks that cannot be.
func TestErrPick(t *testing.T) {
	x := systemOf(t, busy)
	w := worldOf(t, "1:2:1:5:1 0:0:0:0:0 1:2:2:0:1 0:7:3:0:0 0:1:4:0:0 / -1:0 -1:0 / 1 1 0")
	for _, kind := range []int{math.MinInt, -1, 3, 4, math.MaxInt} {
		for thread := range 5 {
			wantRefused(t, x, w, api.Pick{Kind: kind, Thread: thread}, api.ErrPick)
		}
	}
	for thread := -2; thread < 8; thread++ {
		for draw := -2; draw < 3; draw++ {
			// Who runs, is woken, done or has faulted is not woken by nobody; who waits has no choice there.
			if thread != 0 || draw != 0 {
				wantRefused(t, x, w, api.Pick{Kind: api.PkSpur, Thread: thread, Draw: draw}, api.ErrPick)
				wantRefused(t, x, w, api.Pick{Kind: api.PkTick, Thread: thread, Draw: draw}, api.ErrPick)
			}
		}
	}
	for _, n := range []int{math.MinInt, math.MaxInt} {
		wantRefused(t, x, w, spur(n), api.ErrPick)
		wantRefused(t, x, w, api.Pick{Kind: api.PkSpur, Draw: n}, api.ErrPick)
		wantRefused(t, x, w, api.Pick{Kind: api.PkTick, Thread: n}, api.ErrPick)
		wantRefused(t, x, w, api.Pick{Kind: api.PkTick, Draw: n}, api.ErrPick)
	}
}

// TestErrArg: worlds that Check refuses have nothing, ahead of what the pick is.
func TestErrArg(t *testing.T) {
	x := systemOf(t, busy)
	for _, s := range []string{
		"0:0:0:0:0 / -1:0 / 1 1 0", "0:0:0:0:0 / -1:0 -1:0 -1:0 / 1 1 0", "0:0:0:0:0 / -1:0 -1:0 / 1 1", "0:0:0:0:0 / -1:0 -1:0 / 1 4 0", "0:0:0:0:0 / / 1 1 0", "/ /",
		"4:0:0:0:0 / -1:0 -1:0 / 1 1 0", "-1:0:0:0:0 / -1:0 -1:0 / 1 1 0", "0:8:0:0:0 / -1:0 -1:0 / 1 1 0", "0:-1:0:0:0 / -1:0 -1:0 / 1 1 0", "0:0:5:0:0 / -1:0 -1:0 / 1 1 0", "0:7:0:0:0 / -1:0 -1:0 / 1 1 0",
		"0:0:0:0:0 0:0:1:0:1 / -1:0 -1:0 / 1 1 0", "0:0:0:0:0 1:2:1:-1:1 / -1:0 -1:0 / 1 1 0", "0:0:0:0:0 1:2:2:0:0 / -1:0 -1:0 / 1 1 0", "0:0:0:0:0 / 1:1 -1:0 / 1 1 0", "0:0:0:0:0 / -1:0 0:0 / 1 1 0", "0:0:0:0:0 0:7:3:0:0 / -1:0 1:1 / 1 1 0",
		strings.Repeat("0:0:0:0:0 1:2:1:5:1 ", 20) + "0:0:0:0:0 / -1:0 -1:0 / 1 1 0",
	} {
		w := worldOf(t, s)
		if world.Check(x, w) != api.ErrArg {
			t.Fatal(s)
		}
		wantPicks(t, x, w)
		for mon := -1; mon < 3; mon++ {
			if l := step.Waiters(x, w, mon); len(l) > 0 {
				t.Errorf("%s: %d wait at %d", s, l, mon)
			}
		}
		for _, p := range []api.Pick{run(0, 0), run(1, 0), run(0, -1), run(99, 0), spur(0), spur(1), tick(), {Kind: 9}, {Kind: api.PkTick, Draw: 1}} {
			wantRefused(t, x, w, p, api.ErrArg)
		}
	}
}

// TestMany: MaxThreads threads are not too many.
func TestMany(t *testing.T) {
	x := systemOf(t, busy)
	s := strings.Repeat("1:2:1:1:1 1:2:1:5:1 ", 19) + "0:0:0:0:0 1:3:0:0:0 / -1:0 39:1 / 1 1 0"
	w := worldOf(t, s)
	var waiting, over []int
	for thread := range 38 {
		waiting = append(waiting, thread)
		if thread%2 == 0 {
			over = append(over, thread)
		}
	}
	if got := step.Waiters(x, w, 0); !slices.Equal(got, waiting) {
		t.Error(got)
	}
	later := strings.NewReplacer("2:1:1:1", "2:2:0:1", "2:1:5:1", "2:1:4:1").Replace(s)
	wantDone(t, x, w, tick(), later, -1, over...)
	w.Locks[0] = api.Lock{Owner: 39, Depth: 1}
	want := []api.Pick{}
	for draw := range 38 {
		want = append(want, run(39, draw))
	}
	wantPicks(t, x, w, want...)
}

// TestEmpty: the system that has nothing has a world in which the clock may tick.
func TestEmpty(t *testing.T) {
	x := systemOf(t, "")
	wantPicks(t, x, api.World{})
	wantDone(t, x, api.World{}, tick(), "/ /", -1)
	wantRefused(t, x, api.World{}, run(0, 0), api.ErrPick)
	wantRefused(t, x, api.World{}, spur(0), api.ErrPick)
	wantRefused(t, x, api.World{Vals: []int64{0}}, tick(), api.ErrArg)
}

// TestApart: what was told once is not changed by what is done with it or told later, whatever the step changes.
func TestApart(t *testing.T) {
	x := systemOf(t, busy)
	const s = "1:2:1:1:1 0:2:0:0:0 1:2:1:0:1 1:3:0:0:0 / 3:1 1:1 / 1 1 0"
	w := worldOf(t, s)
	for _, p := range []api.Pick{tick(), spur(2), run(1, 0), run(3, 0), run(3, 1)} {
		next, took, _ := step.Do(x, w, p)
		text, woken := world.Text(next), slices.Clone(took.Woken)
		again, other, _ := step.Do(x, w, p)
		for i := range again.Threads {
			again.Threads[i].Loc = 70
		}
		again.Locks[0], again.Vals[1] = api.Lock{Owner: 71}, 72
		for i := range other.Woken {
			other.Woken[i] = 73
		}
		_, _, _, _ = append(next.Threads, api.Thread{Loc: 74}), append(next.Locks, api.Lock{}), append(next.Vals, 75), append(took.Woken, 76)
		if world.Text(w) != s || world.Text(next) != text || !slices.Equal(took.Woken, woken) {
			t.Errorf("%+v: %s, %s, %+v", p, world.Text(w), world.Text(next), took)
		}
	}
	picks, waiting := step.Picks(x, w), step.Waiters(x, w, 0)
	step.Picks(x, w)[0], step.Waiters(x, w, 0)[0] = api.Pick{Kind: 77}, 78
	if !slices.Equal(picks, step.Picks(x, w)) || !slices.Equal(waiting, []int{0, 2}) {
		t.Error(picks, waiting)
	}
	if again := systemOf(t, busy); world.Text(firstOf(t, x, 1, 1)) != world.Text(firstOf(t, again, 1, 1)) {
		t.Error("the system is changed")
	}
}
