package step_test

import (
	"fmt"
	"math/rand/v2"
	"reflect"
	"slices"
	"strings"
	"testing"

	"vigil/api"
	"vigil/parse"
	"vigil/sample"
	"vigil/step"
	"vigil/world"
)

// What the tests of this package begin with, each made anew.

// drawn makes programs and worlds by a rule that is the same each time.
func drawn(seed, kind uint64) sample.Draw { return rand.New(rand.NewPCG(seed, kind)).IntN }

// systemOf is a text's system.
func systemOf(t testing.TB, s string) api.System {
	t.Helper()
	p, err, at := parse.Parse(s)
	if err != api.OK {
		t.Fatalf("%.300q: error %d at %d", s, err, at)
	}
	x, err, at := world.Make(p)
	if err != api.OK {
		t.Fatalf("%.300q: error %d at %d", s, err, at)
	}
	return x
}

// firstOf is the world in which a system begins.
func firstOf(t testing.TB, x api.System, counts ...int) api.World {
	t.Helper()
	w, err := world.First(x, counts...)
	if err != api.OK {
		t.Fatalf("%d: error %d", counts, err)
	}
	return w
}

// worldOf is a world from its text, where T is MaxTime.
func worldOf(t testing.TB, s string) api.World {
	t.Helper()
	w, ok := world.Parse(strings.ReplaceAll(s, "T", fmt.Sprint(api.MaxTime)))
	if !ok {
		t.Fatalf("%q is no world", s)
	}
	return w
}

// run, spur and tick are picks.
func run(thread, draw int) api.Pick { return api.Pick{Kind: api.PkRun, Thread: thread, Draw: draw} }
func spur(thread int) api.Pick      { return api.Pick{Kind: api.PkSpur, Thread: thread} }
func tick() api.Pick                { return api.Pick{Kind: api.PkTick} }

// copied is a world with lists of its own.
func copied(w api.World) api.World {
	return api.World{Threads: slices.Clone(w.Threads), Locks: slices.Clone(w.Locks), Vals: slices.Clone(w.Vals)}
}

// roomy is a world whose lists have room behind them, in which something stands.
func roomy(w api.World) api.World {
	w = api.World{
		Threads: append(slices.Clone(w.Threads), api.Thread{Role: 90, Loc: 91, State: 92, Left: 93, Depth: 94}, api.Thread{Loc: -95}),
		Locks:   append(slices.Clone(w.Locks), api.Lock{Owner: 96, Depth: 97}, api.Lock{Owner: -98}),
		Vals:    append(slices.Clone(w.Vals), 99, -100),
	}
	return api.World{Threads: w.Threads[:len(w.Threads)-2], Locks: w.Locks[:len(w.Locks)-2], Vals: w.Vals[:len(w.Vals)-2]}
}

// whole is a world with all that stands in the room behind its lists.
func whole(w api.World) api.World {
	return api.World{Threads: w.Threads[:cap(w.Threads)], Locks: w.Locks[:cap(w.Locks)], Vals: w.Vals[:cap(w.Vals)]}
}

// done is what Do tells of a pick, where it must leave the world that it is handed as it is.
func done(t testing.TB, x api.System, w api.World, p api.Pick) (api.World, api.Took, api.Errno) {
	t.Helper()
	w = roomy(w)
	before := copied(whole(w))
	next, took, err := step.Do(x, w, p)
	if !reflect.DeepEqual(whole(w), before) {
		t.Errorf("%+v: %+v, before %+v", p, whole(w), before)
	}
	return next, took, err
}

// wantDone holds Do against the text of the world that must come of it, the edge, and who is woken.
func wantDone(t testing.TB, x api.System, w api.World, p api.Pick, want string, edge int, woken ...int) {
	t.Helper()
	next, took, err := done(t, x, w, p)
	want = world.Text(worldOf(t, want))
	if got := world.Text(next); err != api.OK || got != want || took.Edge != edge || !slices.Equal(took.Woken, woken) {
		t.Errorf("%s, %+v: error %d, %s, %+v, want %s, %d, %d", world.Text(w), p, err, got, took, want, edge, woken)
	}
}

// wantRefused holds Do against an error, beside which there is nothing.
func wantRefused(t testing.TB, x api.System, w api.World, p api.Pick, want api.Errno) {
	t.Helper()
	if next, took, err := done(t, x, w, p); err != want || !reflect.DeepEqual(next, api.World{}) || !reflect.DeepEqual(took, api.Took{}) {
		t.Errorf("%s, %+v: error %d, %+v, %+v, want %d", world.Text(w), p, err, next, took, want)
	}
}

// wantPicks holds Picks against a list, and Can against the threads that stand in it.
func wantPicks(t testing.TB, x api.System, w api.World, want ...api.Pick) {
	t.Helper()
	if got := step.Picks(x, w); !slices.Equal(got, want) {
		t.Errorf("%s: picks %+v, want %+v", world.Text(w), got, want)
	}
	for thread := -2; thread < len(w.Threads)+2; thread++ {
		can := slices.ContainsFunc(want, func(p api.Pick) bool { return p.Thread == thread })
		if step.Can(x, w, thread) != can {
			t.Errorf("%s: thread %d can: %v", world.Text(w), thread, !can)
		}
	}
}
