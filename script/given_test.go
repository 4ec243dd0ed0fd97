package script_test

import (
	"math/rand/v2"
	"reflect"
	"slices"
	"strings"
	"testing"

	"vigil/api"
	"vigil/parse"
	"vigil/sample"
	"vigil/script"
	"vigil/world"
)

// What the tests of this package begin with, each made anew.

// drawn makes programs and worlds by a rule that is the same each time.
func drawn(seed, kind uint64) sample.Draw { return rand.New(rand.NewPCG(seed, kind)).IntN }

// systemOf is a text's system.
func systemOf(t testing.TB, s string) api.System {
	t.Helper()
	p, err, at := parse.Parse(s)
	if err != api.OK {
		t.Fatalf("%.300q: error %d at %d", s, err, at)
	}
	x, err, at := world.Make(p)
	if err != api.OK {
		t.Fatalf("%.300q: error %d at %d", s, err, at)
	}
	return x
}

// firstOf is the world in which a system begins.
func firstOf(t testing.TB, x api.System, counts ...int) api.World {
	t.Helper()
	w, err := world.First(x, counts...)
	if err != api.OK {
		t.Fatalf("%d: error %d", counts, err)
	}
	return w
}

// worldOf is a world from its text.
func worldOf(t testing.TB, s string) api.World {
	t.Helper()
	w, ok := world.Parse(s)
	if !ok {
		t.Fatalf("%q is no world", s)
	}
	return w
}

// run, spur and tick are picks.
func run(thread, draw int) api.Pick { return api.Pick{Kind: api.PkRun, Thread: thread, Draw: draw} }
func spur(thread int) api.Pick      { return api.Pick{Kind: api.PkSpur, Thread: thread} }
func tick() api.Pick                { return api.Pick{Kind: api.PkTick} }

// picksOf are the picks of a text that was written by hand.
func picksOf(t testing.TB, s string) []api.Pick {
	t.Helper()
	l, err := script.Parse(s)
	if err != api.OK {
		t.Fatalf("%q: error %d", s, err)
	}
	return l
}

// copied is a world with lists of its own.
func copied(w api.World) api.World {
	return api.World{Threads: slices.Clone(w.Threads), Locks: slices.Clone(w.Locks), Vals: slices.Clone(w.Vals)}
}

// roomy is a world whose lists have room behind them, in which something stands.
func roomy(w api.World) api.World {
	return api.World{Threads: roomyList(w.Threads, api.Thread{Role: 90, Loc: 91, State: 92, Left: 93, Depth: 94}), Locks: roomyList(w.Locks, api.Lock{Owner: 96, Depth: 97}), Vals: roomyList(w.Vals, 99)}
}

// roomyList is a list with room for two behind it.
func roomyList[T any](l []T, behind T) []T {
	l = append(slices.Clone(l), behind, behind)
	return l[: len(l)-2 : len(l)]
}

// whole is a world with all that stands in the room behind its lists.
func whole(w api.World) api.World {
	return api.World{Threads: w.Threads[:cap(w.Threads)], Locks: w.Locks[:cap(w.Locks)], Vals: w.Vals[:cap(w.Vals)]}
}

// spoil writes over all that a world has.
func spoil(w api.World) {
	for i := range w.Threads {
		w.Threads[i] = api.Thread{Role: 80, Loc: 81}
	}
	for i := range w.Locks {
		w.Locks[i] = api.Lock{Owner: 82}
	}
	for i := range w.Vals {
		w.Vals[i] = 83
	}
}

// ran is what Run tells, where it must leave what it is handed as it is, and share nothing with it.
func ran(t testing.TB, x api.System, w api.World, l ...api.Pick) (api.World, int) {
	t.Helper()
	w, l = roomy(w), roomyList(l, api.Pick{Kind: 70})
	before, picks := copied(whole(w)), slices.Clone(l[:cap(l)])
	next, n := script.Run(x, w, l...)
	told := copied(next)
	if spoil(next); !reflect.DeepEqual(whole(w), before) || !slices.Equal(l[:cap(l)], picks) {
		t.Errorf("%+v: %+v, before %+v", l, whole(w), before)
	}
	return told, n
}

// rounds is what Rounds tells, where it must leave what it is handed as it is, and share nothing with it.
func rounds(t testing.TB, x api.System, w api.World, n int) (api.World, []api.Pick) {
	t.Helper()
	w = roomy(w)
	before := copied(whole(w))
	next, l := script.Rounds(x, w, n)
	told := copied(next)
	if spoil(next); !reflect.DeepEqual(whole(w), before) {
		t.Errorf("%d: %+v, before %+v", n, whole(w), before)
	}
	return told, l
}

// wantRan holds Run against the text of the world in the end, and how many picks are done.
func wantRan(t testing.TB, x api.System, w api.World, picks, want string, done int) {
	t.Helper()
	got, n := ran(t, x, w, picksOf(t, picks)...)
	if world.Text(got) != want || n != done {
		t.Errorf("%s, %s: %s, %d, want %s, %d", world.Text(w), picks, world.Text(got), n, want, done)
	}
}

// wantRounds holds Rounds against the text of the world in the end, and the text of the picks that are done.
func wantRounds(t testing.TB, x api.System, w api.World, n int, want, done string) {
	t.Helper()
	got, l := rounds(t, x, w, n)
	if world.Text(got) != want || !slices.Equal(l, picksOf(t, done)) {
		t.Errorf("%s, %d rounds: %s, %v, want %s, %s", world.Text(w), n, world.Text(got), l, want, done)
	}
}

// wantPut holds Put of some picks against their text, and Parse of that against the picks.
func wantPut(t testing.TB, want string, l ...api.Pick) {
	t.Helper()
	if got, err := script.Put(l); got != want || err != api.OK {
		t.Errorf("%+v: %q, error %d, want %q", l, got, err, want)
	}
	if got, err := script.Parse(want); !slices.Equal(got, l) || err != api.OK {
		t.Errorf("%q: %+v, error %d, want %+v", want, got, err, l)
	}
}

// wantUnput holds Put of some picks against an error, beside which there is nothing.
func wantUnput(t testing.TB, want api.Errno, l ...api.Pick) {
	t.Helper()
	if got, err := script.Put(l); got != "" || err != want {
		t.Errorf("%.300v: %.300q, error %d, want %d", l, got, err, want)
	}
}

// wantNone holds Parse of a text that has no picks against ErrArg, beside which there is nothing.
func wantNone(t testing.TB, s string) {
	t.Helper()
	if got, err := script.Parse(s); len(got) > 0 || err != api.ErrArg {
		t.Errorf("%.300q: %.300v, error %d", s, got, err)
	}
}

// words is a text of so many words.
func words(word string, n int) string {
	return strings.TrimSuffix(strings.Repeat(word+" ", n), " ")
}
