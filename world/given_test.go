package world_test

import (
	"fmt"
	"math"
	"reflect"
	"slices"
	"strings"
	"testing"

	"vigil/api"
	"vigil/parse"
	"vigil/world"
)

// What the tests of this package begin with, each made anew.

const (
	least = math.MinInt64
	most  = math.MaxInt64
)

// busy has flows of every kind: p.1 and p.2 (0, 1) with places 0 to 5, of which a wait leads from 2, and nothing from 5; the star q (2), where picks lead from 0, a wait with a number from 2, nothing from 7; e (3), where nothing leads from 0; the star l (4), a loop behind which nothing leads from 2. Its variables may be 0 or 1, -2 to 3, anything.
const busy = `monitor a { var b : bool = true; var r : -2..3 = 1; }
monitor c { var n : int = -7; }
thread p 2 { sync a { while a.b { wait a; } } }
thread q * { choose { sync c { wait c 9; } } or { skip; } }
thread e 1 { }
thread l * { loop { skip; } }
`

func parsed(t testing.TB, s string) api.Program {
	t.Helper()
	p, err, at := parse.Parse(s)
	if err != api.OK {
		t.Fatalf("%.300q: error %d at %d", s, err, at)
	}
	return p
}

// systemOf is a text's system.
func systemOf(t testing.TB, s string) api.System {
	t.Helper()
	x, err, at := world.Make(parsed(t, s))
	if err != api.OK || at != 0 {
		t.Fatalf("%.300q: error %d at %d", s, err, at)
	}
	return x
}

// firstOf is the world in which a system begins.
func firstOf(t testing.TB, x api.System, counts ...int) api.World {
	t.Helper()
	w, err := world.First(x, counts...)
	if err != api.OK {
		t.Fatalf("%d: error %d", counts, err)
	}
	return w
}

// copied is a world with lists of its own.
func copied(w api.World) api.World {
	return api.World{Threads: slices.Clone(w.Threads), Locks: slices.Clone(w.Locks), Vals: slices.Clone(w.Vals)}
}

// roomy is a world whose lists have room behind them, in which something stands.
func roomy(w api.World) api.World {
	w = api.World{
		Threads: append(slices.Clone(w.Threads), api.Thread{Role: 90, Loc: 91, State: 92, Left: 93, Depth: 94}, api.Thread{Loc: -95}),
		Locks:   append(slices.Clone(w.Locks), api.Lock{Owner: 96, Depth: 97}, api.Lock{Owner: -98}),
		Vals:    append(slices.Clone(w.Vals), 99, -100),
	}
	return api.World{Threads: w.Threads[:len(w.Threads)-2], Locks: w.Locks[:len(w.Locks)-2], Vals: w.Vals[:len(w.Vals)-2]}
}

// whole is a world with all that stands in the room behind its lists.
func whole(w api.World) api.World {
	return api.World{Threads: w.Threads[:cap(w.Threads)], Locks: w.Locks[:cap(w.Locks)], Vals: w.Vals[:cap(w.Vals)]}
}

// wantChecked holds Check of a world against what it must tell, and sees to it that the world stays as it is.
func wantChecked(t testing.TB, what string, x api.System, w api.World, want api.Errno) {
	t.Helper()
	w = roomy(w)
	before := copied(whole(w))
	if got := world.Check(x, w); got != want {
		t.Errorf("%s: %+v: error %d, want %d", what, w, got, want)
	}
	if !reflect.DeepEqual(whole(w), before) {
		t.Errorf("%s: %+v, before %+v", what, whole(w), before)
	}
}

// written is what Text must tell: each list as a text of its own.
func written(w api.World) string {
	var lists [3][]string
	for _, t := range w.Threads {
		lists[0] = append(lists[0], fmt.Sprintf("%d:%d:%d:%d:%d", t.Role, t.Loc, t.State, t.Left, t.Depth))
	}
	for _, l := range w.Locks {
		lists[1] = append(lists[1], fmt.Sprintf("%d:%d", l.Owner, l.Depth))
	}
	for _, n := range w.Vals {
		lists[2] = append(lists[2], fmt.Sprint(n))
	}
	return strings.Join(slices.Concat(lists[0], []string{"/"}, lists[1], []string{"/"}, lists[2]), " ")
}

// alike tells whether two worlds are the same, field by field, whatever there is between none and an empty list.
func alike(a, b api.World) bool {
	return len(a.Threads) == len(b.Threads) && len(a.Locks) == len(b.Locks) && len(a.Vals) == len(b.Vals) && fmt.Sprint(a) == fmt.Sprint(b)
}
