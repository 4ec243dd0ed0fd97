package held_test

import (
	"fmt"
	"math/rand/v2"
	"slices"
	"strings"
	"testing"

	"vigil/api"
	"vigil/flow"
	"vigil/held"
)

// TestHeldExample: example 1 of the chapter, and the numbers of its places.
func TestHeldExample(t *testing.T) {
	p := parsed(t, "monitor a { } monitor b { } thread p 1 { sync a { sync b { } } } thread q * { sync b { sync a { } } }")
	l, err, at := flow.Flows(p)
	if err != api.OK || len(l) != 2 {
		t.Fatal(err, at, len(l))
	}
	wantHeld(t, "p", l[0], 2, "0.0 1.0 1.1 1.0 0.0")
	wantHeld(t, "q", l[1], 2, "0.0 0.1 1.1 0.1 0.0")
	inner, outer := held.Nests(l[0], 2), held.Nests(l[1], 2)
	if nestsText(inner) != "ab" || nestsText(outer) != "ba" {
		t.Error(inner, outer)
	}
	if held.Round(inner...) || held.Round(outer...) || !held.Round(inner[0], outer[0]) || !held.Round(outer[0], inner[0]) {
		t.Error("what goes round here is a, b, a alone")
	}
}

// TestHeldNumbers: P13.1: an EdEnter owns its Mon once more, an EdLeave once less, all else leaves it.
func TestHeldNumbers(t *testing.T) {
	for _, x := range []struct {
		locs, mons  int
		edges, want string
	}{
		{1, 0, "", "-"},
		{1, 1, "", "0"},
		{1, 8, "", "0.0.0.0.0.0.0.0"},
		{2, 0, "0>1 skip", "- -"},
		{2, 1, "0>1 enter 0", "0 1"},
		{2, 3, "0>1 enter 1", "0.0.0 0.1.0"},
		{2, 8, "0>1 enter 7", "0.0.0.0.0.0.0.0 0.0.0.0.0.0.0.1"},
		// Again and again, and out again.
		{7, 1, "0>1 enter 0, 1>2 enter 0, 2>3 enter 0, 3>4 leave 0, 4>5 leave 0, 5>6 leave 0", "0 1 2 3 2 1 0"},
		{5, 2, "0>1 enter 0, 1>2 enter 1, 2>3 enter 0, 3>4 enter 1", "0.0 1.0 1.1 2.1 2.2"},
		// The one that was entered first is left first.
		{5, 2, "0>1 enter 0, 1>2 enter 1, 2>3 leave 0, 3>4 leave 1", "0.0 1.0 1.1 0.1 0.0"},
		// Ways that lead to the same place, with the same numbers.
		{4, 2, "0>1 enter 0, 0>2 enter 1, 1>3 enter 1, 2>3 enter 0", "0.0 1.0 0.1 1.1"},
		{3, 2, "0>1 enter 1, 0>1 enter 1, 1>2 skip, 1>2 test, 1>2 pick", "0.0 0.1 0.1"},
		{3, 1, "0>1 enter 0, 1>2 leave 0, 2>0 skip", "0 1 0"},
		{3, 1, "0>1 enter 0, 1>2 skip, 2>1 skip, 1>1 wait 0, 1>0 leave 0", "0 1 1"},
		{1, 1, "0>0 skip, 0>0 notify 0", "0"},
		// Edges in another order, and places in another one than ways lead to them.
		{5, 1, "4>2 leave 0, 3>4 enter 0, 1>3 leave 0, 0>1 enter 0", "0 1 0 0 1"},
		// What all else has with it is not asked.
		{8, 2, "0>1 enter 1, 1>2 wait 0, 2>3 notify 1, 3>4 all 0, 4>5 skip -3, 5>6 test 9, 6>7 set 44", "0.0 0.1 0.1 0.1 0.1 0.1 0.1 0.1"},
		{3, 0, "0>1 pick 5, 1>2 set -1", "- - -"},
	} {
		wantHeld(t, x.edges, flowOf(t, x.locs, x.edges), x.mons, x.want)
	}
}

// TestHeldKinds: P13.1: kinds of which there are none leave all as it is, and their Mon is not asked.
func TestHeldKinds(t *testing.T) {
	for _, kind := range freeKinds() {
		for _, mon := range []int{-1 << 63, -1, 0, 1, 2, 8, 1<<63 - 1} {
			f := flowOf(t, 3, "0>1 enter 0, 1>2 skip")
			f.Edges[1].Kind, f.Edges[1].Mon = kind, mon
			wantHeld(t, fmt.Sprint("kind ", kind, " with ", mon), f, 2, "0.0 1.0 1.0")
		}
	}
}

// TestHeldUnreached: P13.1: of a place to which no way from 0 leads there are no numbers, and what leads on from there counts for nothing.
func TestHeldUnreached(t *testing.T) {
	for _, x := range []struct {
		locs, mons  int
		edges, want string
	}{
		{2, 1, "", "0 -"},
		{3, 2, "0>2 enter 1", "0.0 - 0.1"},
		{3, 1, "1>2 enter 0", "0 - -"},
		{3, 1, "1>0 skip, 2>1 leave 0", "0 - -"},
		{3, 1, "1>0 enter 0, 1>2 leave 0, 2>0 leave 0", "0 - -"},
		{3, 1, "1>2 enter 0, 2>1 enter 0, 1>1 leave 0", "0 - -"},
		{4, 2, "0>1 enter 0, 2>1 enter 1, 3>1 leave 1, 3>2 wait 1", "0.0 1.0 - -"},
	} {
		wantHeld(t, x.edges, flowOf(t, x.locs, x.edges), x.mons, x.want)
	}
	// Behind a loop, with an edge there that leaves what would not be owned.
	l, err, _ := flow.Flows(parsed(t, "monitor a { } thread t 1 { loop { skip; } sync a { } }"))
	if err != api.OK {
		t.Fatal(err)
	}
	wantHeld(t, "loop", l[0], 1, "0 0 - - -")
}

// TestHeldFewer: P13.1: false where a monitor would be owned fewer than 0 times on some way, though it were entered again.
func TestHeldFewer(t *testing.T) {
	for _, edges := range []string{
		"0>1 leave 0",
		"0>1 leave 1",
		"0>0 leave 0",
		"0>1 leave 0, 1>2 enter 0",
		"0>1 enter 0, 1>2 leave 1",
		"0>1 enter 1, 1>2 leave 0, 2>3 enter 0, 3>4 leave 1",
		"0>1 enter 0, 1>2 leave 0, 2>3 leave 0",
		"0>1 skip, 0>2 enter 0, 2>3 leave 0, 1>3 skip, 3>4 leave 0",
		"0>1 enter 0, 1>2 leave 0, 1>4 skip, 2>3 leave 0",
	} {
		wantHeld(t, edges, flowOf(t, 5, edges), 2, "no")
		// With all the monitors that there may be, it is as wrong.
		wantHeld(t, edges, flowOf(t, 5, edges), 8, "no")
	}
	for mon := range 8 {
		wantHeld(t, "leave", flowOf(t, 2, fmt.Sprint("0>1 leave ", mon)), 8, "no")
	}
}

// TestHeldUnlike: P13.1: false where a place is reached with unlike numbers, 0 too.
func TestHeldUnlike(t *testing.T) {
	for _, edges := range []string{
		"0>0 enter 0",
		"0>1 enter 0, 0>1 skip",
		"0>1 skip, 0>1 enter 0",
		"0>1 enter 0, 0>1 enter 1",
		"0>1 enter 0, 1>0 skip",
		"0>1 enter 0, 1>1 enter 0",
		"0>1 enter 0, 1>1 leave 0",
		"0>1 enter 0, 1>2 enter 0, 0>2 enter 0",
		"0>1 enter 0, 1>2 enter 0, 2>3 enter 1, 3>1 leave 0",
		"0>1 enter 0, 1>2 leave 0, 0>3 skip, 3>2 enter 1",
		"0>1 enter 0, 0>2 enter 1, 1>3 skip, 2>3 skip",
		"0>1 skip, 1>2 skip, 2>3 skip, 3>4 enter 1, 4>0 skip",
	} {
		wantHeld(t, edges, flowOf(t, 5, edges), 2, "no")
	}
	// Of each monitor alone.
	for mon := range 8 {
		wantHeld(t, "unlike", flowOf(t, 2, fmt.Sprintf("0>1 enter %d, 0>1 skip", mon)), 8, "no")
		wantHeld(t, "round", flowOf(t, 2, fmt.Sprintf("0>1 enter %d, 1>0 wait %d", mon, mon)), 8, "no")
	}
}

// TestHeldLimits: P13.1: 1 to MaxLocs places, 0 to MaxMons monitors.
func TestHeldLimits(t *testing.T) {
	for _, locs := range []int{-1 << 63, -1, 0, 601, 602, 1 << 31, 1<<63 - 1} {
		wantHeld(t, fmt.Sprint(locs, " places"), api.Flow{Locs: locs}, 1, "no")
		wantHeld(t, fmt.Sprint(locs, " places and an edge"), flowOf(t, locs, "0>0 skip"), 1, "no")
	}
	for _, mons := range []int{-1 << 63, -2, -1, 9, 10, 1 << 31, 1<<63 - 1} {
		wantHeld(t, fmt.Sprint(mons, " monitors"), api.Flow{Locs: 1}, mons, "no")
		wantHeld(t, fmt.Sprint(mons, " monitors and an edge"), flowOf(t, 2, "0>1 enter 0"), mons, "no")
	}
	for mons := range 9 {
		if h, ok := held.Held(api.Flow{Locs: 600}, mons); !ok || len(h) != 600 || len(h[0]) != mons || len(h[1]) != 0 || len(h[599]) != 0 {
			t.Errorf("600 places, %d monitors: %v, %d", mons, ok, len(h))
		}
	}
}

// TestHeldOutside: P13.1: false where an edge goes from or to what is no place, wherever it stands, whatever its kind.
func TestHeldOutside(t *testing.T) {
	for _, loc := range []int{-1 << 63, -1, 3, 4, 599, 600, 1<<63 - 1} {
		for _, kind := range append(monitorKinds(), freeKinds()...) {
			for _, e := range []api.Edge{{From: loc, Kind: kind}, {To: loc, Kind: kind}, {From: 2, To: loc, Kind: kind}, {From: loc, To: loc, Kind: kind}} {
				f := flowOf(t, 3, "0>1 enter 0, 1>0 leave 0")
				f.Edges = slices.Insert(f.Edges, 1, e)
				wantHeld(t, fmt.Sprintf("%+v", e), f, 1, "no")
			}
		}
	}
}

// TestHeldMonitors: P13.1: false where an edge at a monitor has none of those, though no way lead there.
func TestHeldMonitors(t *testing.T) {
	for _, kind := range monitorKinds() {
		for mons := range 9 {
			for _, mon := range []int{-1 << 63, -1, mons, mons + 1, 8, 1<<63 - 1} {
				for _, from := range []int{0, 2} {
					f := flowOf(t, 4, "0>1 skip, 1>0 skip")
					f.Edges = append(f.Edges, api.Edge{From: from, To: 3, Kind: kind, Mon: mon})
					wantHeld(t, fmt.Sprintf("kind %d at %d of %d", kind, mon, mons), f, mons, "no")
				}
			}
			for mon := range mons {
				f := flowOf(t, 4, "0>1 skip")
				f.Edges = append(f.Edges, api.Edge{From: 2, To: 3, Kind: kind, Mon: mon})
				if h, ok := held.Held(f, mons); !ok || len(h) != 4 {
					t.Errorf("kind %d at %d of %d: %v", kind, mon, mons, ok)
				}
			}
		}
	}
}

// TestHeldDeep: P13.1: as many places as there may be, a monitor entered at each of them, in an order of edges that is not theirs, and many edges beside one another.
func TestHeldDeep(t *testing.T) {
	f, want := api.Flow{Locs: 600}, []string{"0.0.0.0.0.0.0.0"}
	for loc := range 599 {
		f.Edges = append(f.Edges, api.Edge{From: loc, To: loc + 1, Kind: api.EdEnter, Mon: 7})
		want = append(want, fmt.Sprint("0.0.0.0.0.0.0.", loc+1))
	}
	slices.Reverse(f.Edges)
	for range 100000 {
		f.Edges = append(f.Edges, api.Edge{From: 598, To: 599, Kind: api.EdEnter, Mon: 7})
	}
	wantHeld(t, "600 places", f, 8, strings.Join(want, " "))
	if s := held.Sections(f, 8, 7); len(s) != 599 || s[0] != 1 || s[598] != 599 {
		t.Error(len(s))
	}
	if n := held.Nests(f, 8); n != nil {
		t.Error(n)
	}
	f.Edges = append(f.Edges, api.Edge{From: 599, To: 598, Kind: api.EdEnter, Mon: 7})
	wantHeld(t, "600 places and one more edge", f, 8, "no")
}

// TestHeldDrawn: P13.1, P13.2, P13.4 of flows that were made by numbers that are known; and false, with an edge that does not fit them.
func TestHeldDrawn(t *testing.T) {
	unreached, nests, spoiled := 0, 0, 0
	for seed := range uint64(8000) {
		d := drawn{Rand: rand.New(rand.NewPCG(seed, 13))}
		f := d.flow()
		what := fmt.Sprintf("seed %d: %+v", seed, f)
		wantAll(t, what, f, d.mons, d.numbers)
		unreached += strings.Count(numbersText(d.numbers), "-")
		nests += len(nestsBy(f, d.mons, d.numbers))
		if e, ok := d.unfit(); ok {
			f.Edges = slices.Insert(f.Edges, d.IntN(len(f.Edges)+1), e)
			wantHeld(t, fmt.Sprintf("seed %d with %+v", seed, e), f, d.mons, "no")
			spoiled++
		}
		if t.Failed() {
			break
		}
	}
	if unreached < 5000 || nests < 2000 || spoiled < 4000 {
		t.Error(unreached, nests, spoiled)
	}
}
