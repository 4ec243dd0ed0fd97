package held_test

import (
	"math/rand/v2"
	"reflect"
	"slices"
	"testing"

	"vigil/api"
	"vigil/held"
)

// roomy is a flow whose lists have room behind them, in which something stands.
func roomy(f api.Flow) api.Flow {
	edges := append(slices.Clone(f.Edges), api.Edge{From: 1, To: 2, Kind: api.EdLeave, Mon: 3, At: 4}, api.Edge{From: -5})
	guards := append(slices.Clone(f.Guards), api.Guard{Mon: 6}, api.Guard{Mon: -7})
	f.Edges, f.Guards = edges[:len(f.Edges)], guards[:len(f.Guards)]
	return f
}

// whole is a flow with all that stands in the room behind its lists.
func whole(f api.Flow) api.Flow {
	f.Edges, f.Guards = f.Edges[:cap(f.Edges)], f.Guards[:cap(f.Guards)]
	return f
}

// TestSame: what is told hangs on the arguments alone, which stay as they are, their spare room too; the flow's name, its guards and what else its edges have are not asked.
func TestSame(t *testing.T) {
	for seed := range uint64(2000) {
		d := drawn{Rand: rand.New(rand.NewPCG(seed, 99))}
		f := d.flow()
		h, _ := held.Held(f, d.mons)
		nests := held.Nests(f, d.mons)
		other := roomy(f)
		other.Name, other.Star, other.Guards = "other", !f.Star, []api.Guard{{Mon: 55}, {Loop: true}}
		for i := range other.Edges {
			e := &other.Edges[i]
			e.Var, e.N, e.Site, e.Out, e.At, e.E = i, int64(i), 77, -i, 9, api.Expr{Op: api.OpVar}
		}
		before := whole(roomy(other))
		other = roomy(other)
		for range 3 {
			again, ok := held.Held(other, d.mons)
			if !ok || !reflect.DeepEqual(again, h) || !slices.Equal(held.Nests(other, d.mons), nests) {
				t.Fatalf("seed %d: %v, want %v", seed, again, h)
			}
			held.Sections(other, d.mons, 0)
		}
		if !reflect.DeepEqual(whole(other), before) {
			t.Fatalf("seed %d: %+v, want %+v", seed, whole(other), before)
		}
	}
}

// TestApart: no two lists of what is told share anything, and what was told is not changed later.
func TestApart(t *testing.T) {
	f := flowOf(t, 4, "0>1 enter 0, 1>2 enter 1, 2>3 skip")
	h, _ := held.Held(f, 2)
	nests, sections := held.Nests(f, 2), held.Sections(f, 2, 0)
	h[3][0] = 40
	for i := range h {
		_ = append(h[i], 50, 51)
		_ = append(h[i][:1], 60+i)
	}
	if got := numbersText(h); got != "0.60 1.61 1.62 40.63" {
		t.Error(got)
	}
	nests[0], sections[0] = api.Nest{Outer: 70, Inner: 71}, 72
	wantHeld(t, "again", f, 2, "0.0 1.0 1.1 1.1")
	if got := nestsText(held.Nests(f, 2)); got != "ab" {
		t.Error(got)
	}
	if got := held.Sections(f, 2, 0); !slices.Equal(got, []int{1, 2, 3}) {
		t.Error(got)
	}
	if numbersText(h) != "0.60 1.61 1.62 40.63" || nests[0].Outer != 70 || sections[0] != 72 {
		t.Error(h, nests, sections)
	}
}

// TestRoundSame: Round leaves its nests as they are, with what stands behind them, and tells the same each time, in whatever order they come.
func TestRoundSame(t *testing.T) {
	for seed := range uint64(500) {
		r := rand.New(rand.NewPCG(seed, 7))
		var l []api.Nest
		for range 3 + r.IntN(12) {
			l = append(l, api.Nest{Outer: r.IntN(10), Inner: r.IntN(10)})
		}
		before, n := slices.Clone(l), r.IntN(len(l))
		want := goesRound(10, l[:n])
		for range 3 {
			if held.Round(l[:n]...) != want || !slices.Equal(l, before) {
				t.Fatalf("%v of %v, before %v", l[:n], l, before)
			}
		}
		r.Shuffle(n, reflect.Swapper(l))
		if held.Round(l[:n]...) != want {
			t.Fatalf("%v: %v", l[:n], !want)
		}
	}
}
