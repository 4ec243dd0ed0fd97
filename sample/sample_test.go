package sample_test

import (
	"math/rand/v2"
	"slices"
	"testing"

	"vigil/api"
	"vigil/parse"
	"vigil/sample"
	"vigil/world"
)

// TestPrograms: what is written is right, or too big; each is one of its own; the same numbers make the same one.
func TestPrograms(t *testing.T) {
	texts := map[string]bool{}
	for seed := range uint64(1000) {
		text := sample.Draw(rand.New(rand.NewPCG(seed, 1)).IntN).Program()
		if sample.Draw(rand.New(rand.NewPCG(seed, 1)).IntN).Program() != text {
			t.Fatal(text)
		}
		p, err, at := parse.Parse(text)
		if err != api.OK {
			t.Fatalf("%s: error %d at %d", text, err, at)
		}
		if _, err, at = world.Make(p); err != api.OK && err != api.ErrBig && err != api.ErrWide {
			t.Fatalf("%s: error %d at %d", text, err, at)
		}
		texts[text] = true
	}
	if len(texts) < 950 {
		t.Error(len(texts))
	}
}

// TestWorlds: each is one that may be; there are threads in all states, and locks of somebody and of nobody.
func TestWorlds(t *testing.T) {
	states, owned := [5]int{}, [2]int{}
	for seed := range uint64(1000) {
		d := sample.Draw(rand.New(rand.NewPCG(seed, 2)).IntN)
		s, text := d.System()
		w, begin := d.World(s), d.First(s)
		if world.Check(s, w) != api.OK || world.Check(s, begin) != api.OK {
			t.Fatalf("%s: %+v, %+v", text, w, begin)
		}
		if slices.ContainsFunc(begin.Threads, func(t api.Thread) bool { return t.Loc != 0 }) || len(begin.Locks) != len(s.P.Mons) {
			t.Fatalf("%s: %+v", text, begin)
		}
		for _, l := range w.Locks {
			owned[min(1, l.Owner+1)]++
		}
		for _, one := range w.Threads {
			states[one.State]++
		}
	}
	if slices.Min(states[:]) < 100 || slices.Min(owned[:]) < 100 {
		t.Error(states, owned)
	}
}
