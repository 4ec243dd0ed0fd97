package script_test

import (
	"fmt"
	"slices"
	"testing"

	"vigil/api"
	"vigil/sample"
	"vigil/script"
	"vigil/step"
	"vigil/world"
)

// tries are picks of which some can be done in w, some cannot, and some never can.
func tries(d sample.Draw, x api.System, w api.World) []api.Pick {
	var l []api.Pick
	for range d(60) {
		l = append(l, sample.One(d, run(d(len(w.Threads)+1), 0), run(d(len(w.Threads)+1), 0), run(d(len(w.Threads)+1), d(3)), spur(d(len(w.Threads)+1)), tick(), api.Pick{Kind: d(5) - 1, Thread: d(2), Draw: d(2)}))
	}
	return l
}

// TestRuns: P16.3, P16.4: Run is held against step.Do, pick by pick, and against itself, list by list.
func TestRuns(t *testing.T) {
	passed, done := 0, 0
	for seed := range uint64(1500) {
		d := drawn(seed, 163)
		x, text := d.System()
		w := d.First(x)
		l := tries(d, x, w)
		want, many := w, 0
		for _, p := range l {
			if next, _, err := step.Do(x, want, p); err == api.OK {
				want, many = next, many+1
			}
		}
		got, n := ran(t, x, w, l...)
		if !world.Same(got, want) || n != many {
			t.Fatalf("seed %d: %s: %+v: %s, %d, want %s, %d", seed, text, l, world.Text(got), n, world.Text(want), many)
		}
		cut := d(len(l) + 1)
		between, first := ran(t, x, w, l[:cut]...)
		got, second := ran(t, x, between, l[cut:]...)
		if !world.Same(got, want) || first+second != many {
			t.Fatalf("seed %d: %s: %+v, cut at %d: %s, %d and %d", seed, text, l, cut, world.Text(got), first, second)
		}
		done, passed = done+many, passed+len(l)-many
	}
	if done < 5000 || passed < 5000 {
		t.Error(done, passed)
	}
}

// TestTurns: P16.3: Rounds is held against step.Do, round by round; its picks may all be done again, as texts too.
func TestTurns(t *testing.T) {
	left, ended := 0, 0
	for seed := range uint64(1500) {
		d := drawn(seed, 164)
		x, text := d.System()
		w, _ := ran(t, x, d.First(x), tries(d, x, d.First(x))...)
		what, n := fmt.Sprint("seed ", seed, ": ", text), d(40)
		want := w
		var l []api.Pick
		for range n {
			for thread := range w.Threads {
				next, _, err := step.Do(x, want, run(thread, 0))
				if err != api.OK {
					left++
					continue
				}
				want, l = next, append(l, run(thread, 0))
			}
			next, _, err := step.Do(x, want, tick())
			if err != api.OK {
				t.Fatal(what)
			}
			want, l = next, append(l, tick())
		}
		got, did := rounds(t, x, w, n)
		if !world.Same(got, want) || !slices.Equal(did, l) {
			t.Fatalf("%s: %s, %d rounds: %s, %v, want %s, %v", what, world.Text(w), n, world.Text(got), did, world.Text(want), l)
		}
		s, err := script.Put(did)
		again, _ := script.Parse(s)
		if end, many := ran(t, x, w, again...); err != api.OK || many != len(did) || !world.Same(end, want) {
			t.Fatalf("%s: error %d, %s, %d picks of %d", what, err, world.Text(end), many, len(did))
		}
		if !slices.ContainsFunc(got.Threads, func(t api.Thread) bool { return t.State < api.ThDone }) {
			ended++
		}
	}
	if left < 10000 || ended < 100 {
		t.Error(left, ended)
	}
}
