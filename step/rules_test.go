package step_test

import (
	"fmt"
	"slices"
	"testing"

	"vigil/api"
	"vigil/step"
	"vigil/value"
	"vigil/world"
)

// result is what must come of a pick.
type result struct {
	text string
	took api.Took
}

// rules tells all that can be done in a world, another way than the package: each thing that can be is done in a world of its own, and written down as a text.
type rules struct {
	x   api.System
	w   api.World
	all map[api.Pick]result
}

func rulesOf(x api.System, w api.World) map[api.Pick]result {
	r := rules{x, w, map[api.Pick]result{}}
	for t, thread := range w.Threads {
		switch thread.State {
		case api.ThRun:
			r.runs(t)
		case api.ThWait:
			r.add(spur(t), -1, func(w *api.World) []int { return wakes(w, t) })
		case api.ThWoken:
			e := r.leads(t)[0]
			if w.Locks[e.Mon].Depth == 0 {
				r.add(run(t, 0), r.place(t, e), func(w *api.World) []int {
					w.Locks[e.Mon] = api.Lock{Owner: t, Depth: thread.Depth}
					w.Threads[t] = api.Thread{Role: thread.Role, Loc: e.To, State: r.stateAt(t, e.To)}
					return nil
				})
			}
		}
	}
	r.add(tick(), -1, func(w *api.World) []int {
		var over []int
		for t, thread := range w.Threads {
			if thread.State == api.ThWait && thread.Left == 1 {
				over = append(over, wakes(w, t)...)
			} else if thread.Left > 1 {
				w.Threads[t].Left = thread.Left - 1
			}
		}
		return over
	})
	return r.all
}

// wakes wakes one thread.
func wakes(w *api.World, t int) []int {
	old := w.Threads[t]
	w.Threads[t] = api.Thread{Role: old.Role, Loc: old.Loc, State: api.ThWoken, Depth: old.Depth}
	return []int{t}
}

// add has a pick done in a copy of the world.
func (r *rules) add(p api.Pick, edge int, does func(w *api.World) []int) {
	next := copied(r.w)
	woken := does(&next)
	r.all[p] = result{world.Text(next), api.Took{Edge: edge, Woken: woken}}
}

// leads are a thread's edges.
func (r *rules) leads(t int) []api.Edge {
	var all []api.Edge
	for _, e := range r.x.Flows[r.w.Threads[t].Role].Edges {
		if e.From == r.w.Threads[t].Loc {
			all = append(all, e)
		}
	}
	return all
}

// place finds an edge of a thread by where it leads, as no two of these lead to the same place.
func (r *rules) place(t int, e api.Edge) int {
	return slices.IndexFunc(r.x.Flows[r.w.Threads[t].Role].Edges, func(other api.Edge) bool {
		return other.From == e.From && other.To == e.To
	})
}

// stateAt is the state of a thread that runs, when it has come to a place.
func (r *rules) stateAt(t, loc int) int {
	if slices.ContainsFunc(r.x.Flows[r.w.Threads[t].Role].Edges, func(e api.Edge) bool { return e.From == loc }) {
		return api.ThRun
	}
	return api.ThDone
}

// waiting are the threads that wait at a monitor.
func (r *rules) waiting(mon int) []int {
	var all []int
	for t, thread := range r.w.Threads {
		if thread.State == api.ThWait && r.leads(t)[0].Mon == mon {
			all = append(all, t)
		}
	}
	return all
}

// goes lets a thread go to the place behind an edge, and does what comes with it.
func (r *rules) goes(t, draw int, e api.Edge, does func(w *api.World) []int) {
	r.add(run(t, draw), r.place(t, e), func(w *api.World) []int {
		w.Threads[t].Loc, w.Threads[t].State = e.To, r.stateAt(t, e.To)
		return does(w)
	})
}

// faults lets a thread fault.
func (r *rules) faults(t, draw int, e api.Edge) {
	r.add(run(t, draw), r.place(t, e), func(w *api.World) []int {
		w.Threads[t].State = api.ThFault
		for mon, l := range w.Locks {
			if l.Owner == t {
				w.Locks[mon] = api.Lock{Owner: -1}
			}
		}
		return nil
	})
}

// owns changes how often a thread owns a monitor.
func owns(w *api.World, t, mon, more int) {
	depth := max(w.Locks[mon].Depth, 0) + more
	w.Locks[mon] = api.Lock{Owner: t, Depth: depth}
	if depth == 0 {
		w.Locks[mon].Owner = -1
	}
}

func (r *rules) runs(t int) {
	nothing := func(*api.World) []int { return nil }
	edges := r.leads(t)
	e := edges[0]
	mine := len(r.w.Locks) > e.Mon && r.w.Locks[e.Mon].Owner == t
	switch e.Kind {
	case api.EdSkip:
		r.goes(t, 0, e, nothing)
	case api.EdPick:
		for draw, e := range edges {
			r.goes(t, draw, e, nothing)
		}
	case api.EdTest:
		is, err := value.Eval(r.x.P, e.E, r.w.Vals)
		if err == api.ErrFault {
			r.faults(t, 0, e)
		} else {
			r.goes(t, 0, edges[1-is], nothing)
		}
	case api.EdSet:
		r.sets(t, e)
	case api.EdEnter:
		if mine || r.w.Locks[e.Mon].Owner < 0 {
			r.goes(t, 0, e, func(w *api.World) []int { owns(w, t, e.Mon, 1); return nil })
		}
	case api.EdNotify:
		r.notifies(t, e, mine)
	default:
		if mine {
			r.asMine(t, e)
		} else {
			r.faults(t, 0, e)
		}
	}
}

func (r *rules) sets(t int, e api.Edge) {
	slot := e.Var
	for _, m := range r.x.P.Mons {
		for _, v := range m.Vars {
			if slot == 0 {
				n, err := value.Eval(r.x.P, e.E, r.w.Vals)
				vals, setErr := value.Set(r.x.P, m.Name, v.Name, n, r.w.Vals)
				if err != api.OK || setErr != api.OK {
					r.faults(t, 0, e)
				} else {
					r.goes(t, 0, e, func(w *api.World) []int { w.Vals = vals; return nil })
				}
			}
			slot--
		}
	}
}

func (r *rules) notifies(t int, e api.Edge, mine bool) {
	all := r.waiting(e.Mon)
	for draw := range max(1, len(all)) {
		switch {
		case !mine:
			r.faults(t, draw, e)
		case len(all) == 0:
			r.goes(t, draw, e, func(*api.World) []int { return nil })
		default:
			r.goes(t, draw, e, func(w *api.World) []int { return wakes(w, all[draw]) })
		}
	}
}

// asMine is what a thread does with a monitor of its own, but for a notify.
func (r *rules) asMine(t int, e api.Edge) {
	switch e.Kind {
	case api.EdLeave:
		r.goes(t, 0, e, func(w *api.World) []int { owns(w, t, e.Mon, -1); return nil })
	case api.EdAll:
		r.goes(t, 0, e, func(w *api.World) (woken []int) {
			for _, other := range r.waiting(e.Mon) {
				woken = append(woken, wakes(w, other)...)
			}
			return woken
		})
	case api.EdWait:
		r.add(run(t, 0), r.place(t, e), func(w *api.World) []int {
			thread := w.Threads[t]
			w.Threads[t] = api.Thread{Role: thread.Role, Loc: thread.Loc, State: api.ThWait, Left: e.N, Depth: w.Locks[e.Mon].Depth}
			w.Locks[e.Mon] = api.Lock{Owner: -1}
			return nil
		})
	}
}

// tally is what was done by a test: edges of each kind, faults at each kind, and more.
type tally struct {
	kinds, faults                    [api.EdPick + 1]int
	resumed, ended, drawn, all, over int
}

func (c *tally) count(x api.System, w api.World, p api.Pick, next api.World, took api.Took) {
	if p.Kind == api.PkTick && len(took.Woken) > 1 {
		c.over++
	}
	if p.Kind != api.PkRun {
		return
	}
	old, thread := w.Threads[p.Thread], next.Threads[p.Thread]
	e := x.Flows[old.Role].Edges[took.Edge]
	switch {
	case old.State == api.ThWoken:
		c.resumed++
	case thread.State == api.ThFault:
		c.faults[e.Kind]++
	default:
		c.kinds[e.Kind]++
	}
	if thread.State == api.ThDone {
		c.ended++
	}
	if e.Kind == api.EdNotify && len(took.Woken) > 0 && p.Draw > 0 {
		c.drawn++
	}
	if len(took.Woken) > 1 && e.Kind == api.EdAll {
		c.all++
	}
}

// wantRules holds all calls at a world against the rules.
func wantRules(t *testing.T, what string, x api.System, w api.World, seen *tally) {
	t.Helper()
	r := rules{x: x, w: w}
	want := rulesOf(x, w)
	most := 1
	for mon := -1; mon <= len(w.Locks); mon++ {
		got := r.waiting(mon)
		if most = max(most, len(got)); !slices.Equal(step.Waiters(x, w, mon), got) {
			t.Errorf("%s: %s: %d wait at %d", what, world.Text(w), step.Waiters(x, w, mon), mon)
		}
	}
	var picks []api.Pick
	for kind := -1; kind <= 3; kind++ {
		for thread := -1; thread <= len(w.Threads); thread++ {
			for draw := -1; draw <= max(most, 3); draw++ {
				p := api.Pick{Kind: kind, Thread: thread, Draw: draw}
				must, can := want[p]
				if !can {
					wantRefused(t, x, w, p, api.ErrPick)
					continue
				}
				next, took, err := done(t, x, w, p)
				if got := world.Text(next); err != api.OK || got != must.text || took.Edge != must.took.Edge || !slices.Equal(took.Woken, must.took.Woken) {
					t.Errorf("%s: %s, %+v: error %d, %s, %+v, want %+v", what, world.Text(w), p, err, got, took, must)
					continue
				}
				if seen.count(x, w, p, next, took); kind == api.PkRun {
					picks = append(picks, p)
				}
			}
		}
	}
	wantPicks(t, x, w, picks...)
}

// TestRules: P15.1 to P15.4, of programs and worlds that were made at random, against the rules.
func TestRules(t *testing.T) {
	var seen tally
	for seed := range uint64(1600) {
		d := drawn(seed, 15)
		x, text := d.System()
		for i := range 6 {
			w := d.First(x)
			if i > 0 {
				w = d.World(x)
			}
			if wantRules(t, fmt.Sprint("seed ", seed, ": ", text), x, w, &seen); t.Failed() {
				return
			}
		}
	}
	for kind := api.EdSkip; kind <= api.EdPick; kind++ {
		if seen.kinds[kind] < 200 || (seen.faults[kind] < 50) != slices.Contains([]int{api.EdSkip, api.EdPick, api.EdEnter}, kind) {
			t.Errorf("kind %d: %+v", kind, seen)
		}
	}
	if seen.resumed < 200 || seen.ended < 200 || seen.drawn < 100 || seen.all < 50 || seen.over < 100 {
		t.Errorf("%+v", seen)
	}
}
