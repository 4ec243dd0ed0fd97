package flow_test

import (
	"math/rand/v2"
	"reflect"
	"slices"
	"testing"

	"vigil/api"
	"vigil/calls"
	"vigil/flow"
	"vigil/names"
	"vigil/own"
)

// TestFlowsSizes: P12.1 to P12.3, of programs that were made at random, against flows that are made by their sizes.
func TestFlowsSizes(t *testing.T) {
	told, guards, loops, edges := map[api.Errno]int{}, 0, 0, 0
	for seed := range uint64(8000) {
		p := newChance(seed).program()
		l, err, at := flow.Flows(p)
		want, wantErr, wantAt := laid(t, p)
		if err != wantErr || at != wantAt || len(l) != len(want) {
			t.Fatalf("seed %d: error %d at %d, %d flows, want %d at %d, %d", seed, err, at, len(l), wantErr, wantAt, len(want))
		}
		told[err]++
		for i, f := range l {
			if !reflect.DeepEqual(f, want[i]) {
				t.Fatalf("seed %d: %+v,\nwant %+v", seed, f, want[i])
			}
			edges += len(f.Edges)
			for _, g := range f.Guards {
				guards++
				loops += btoi(g.Loop)
			}
		}
	}
	if told[api.OK] < 4000 || told[api.ErrBig] < 20 || told[api.ErrWide] < 3 || len(told) > 3 || edges < 50000 || guards < 5000 || loops < 1000 {
		t.Error(told, edges, guards, loops)
	}
}

// TestWaysPart: P12.5.
func TestWaysPart(t *testing.T) {
	count := map[string]int{}
	for seed := range uint64(4000) {
		p := newChance(seed).program()
		if err, _ := own.Check(p); err != api.OK {
			continue
		}
		for _, r := range p.Roles {
			f, err := flow.Lower(p, r.Body)
			if err == api.ErrWide {
				continue
			}
			if err != api.OK {
				t.Fatalf("seed %d: error %d", seed, err)
			}
			_, behind, _ := lowered(p, r.Body)
			for loc := range f.Locs {
				how := parts(f, loc)
				if count[how]++; how == "" {
					t.Fatalf("seed %d: from %d: %+v", seed, loc, f)
				}
				into := slices.ContainsFunc(f.Edges, func(e api.Edge) bool { return e.To == loc })
				if !into && loc != 0 && !slices.Contains(behind, loc) {
					t.Fatalf("seed %d: nothing leads to %d: %+v", seed, loc, f)
				}
			}
			for _, e := range f.Edges {
				if e.From < 0 || e.From >= f.Locs || e.To < 0 || e.To >= f.Locs {
					t.Fatalf("seed %d: %+v", seed, e)
				}
			}
		}
	}
	for _, how := range []string{"none", "one", "tests", "picks"} {
		if count[how] < 1000 {
			t.Error(count)
		}
	}
}

// parts tells how ways part at a place: not at all, in one of the forms of P12.5, or in none ("").
func parts(f api.Flow, loc int) string {
	out := flow.Out(f, loc)
	if len(out) == 0 {
		return "none"
	}
	switch f.Edges[out[0]].Kind {
	case api.EdTest:
		if len(out) == 2 && f.Edges[out[1]].Kind == api.EdTest && reflect.DeepEqual(f.Edges[out[1]].E, negated(f.Edges[out[0]].E)) {
			return "tests"
		}
	case api.EdPick:
		for i, k := range out {
			if f.Edges[k].Kind != api.EdPick || f.Edges[k].N != int64(i) {
				return ""
			}
		}
		return "picks"
	default:
		if len(out) == 1 {
			return "one"
		}
	}
	return ""
}

// deed is one thing that a thread does: a statement's own, or a sync's end.
type deed struct {
	kind, at int
}

// runner does statements, up to so many deeds and choices; where there is a choice it is made at random.
type runner struct {
	*rand.Rand
	left  int
	deeds []deed
}

// goes tells whether there is more to be done.
func (r *runner) goes() bool {
	r.left--
	return r.left >= 0
}

// run does the statements, and tells whether it came to their end.
func (r *runner) run(l []api.Stmt) bool {
	for _, s := range l {
		if !r.one(s) {
			return false
		}
	}
	return true
}

func (r *runner) one(s api.Stmt) bool {
	if !r.goes() {
		return false
	}
	does := map[int]int{api.StSkip: api.EdSkip, api.StSet: api.EdSet, api.StNotify: api.EdNotify, api.StAll: api.EdAll, api.StWait: api.EdWait, api.StSync: api.EdEnter}
	if kind, ok := does[s.Kind]; ok {
		r.deeds = append(r.deeds, deed{kind, s.At})
	}
	switch s.Kind {
	case api.StSync:
		ok := r.run(s.Blocks[0]) && r.goes()
		if ok {
			r.deeds = append(r.deeds, deed{api.EdLeave, s.At})
		}
		return ok
	case api.StIf:
		if n := r.IntN(2); n < len(s.Blocks) {
			return r.run(s.Blocks[n])
		}
	case api.StWhile:
		for r.IntN(2) == 0 {
			if !r.run(s.Blocks[0]) || !r.goes() {
				return false
			}
		}
	case api.StLoop:
		for r.run(s.Blocks[0]) && r.goes() {
		}
		return false
	case api.StChoose:
		return r.run(s.Blocks[r.IntN(len(s.Blocks))])
	}
	return true
}

// along goes along a flow, as far as so many deeds; those skips that a statement with blocks makes are none. It tells whether it came to a place from which no edge leads.
func (r *runner) along(f api.Flow, joins map[int]bool, deeds int) bool {
	for loc := 0; ; {
		out := flow.Out(f, loc)
		if len(out) == 0 {
			return true
		}
		if len(r.deeds) == deeds || !r.goes() {
			return false
		}
		e := f.Edges[out[0]]
		if len(out) > 1 || e.Kind == api.EdPick {
			e = f.Edges[out[r.IntN(len(out))]]
		}
		if e.Kind != api.EdTest && e.Kind != api.EdPick && !(e.Kind == api.EdSkip && joins[e.At]) {
			r.deeds = append(r.deeds, deed{e.Kind, e.At})
		}
		loc = e.To
	}
}

// TestWaysGo: P12.1: with the same choices, who goes along a flow does what its statements do, and comes to an end where they do.
func TestWaysGo(t *testing.T) {
	done, cut := 0, 0
	for seed := range uint64(4000) {
		p := newChance(seed).program()
		if err, _ := own.Check(p); err != api.OK {
			continue
		}
		for i, role := range p.Roles {
			f, err := flow.Lower(p, role.Body)
			if err != api.OK {
				continue
			}
			in, _ := calls.Inline(p, role.Body)
			first := runner{Rand: rand.New(rand.NewPCG(seed, uint64(i))), left: 300}
			ended := first.run(in)
			second := runner{Rand: rand.New(rand.NewPCG(seed, uint64(i))), left: 100000}
			limit := len(first.deeds)
			if ended {
				limit = -1
			}
			if second.along(f, joinPlaces(in), limit) != ended || !slices.Equal(first.deeds, second.deeds) {
				t.Fatalf("seed %d: %v: %v, want %v", seed, in, second.deeds, first.deeds)
			}
			done += btoi(ended && len(first.deeds) > 5)
			cut += btoi(!ended && len(first.deeds) > 5)
		}
	}
	if done < 500 || cut < 500 {
		t.Error(done, cut)
	}
}

// joinPlaces are the places of statements whose blocks are joined by skips.
func joinPlaces(l []api.Stmt) map[int]bool {
	all := map[int]bool{}
	var look func(l []api.Stmt)
	look = func(l []api.Stmt) {
		for _, s := range l {
			if len(s.Blocks) > 0 {
				all[s.At] = true
			}
			for _, b := range s.Blocks {
				look(b)
			}
		}
	}
	look(l)
	return all
}

// TestGuardsRead: P12.2 of programs that own.Check takes: a guard has the monitor of its wait, reads no other one, and one edge leaves each number that is the last one of its block.
func TestGuardsRead(t *testing.T) {
	seen := 0
	for seed := range uint64(2000) {
		p := newChance(seed).program()
		l, err, _ := flow.Flows(p)
		if err != api.OK {
			continue
		}
		for _, f := range l {
			site, left := 0, map[int]int{}
			for _, e := range f.Edges {
				if e.Kind == api.EdWait {
					site++
					if g := f.Guards[e.Site-1]; e.Site != site || g.Mon != e.Mon || !readsOnly(p, g.E, g.Mon) || g.E.Op == api.OpTrue && g.E.At == e.At && e.Out != e.Site {
						t.Fatalf("seed %d: %+v", seed, f)
					}
				} else if e.Site != 0 {
					t.Fatalf("seed %d: %+v", seed, e)
				}
				left[e.Out]++
			}
			for n, times := range left {
				if n < 0 || n > site || n > 0 && times > 1 {
					t.Fatalf("seed %d: guard %d is left by %d edges: %+v", seed, n, times, f)
				}
			}
			seen += site
			if site != len(f.Guards) {
				t.Fatalf("seed %d: %d waits, %d guards", seed, site, len(f.Guards))
			}
		}
	}
	if seen < 1000 {
		t.Error(seen)
	}
}

// readsOnly tells whether all variables in e are of one monitor.
func readsOnly(p api.Program, e api.Expr, mon int) bool {
	if e.Op == api.OpVar {
		at, ok := names.Monitor(p, e.Mon)
		return ok && at == mon
	}
	return !slices.ContainsFunc(e.Kids, func(kid api.Expr) bool { return !readsOnly(p, kid, mon) })
}
