package sample

import (
	"vigil/api"
	"vigil/flow"
	"vigil/names"
	"vigil/world"
)

// First is a first world of s, with a few threads of each star.
func (d Draw) First(s api.System) api.World {
	var counts []int
	for _, f := range s.Flows {
		if f.Star {
			counts = append(counts, d(4))
		}
	}
	w, _ := world.First(s, counts...)
	return w
}

// World is one that may be a world of s, whether or not any picks lead to it.
func (d Draw) World(s api.System) api.World {
	var w api.World
	for range 1 + d(9) {
		w.Threads = append(w.Threads, d.thread(s))
	}
	for mon := range s.P.Mons {
		w.Locks = append(w.Locks, d.lock(s, w, mon))
	}
	for _, v := range names.Slots(s.P) {
		n := d.Number()
		switch v.Type {
		case api.TyBool:
			n = int64(d(2))
		case api.TyRange:
			n = v.Lo + int64(d(int(v.Hi-v.Lo+1)))
		}
		w.Vals = append(w.Vals, n)
	}
	return w
}

// thread is one that may be, at any place, in one of the states in which it may be there.
func (d Draw) thread(s api.System) api.Thread {
	t := api.Thread{Role: d(len(s.Flows))}
	f := s.Flows[t.Role]
	t.Loc = d(f.Locs)
	for range 3 {
		// Those that wait, wake, or test are rare.
		if kind := first(f, t.Loc).Kind; kind == api.EdTest || kind >= api.EdWait && kind <= api.EdAll {
			break
		}
		t.Loc = d(f.Locs)
	}
	switch first(f, t.Loc).Kind {
	case 0:
		t.State = One(d, api.ThDone, api.ThDone, api.ThFault)
	case api.EdWait:
		d.waits(&t)
	default:
		t.State = One(d, api.ThRun, api.ThRun, api.ThRun, api.ThRun, api.ThDone, api.ThFault)
	}
	return t
}

// waits lays down how a thread is that is where it may wait.
func (d Draw) waits(t *api.Thread) {
	t.State = d(5)
	if d(2) == 0 {
		t.State = api.ThWait
	}
	switch t.State {
	case api.ThWait:
		t.Left, t.Depth = One[int64](d, 0, 1, 1, 2, 3), One(d, 1, 2, 5)
	case api.ThWoken:
		t.Depth = One(d, 1, 2, 5)
	}
}

// lock is one of a monitor that may be: it is owned by one who asks for it, by anybody, or by nobody.
func (d Draw) lock(s api.System, w api.World, mon int) api.Lock {
	var owners, asking []int
	for i, t := range w.Threads {
		if t.State < api.ThDone {
			owners = append(owners, i)
		}
		if e := first(s.Flows[t.Role], t.Loc); t.State == api.ThRun && e.Mon == mon && e.Kind >= api.EdLeave && e.Kind <= api.EdAll {
			asking = append(asking, i)
		}
	}
	if len(asking) > 0 && d(4) > 0 {
		owners = asking
	}
	if len(owners) == 0 || d(4) == 0 {
		return api.Lock{Owner: -1}
	}
	return api.Lock{Owner: One(d, owners...), Depth: One(d, 1, 1, 2, 3)}
}

// first is the first edge from a place, the zero one if there is none.
func first(f api.Flow, loc int) api.Edge {
	for _, k := range flow.Out(f, loc) {
		return f.Edges[k]
	}
	return api.Edge{}
}
