package world

import (
	"vigil/api"
	"vigil/num"
)

// Check tells whether w may be a world of s.
func Check(s api.System, w api.World) api.Errno {
	if len(w.Threads) > api.MaxThreads || len(w.Locks) != len(s.P.Mons) || !valsFit(s.P, w.Vals) {
		return api.ErrArg
	}
	for _, t := range w.Threads {
		if !threadFits(s.Flows, t) {
			return api.ErrArg
		}
	}
	for _, l := range w.Locks {
		if l != nobodys() && !ownerFits(w.Threads, l) {
			return api.ErrArg
		}
	}
	return api.OK
}

// valsFit tells whether there are as many values as variables, each one that its variable may have. The monitors' own lists are gone through, as names.Slots would copy all variables for each world that is looked at.
func valsFit(p api.Program, vals []int64) bool {
	for _, m := range p.Mons {
		for _, v := range m.Vars {
			if len(vals) == 0 || !num.Fits(v, vals[0]) {
				return false
			}
			vals = vals[1:]
		}
	}
	return len(vals) == 0
}

// threadFits tells whether t may be a thread of one of the flows.
func threadFits(flows []api.Flow, t api.Thread) bool {
	if t.Role < 0 || t.Role >= len(flows) || t.Loc < 0 || t.Loc >= flows[t.Role].Locs {
		return false
	}
	if t.Left < 0 || t.Left > api.MaxTime || t.Depth < 0 || t.Depth > api.MaxTime {
		return false
	}
	edge := leading(flows[t.Role], t.Loc)
	switch t.State {
	case api.ThRun:
		return edge != 0 && t.Left == 0 && t.Depth == 0
	case api.ThWait:
		return edge == api.EdWait && t.Depth > 0
	case api.ThWoken:
		return edge == api.EdWait && t.Depth > 0 && t.Left == 0
	case api.ThDone, api.ThFault:
		return t.Left == 0 && t.Depth == 0
	}
	return false
}

// ownerFits tells whether a lock is owned, as often as may be, by one of the threads, which are as they may be: by one that has neither ended nor faulted.
func ownerFits(threads []api.Thread, l api.Lock) bool {
	if l.Owner < 0 || l.Owner >= len(threads) || l.Depth < 1 || l.Depth > api.MaxTime {
		return false
	}
	state := threads[l.Owner].State
	return state != api.ThDone && state != api.ThFault
}

// nobodys is a lock that nobody owns.
func nobodys() api.Lock {
	return api.Lock{Owner: -1}
}

// leading tells the kind of the first edge that leads from a place, 0 if none does. Edges are looked at where they lie, as this is asked of each thread of each world.
func leading(f api.Flow, loc int) int {
	for i := range f.Edges {
		if f.Edges[i].From == loc {
			return f.Edges[i].Kind
		}
	}
	return 0
}
