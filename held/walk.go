package held

import (
	"slices"

	"vigil/api"
)

// owning is how often each monitor is owned at a place. The numbers of two places are held against each other as a whole.
type owning [api.MaxMons]int

// behind tells what is owned behind an edge, and whether it can be: nobody leaves what it does not own.
func (o owning) behind(e api.Edge) (owning, bool) {
	switch e.Kind {
	case api.EdEnter:
		o[e.Mon]++
	case api.EdLeave:
		o[e.Mon]--
		return o, o[e.Mon] >= 0
	}
	return o, true
}

// along goes along all ways from the place 0 of a sound flow, and tells what is owned at each place that it comes to, and whether that is the same on each way.
func along(f api.Flow) (map[int]owning, bool) {
	leads := map[int][]int{}
	for i, e := range f.Edges {
		leads[e.From] = append(leads[e.From], i)
	}
	found, list := map[int]owning{0: {}}, []int{0}
	for i := 0; i < len(list); i++ {
		for _, k := range leads[list[i]] {
			e := f.Edges[k]
			owned, ok := found[e.From].behind(e)
			if !ok {
				return nil, false
			}
			before, known := found[e.To]
			if known && before != owned {
				return nil, false
			}
			if !known {
				found[e.To] = owned
				list = append(list, e.To)
			}
		}
	}
	return found, true
}

// isSound tells whether a flow has places, no more than there may be, and its edges speak of these and of so many monitors alone.
func isSound(f api.Flow, mons int) bool {
	if f.Locs < 1 || f.Locs > api.MaxLocs || mons < 0 || mons > api.MaxMons {
		return false
	}
	return !slices.ContainsFunc(f.Edges, func(e api.Edge) bool {
		return !isPlace(e.From, f.Locs) || !isPlace(e.To, f.Locs) || hasMonitor(e.Kind) && !isPlace(e.Mon, mons)
	})
}

// hasMonitor tells whether an edge of that kind is at a monitor.
func hasMonitor(kind int) bool {
	switch kind {
	case api.EdEnter, api.EdLeave, api.EdWait, api.EdNotify, api.EdAll:
		return true
	}
	return false
}

// isPlace tells whether i is one of the places 0 to n - 1.
func isPlace(i, n int) bool {
	return i >= 0 && i < n
}
