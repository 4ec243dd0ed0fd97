package flow_test

import (
	"fmt"
	"slices"
	"testing"

	"vigil/api"
	"vigil/calls"
	"vigil/names"
	"vigil/own"
)

// What Lower and Flows must tell, once more, by other means: nothing is counted up. How many places and edges a statement makes is known from its kind and its blocks, and so is, ahead of all laying, the number of each; guards and what leaves them are found in the list of all waits, behind the rest.

// size is how many places and edges something makes.
type size struct {
	locs, edges int
}

func (a size) plus(b size) size {
	return size{a.locs + b.locs, a.edges + b.edges}
}

// ownSize is what a statement makes beside its blocks.
func ownSize(s api.Stmt) size {
	switch s.Kind {
	case api.StIf:
		return size{3, 4}
	case api.StWhile:
		return size{2, 3}
	case api.StSync:
		return size{2, 2}
	case api.StChoose:
		return size{len(s.Blocks) + 1, 2 * len(s.Blocks)}
	}
	return size{1, 1}
}

func sizeOf(l []api.Stmt) size {
	var n size
	for _, s := range l {
		n = n.plus(ownSize(s))
		for _, b := range s.Blocks {
			n = n.plus(sizeOf(b))
		}
	}
	return n
}

// endOf is the place behind statements that begin at a place and make those from first on.
func endOf(l []api.Stmt, from, first int) int {
	if len(l) == 0 {
		return from
	}
	last := l[len(l)-1]
	first += sizeOf(l[:len(l)-1]).locs
	if last.Kind == api.StIf {
		return first + 1 + sizeOf(last.Blocks[0]).locs
	}
	return first + sizeOf(l[len(l)-1:]).locs - 1
}

// waiter is a wait: the edge that it is, what is around it, and the edge that leaves its guard.
type waiter struct {
	edge, leaves int
	guard        api.Guard
}

// chart is a flow that is made whole, and filled then.
type chart struct {
	p      api.Program
	edges  []api.Edge
	waits  []waiter
	behind []int // the places behind loops
}

func negated(e api.Expr) api.Expr {
	return api.Expr{Op: api.OpNot, Kids: []api.Expr{e}, At: e.At}
}

// branch is a block as a part of a statement: where it begins, what it is numbered from, what its waits wait for, and which edge leaves that (-1: the wait itself).
type branch struct {
	l      []api.Stmt
	from   int
	at     size
	guard  api.Guard
	leaves int
}

func (c *chart) put(i, kind, from, to int, e api.Edge) {
	e.Kind, e.From, e.To = kind, from, to
	c.edges[i] = e
}

func (c *chart) fill(b branch) {
	for i, s := range b.l {
		at := b.at.plus(sizeOf(b.l[:i]))
		c.fillOne(s, endOf(b.l[:i], b.from, b.at.locs), at, b)
	}
}

// fillOne fills in what a statement makes, which is numbered from at on.
func (c *chart) fillOne(s api.Stmt, from int, at size, around branch) {
	mon, _ := names.Monitor(c.p, s.Mon)
	slot, _ := names.Slot(c.p, s.Mon, s.Name)
	here := api.Edge{At: s.At}
	there := api.Edge{Mon: mon, At: s.At}
	is := api.Edge{E: s.E, At: s.E.At}
	isNot := api.Edge{E: negated(s.E), At: s.E.At}
	end := func(b branch) int { return endOf(b.l, b.from, b.at.locs) }
	inner := func(i int) branch {
		b := branch{l: s.Blocks[i], from: at.locs, at: at.plus(size{1, 1}), leaves: -1}
		for k := range i {
			b.at = b.at.plus(sizeOf(s.Blocks[k]))
		}
		return b
	}
	switch s.Kind {
	case api.StSkip:
		c.put(at.edges, api.EdSkip, from, at.locs, here)
	case api.StSet:
		c.put(at.edges, api.EdSet, from, at.locs, api.Edge{Var: slot, E: s.E, At: s.At})
	case api.StNotify, api.StAll:
		c.put(at.edges, s.Kind-api.StNotify+api.EdNotify, from, at.locs, there)
	case api.StWait:
		c.put(at.edges, api.EdWait, from, at.locs, api.Edge{Mon: mon, N: s.N, At: s.At})
		w := waiter{at.edges, around.leaves, around.guard}
		if w.guard.Mon = mon; w.leaves < 0 {
			w.leaves, w.guard.E = w.edge, api.Expr{Op: api.OpTrue, At: s.At}
		}
		c.waits = append(c.waits, w)
	case api.StSync:
		b := inner(0)
		n := sizeOf(b.l)
		c.put(at.edges, api.EdEnter, from, at.locs, there)
		c.fill(b)
		c.put(at.edges+1+n.edges, api.EdLeave, end(b), at.locs+1+n.locs, there)
	case api.StIf:
		b, n := inner(0), sizeOf(s.Blocks[0])
		b.guard.E, b.leaves = negated(s.E), at.edges+1+n.edges
		other := branch{from: at.locs + 2 + n.locs, at: at.plus(n).plus(size{3, 3})}
		if len(s.Blocks) == 2 {
			other.l = s.Blocks[1]
		}
		last := at.edges + 3 + n.edges + sizeOf(other.l).edges
		other.guard.E, other.leaves = s.E, last
		behind := at.locs + 1 + n.locs
		c.put(at.edges, api.EdTest, from, at.locs, is)
		c.put(b.leaves, api.EdSkip, end(b), behind, here)
		c.put(b.leaves+1, api.EdTest, from, other.from, isNot)
		c.put(last, api.EdSkip, end(other), behind, here)
		c.fill(b)
		c.fill(other)
	case api.StWhile:
		b, n := inner(0), sizeOf(s.Blocks[0])
		b.guard, b.leaves = api.Guard{E: negated(s.E), Loop: true}, at.edges+2+n.edges
		c.put(at.edges, api.EdTest, from, at.locs, is)
		c.put(b.leaves-1, api.EdSkip, end(b), from, here)
		c.put(b.leaves, api.EdTest, from, at.locs+1+n.locs, isNot)
		c.fill(b)
	case api.StLoop:
		b := branch{l: s.Blocks[0], from: from, at: at, leaves: -1}
		n := sizeOf(b.l)
		c.put(at.edges+n.edges, api.EdSkip, end(b), from, here)
		c.behind = append(c.behind, at.locs+n.locs)
		c.fill(b)
	case api.StChoose:
		all := sizeOf(slices.Concat(s.Blocks...))
		for i := range s.Blocks {
			b := inner(i)
			b.at = b.at.plus(size{i, i})
			b.from = b.at.locs - 1
			c.put(b.at.edges-1, api.EdPick, from, b.from, api.Edge{N: int64(i), At: s.At})
			c.put(at.edges+len(s.Blocks)+all.edges+i, api.EdSkip, end(b), at.locs+len(s.Blocks)+all.locs, here)
			c.fill(b)
		}
	default:
		panic(fmt.Sprint("a statement of the kind ", s.Kind))
	}
}

// lowered is what Lower must tell, and the places behind loops.
func lowered(p api.Program, l []api.Stmt) (api.Flow, []int, api.Errno) {
	in, err := calls.Inline(p, l)
	if err != api.OK {
		return api.Flow{}, nil, err
	}
	n := sizeOf(in)
	if n.locs+1 > 600 {
		return api.Flow{}, nil, api.ErrWide
	}
	c := chart{p: p, edges: append([]api.Edge(nil), make([]api.Edge, n.edges)...)}
	c.fill(branch{l: in, at: size{1, 0}, leaves: -1})
	f := api.Flow{Locs: n.locs + 1}
	slices.SortFunc(c.waits, func(a, b waiter) int { return a.edge - b.edge })
	for i, w := range c.waits {
		c.edges[w.edge].Site = i + 1
		c.edges[w.leaves].Out = i + 1
		f.Guards = append(f.Guards, w.guard)
	}
	f.Edges = c.edges
	return f, c.behind, api.OK
}

// laid is what Flows must tell.
func laid(t testing.TB, p api.Program) ([]api.Flow, api.Errno, int) {
	t.Helper()
	if err, at := own.Check(p); err != api.OK {
		return nil, err, at
	}
	var all []api.Flow
	for _, r := range p.Roles {
		f, _, err := lowered(p, r.Body)
		if err == api.ErrWide {
			return nil, err, r.At
		}
		if err != api.OK {
			t.Fatal(err)
		}
		f.Name, f.Star = r.Name, r.Star
		if r.Star || r.Count == 1 {
			all = append(all, f)
			continue
		}
		for _, digit := range "12345678"[:r.Count] {
			f.Name = r.Name + "." + string(digit)
			all = append(all, f)
		}
	}
	return all, api.OK, 0
}
