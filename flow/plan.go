package flow

import (
	"vigil/api"
	"vigil/names"
)

// plan is a flow to which places and edges are added, of statements of the program p that call nothing.
type plan struct {
	api.Flow
	p api.Program
}

// place makes a new place.
func (f *plan) place() int {
	f.Locs++
	return f.Locs - 1
}

// lay adds an edge between two places that are there.
func (f *plan) lay(from, to int, e api.Edge) {
	e.From, e.To = from, to
	f.Edges = append(f.Edges, e)
}

// on adds an edge to a new place, and tells that one.
func (f *plan) on(from int, e api.Edge) int {
	to := f.place()
	f.lay(from, to, e)
	return to
}

// block lays the statements l from a place, and tells the place behind the last one. A wait that stands in l itself waits for what is asked around l (an expression with the Op 0: nothing is); last is the number of the last one's guard, 0 if there is none.
func (f *plan) block(l []api.Stmt, from int, asked api.Guard) (end, last int) {
	end = from
	for _, s := range l {
		if s.Kind == api.StWait {
			end = f.wait(s, end, asked)
			last = len(f.Guards)
		} else {
			end = f.stmt(s, end)
		}
	}
	return end, last
}

// plain lays a block around which nothing is asked.
func (f *plan) plain(l []api.Stmt, from int) int {
	end, _ := f.block(l, from, api.Guard{})
	return end
}

// wait adds a guard with its edge. Where nothing is asked around it, nobody looks again behind the wait, so the wait itself leaves the guard.
func (f *plan) wait(s api.Stmt, from int, asked api.Guard) int {
	site := len(f.Guards) + 1
	e := api.Edge{Kind: api.EdWait, Mon: f.mon(s), N: s.N, Site: site, At: s.At}
	asked.Mon = e.Mon
	if asked.E.Op == 0 {
		asked.E = api.Expr{Op: api.OpTrue, At: s.At}
		e.Out = site
	}
	f.Guards = append(f.Guards, asked)
	return f.on(from, e)
}

// stmt lays a statement that is no wait, and tells the place behind it.
func (f *plan) stmt(s api.Stmt, from int) int {
	switch s.Kind {
	case api.StSkip:
		return f.on(from, api.Edge{Kind: api.EdSkip, At: s.At})
	case api.StSet:
		slot, _ := names.Slot(f.p, s.Mon, s.Name)
		return f.on(from, api.Edge{Kind: api.EdSet, Var: slot, E: s.E, At: s.At})
	case api.StNotify:
		return f.on(from, api.Edge{Kind: api.EdNotify, Mon: f.mon(s), At: s.At})
	case api.StAll:
		return f.on(from, api.Edge{Kind: api.EdAll, Mon: f.mon(s), At: s.At})
	case api.StSync:
		return f.sync(s, from)
	case api.StIf:
		return f.either(s, from)
	case api.StWhile:
		return f.while(s, from)
	case api.StLoop:
		f.lay(f.plain(s.Blocks[0], from), from, skip(s, 0))
		return f.place()
	case api.StChoose:
		return f.choose(s, from)
	}
	return from
}

func (f *plan) sync(s api.Stmt, from int) int {
	in := f.on(from, api.Edge{Kind: api.EdEnter, Mon: f.mon(s), At: s.At})
	end := f.plain(s.Blocks[0], in)
	return f.on(end, api.Edge{Kind: api.EdLeave, Mon: f.mon(s), At: s.At})
}

// either lays a StIf. Whoever waits in a block waits for what would not have led there.
func (f *plan) either(s api.Stmt, from int) int {
	yes := f.on(from, test(s.E))
	end, left := f.block(s.Blocks[0], yes, api.Guard{E: not(s.E)})
	behind := f.on(end, skip(s, left))
	end, left = f.on(from, test(not(s.E))), 0
	if len(s.Blocks) > 1 {
		end, left = f.block(s.Blocks[1], end, api.Guard{E: s.E})
	}
	f.lay(end, behind, skip(s, left))
	return behind
}

func (f *plan) while(s api.Stmt, from int) int {
	yes := f.on(from, test(s.E))
	end, left := f.block(s.Blocks[0], yes, api.Guard{E: not(s.E), Loop: true})
	f.lay(end, from, skip(s, 0))
	no := test(not(s.E))
	no.Out = left
	return f.on(from, no)
}

func (f *plan) choose(s api.Stmt, from int) int {
	var ends []int
	for i, b := range s.Blocks {
		picked := f.on(from, api.Edge{Kind: api.EdPick, N: int64(i), At: s.At})
		ends = append(ends, f.plain(b, picked))
	}
	behind := f.place()
	for _, end := range ends {
		f.lay(end, behind, skip(s, 0))
	}
	return behind
}

// mon tells the place of a statement's monitor.
func (f *plan) mon(s api.Stmt) int {
	mon, _ := names.Monitor(f.p, s.Mon)
	return mon
}

// skip is an edge that joins what a statement has parted, and leaves the guard with that number.
func skip(s api.Stmt, left int) api.Edge {
	return api.Edge{Kind: api.EdSkip, Out: left, At: s.At}
}

func test(e api.Expr) api.Edge {
	return api.Edge{Kind: api.EdTest, E: e, At: e.At}
}

func not(e api.Expr) api.Expr {
	return api.Expr{Op: api.OpNot, Kids: []api.Expr{e}, At: e.At}
}
