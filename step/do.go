package step

import (
	"vigil/api"
	"vigil/names"
	"vigil/num"
	"vigil/value"
)

// do does what is picked, and tells what was done, and whether it can be.
func (m *moment) do(p api.Pick) (api.Took, bool) {
	switch {
	case p.Kind == api.PkRun && p.Draw >= 0 && p.Draw < m.choices(p.Thread):
		if m.is(p.Thread, api.ThWoken) {
			return m.resume(p.Thread), true
		}
		return m.run(p.Thread, p.Draw), true
	case p.Kind == api.PkSpur && p.Draw == 0 && m.is(p.Thread, api.ThWait):
		return api.Took{Edge: -1, Woken: m.wake(p.Thread)}, true
	case p.Kind == api.PkTick && p.Draw == 0 && p.Thread == 0:
		return api.Took{Edge: -1, Woken: m.wake(m.tick()...)}, true
	}
	return api.Took{}, false
}

// run lets a thread that runs go along an edge, or fault if it lacks what its first one asks for.
func (m *moment) run(t, draw int) api.Took {
	edges := m.edges(t)
	e := m.edge(t, edges[0])
	n, ok := m.reckon(e)
	if !ok || !m.grants(t, e) {
		m.fault(t)
		return api.Took{Edge: edges[0]}
	}
	took := api.Took{Edge: edges[0]}
	switch e.Kind {
	case api.EdTest:
		if n == 0 {
			took.Edge = edges[1]
		}
	case api.EdPick:
		took.Edge = edges[draw]
	case api.EdWait:
		m.sleep(t, e)
		return took
	case api.EdSet:
		m.Vals[e.Var] = n
	case api.EdEnter:
		m.own(t, e.Mon, m.Locks[e.Mon].Depth+1)
	case api.EdLeave:
		m.own(t, e.Mon, m.Locks[e.Mon].Depth-1)
	case api.EdNotify:
		if all := m.waiters(e.Mon); len(all) > 0 {
			took.Woken = m.wake(all[draw])
		}
	case api.EdAll:
		took.Woken = m.wake(m.waiters(e.Mon)...)
	}
	m.come(t, m.edge(t, took.Edge).To)
	return took
}

// reckon tells what an edge's expression comes to, 0 if it has none, and whether all is within its bounds. A set asks for what a test asks for, and that the variable may have it.
func (m *moment) reckon(e api.Edge) (int64, bool) {
	bounds := api.Var{Type: api.TyInt}
	switch e.Kind {
	case api.EdSet:
		bounds = names.Slots(m.P)[e.Var]
		fallthrough
	case api.EdTest:
		n, err := value.Eval(m.P, e.E, m.Vals)
		return n, err == api.OK && num.Fits(bounds, n)
	}
	return 0, true
}

// resume lets a thread that is woken own its monitor again, as often as it did.
func (m *moment) resume(t int) api.Took {
	thread, place := &m.Threads[t], m.edges(t)[0]
	e := m.edge(t, place)
	m.own(t, e.Mon, thread.Depth)
	thread.State, thread.Depth = api.ThRun, 0
	m.come(t, e.To)
	return api.Took{Edge: place}
}

// come lets a thread that runs come to a place of its flow, where it may have ended.
func (m *moment) come(t, loc int) {
	m.Threads[t].Loc = loc
	if len(m.edges(t)) == 0 {
		m.Threads[t].State = api.ThDone
	}
}

// sleep lets a thread wait, and let its monitor go.
func (m *moment) sleep(t int, e api.Edge) {
	thread := &m.Threads[t]
	thread.State, thread.Left, thread.Depth = api.ThWait, e.N, m.Locks[e.Mon].Depth
	m.Locks[e.Mon] = free()
}

// fault stops a thread for ever where it is; it lets go all that it owns.
func (m *moment) fault(t int) {
	m.Threads[t].State = api.ThFault
	for mon := range m.Locks {
		if m.Locks[mon].Owner == t {
			m.Locks[mon] = free()
		}
	}
}

// own lets a thread own a monitor so often.
func (m *moment) own(t, mon, depth int) {
	m.Locks[mon] = api.Lock{Owner: t, Depth: depth}
	if depth == 0 {
		m.Locks[mon] = free()
	}
}

// tick lets the time of those go by who wait for so long, and tells whose is over, rising.
func (m *moment) tick() []int {
	var over []int
	for t := range m.Threads {
		if thread := &m.Threads[t]; m.is(t, api.ThWait) && thread.Left > 0 {
			thread.Left--
			if thread.Left == 0 {
				over = append(over, t)
			}
		}
	}
	return over
}

// wake wakes threads that wait, and tells them.
func (m *moment) wake(threads ...int) []int {
	for _, t := range threads {
		m.Threads[t].State, m.Threads[t].Left = api.ThWoken, 0
	}
	return threads
}
