package step

import (
	"vigil/api"
	"vigil/flow"
)

// moment is a system, and one of its worlds.
type moment struct {
	api.System
	api.World
}

// edges tells the places of a thread's edges, among those of its flow.
func (m *moment) edges(t int) []int {
	thread := m.Threads[t]
	return flow.Out(m.Flows[thread.Role], thread.Loc)
}

// edge is the edge with a place among those of a thread's flow.
func (m *moment) edge(t, place int) api.Edge {
	return m.Flows[m.Threads[t].Role].Edges[place]
}

// first is a thread's first edge. Who runs, waits or is woken has one.
func (m *moment) first(t int) api.Edge {
	return m.edge(t, m.edges(t)[0])
}

// is tells whether there is a thread t, and whether its state is that one.
func (m *moment) is(t, state int) bool {
	return t >= 0 && t < len(m.Threads) && m.Threads[t].State == state
}

// can tells whether there is a thread t, and whether it can do a step.
func (m *moment) can(t int) bool {
	switch {
	case m.is(t, api.ThRun):
		e := m.first(t)
		return e.Kind != api.EdEnter || m.grants(t, e)
	case m.is(t, api.ThWoken):
		return m.Locks[m.first(t).Mon] == free()
	}
	return false
}

// grants tells whether a thread has of a monitor what its edge asks for: it must own it, but may enter it where nobody does.
func (m *moment) grants(t int, e api.Edge) bool {
	switch e.Kind {
	case api.EdEnter:
		if m.Locks[e.Mon] == free() {
			return true
		}
		fallthrough
	case api.EdLeave, api.EdWait, api.EdNotify, api.EdAll:
		return m.Locks[e.Mon].Owner == t
	}
	return true
}

// choices tells among how many steps a thread has the choice, 0 if it can do none.
func (m *moment) choices(t int) int {
	if !m.can(t) {
		return 0
	}
	switch e := m.first(t); e.Kind {
	case api.EdPick:
		return len(m.edges(t))
	case api.EdNotify:
		// Where nobody waits it notifies nobody, which is a step too.
		return max(len(m.waiters(e.Mon)), 1)
	}
	return 1
}

// waiters tells the threads that wait at a monitor, rising.
func (m *moment) waiters(mon int) []int {
	var all []int
	for t := range m.Threads {
		if m.is(t, api.ThWait) && m.first(t).Mon == mon {
			all = append(all, t)
		}
	}
	return all
}

// free is the lock of a monitor that nobody owns.
func free() api.Lock {
	return api.Lock{Owner: -1}
}
