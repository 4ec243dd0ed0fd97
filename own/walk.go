package own

import (
	"slices"

	"vigil/api"
)

// walk goes into blocks, and out again. On its way in it lays the names of what is owned one behind the other, each once, and keeps where it has laid each of them.
type walk struct {
	names []string
	place map[string]int
}

// with hands on what is owned, and these too. The room behind what is handed on is the walk's alone: there stands what is owned further in.
func (w *walk) with(owned []string, more ...string) []string {
	for _, mon := range more {
		if w.owns(mon, owned...) {
			continue
		}
		n := len(owned)
		w.names = append(w.names[:n], mon)
		w.place[mon] = n
		owned = w.names[: n+1 : n+1]
	}
	return owned
}

// owns looks where mon was laid last, and nowhere else, for there may be many names. If the walk has gone out of the block that owned it, another one stands there by now, or none.
func (w *walk) owns(mon string, owned ...string) bool {
	i := w.place[mon]
	return i < len(owned) && owned[i] == mon
}

func (w *walk) block(l []api.Stmt, owned ...string) (api.Errno, int) {
	for _, s := range l {
		if err, at := w.stmt(s, owned...); err != api.OK {
			return err, at
		}
	}
	return api.OK, 0
}

// stmt looks at a statement's own monitor, then at what it reads, then at its blocks.
func (w *walk) stmt(s api.Stmt, owned ...string) (api.Errno, int) {
	isForeign := func(mon string) bool { return !w.owns(mon, owned...) }
	if needsOwner(s.Kind) && isForeign(s.Mon) {
		return api.ErrOwn, s.At
	}
	if at, ok := firstVar(s.E, isForeign); ok {
		return api.ErrOwn, at
	}
	if at, ok := impure(s); ok {
		return api.ErrPure, at
	}
	if s.Kind == api.StSync {
		owned = w.with(owned, s.Mon)
	}
	for _, b := range s.Blocks {
		if err, at := w.block(b, owned...); err != api.OK {
			return err, at
		}
	}
	return api.OK, 0
}

// needsOwner tells whether only who owns its monitor may do a statement of that kind.
func needsOwner(kind int) bool {
	switch kind {
	case api.StSet, api.StWait, api.StNotify, api.StAll:
		return true
	}
	return false
}

// impure tells the place of the first variable in a guard that is of another monitor than one of its waits, and whether there is any.
func impure(s api.Stmt) (int, bool) {
	if s.Kind != api.StIf && s.Kind != api.StWhile {
		return 0, false
	}
	mons := waits(s.Blocks)
	return firstVar(s.E, func(mon string) bool {
		return slices.ContainsFunc(mons, func(waited string) bool { return waited != mon })
	})
}

// waits tells the monitors of the waits that stand in blocks themselves, one that comes several times in a row once: so there is either one, or two at the beginning that no variable is of.
func waits(blocks [][]api.Stmt) []string {
	var mons []string
	for _, b := range blocks {
		for _, s := range b {
			if s.Kind == api.StWait {
				mons = append(mons, s.Mon)
			}
		}
	}
	return slices.Compact(mons)
}

// firstVar tells the place of the first variable in e, from the left, whose monitor is such a one, and whether there is any.
func firstVar(e api.Expr, is func(mon string) bool) (int, bool) {
	if e.Op == api.OpVar && is(e.Mon) {
		return e.At, true
	}
	for _, kid := range e.Kids {
		if at, ok := firstVar(kid, is); ok {
			return at, true
		}
	}
	return 0, false
}
