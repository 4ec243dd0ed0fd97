package own_test

import (
	"slices"

	"vigil/api"
	"vigil/calls"
)

// What Scope and Check must tell, once more, by other means: all statements are laid in one row, each with the number of the one in which it stands, and what is owned is found by going upward from there.

// spot is a statement in the row: which one it stands in (-1: none).
type spot struct {
	stmt api.Stmt
	in   int
}

// row lays statements down, each ahead of what is in it.
func row(l []api.Stmt) []spot {
	var all, open []spot
	lay := func(list []api.Stmt, in int) {
		for _, s := range slices.Backward(list) {
			open = append(open, spot{s, in})
		}
	}
	lay(l, -1)
	for len(open) > 0 {
		next := open[len(open)-1]
		open = open[:len(open)-1]
		all = append(all, next)
		for _, b := range slices.Backward(next.stmt.Blocks) {
			lay(b, len(all)-1)
		}
	}
	return all
}

// reads are the variables in an expression, in order, those that are read by a variable behind it.
func reads(e api.Expr) []api.Expr {
	var all []api.Expr
	for open := []api.Expr{e}; len(open) > 0; {
		x := open[0]
		open = append(slices.Clone(x.Kids), open[1:]...)
		if x.Op == 4 {
			all = append(all, x)
		}
	}
	return all
}

// scoped is what Scope must tell.
func scoped(l []api.Stmt, owned []string) (api.Errno, int) {
	all := row(l)
	isOwned := func(mon string, i int) bool {
		for up := all[i].in; up >= 0; up = all[up].in {
			if s := all[up].stmt; s.Kind == 7 && s.Mon == mon {
				return true
			}
		}
		return slices.Contains(owned, mon)
	}
	for i, x := range all {
		s := x.stmt
		if slices.Contains([]int{2, 9, 10, 11}, s.Kind) && !isOwned(s.Mon, i) {
			return 90, s.At
		}
		vars := reads(s.E)
		for _, v := range vars {
			if !isOwned(v.Mon, i) {
				return 90, v.At
			}
		}
		if s.Kind != 3 && s.Kind != 4 {
			continue
		}
		for _, v := range vars {
			for _, y := range all {
				if y.in == i && y.stmt.Kind == 9 && y.stmt.Mon != v.Mon {
					return 91, v.At
				}
			}
		}
	}
	return 0, 0
}

// checked is what Check must tell.
func checked(p api.Program) (api.Errno, int) {
	err, at := calls.Check(p)
	tell := func(l []api.Stmt, owned ...string) {
		if err == 0 {
			err, at = scoped(l, owned)
		}
	}
	for _, m := range p.Mons {
		for _, f := range m.Methods {
			tell(f.Body, m.Name)
		}
	}
	for _, r := range p.Roles {
		tell(r.Body)
	}
	return err, at
}
