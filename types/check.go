package types

import (
	"vigil/api"
	"vigil/names"
)

// Check tells the first error of p's names, or else the first variable whose first value its range has not, or else the first expression that is not what it must be; and its place.
func Check(p api.Program) (api.Errno, int) {
	if err, at := names.Check(p); err != api.OK {
		return err, at
	}
	if err, at := checkFirsts(p.Mons); err != api.OK {
		return err, at
	}
	for _, m := range p.Mons {
		for _, f := range m.Methods {
			if err, at := checkBlock(p, f.Body); err != api.OK {
				return err, at
			}
		}
	}
	for _, r := range p.Roles {
		if err, at := checkBlock(p, r.Body); err != api.OK {
			return err, at
		}
	}
	return api.OK, 0
}

// checkFirsts tells the first variable whose first value its range has not.
func checkFirsts(mons []api.Monitor) (api.Errno, int) {
	for _, m := range mons {
		for _, v := range m.Vars {
			if v.Type == api.TyRange && (v.Init < v.Lo || v.Init > v.Hi) {
				return api.ErrRange, v.At
			}
		}
	}
	return api.OK, 0
}

func checkBlock(p api.Program, list []api.Stmt) (api.Errno, int) {
	for _, s := range list {
		if err, at := checkStmt(p, s); err != api.OK {
			return err, at
		}
	}
	return api.OK, 0
}

// checkStmt looks at a statement's expression, then at its blocks.
func checkStmt(p api.Program, s api.Stmt) (api.Errno, int) {
	if wanted, ok := wants(p, s); ok {
		is, err, at := Type(p, s.E)
		if err != api.OK {
			return err, at
		}
		if is != wanted {
			return api.ErrType, s.E.At
		}
	}
	for _, b := range s.Blocks {
		if err, at := checkBlock(p, b); err != api.OK {
			return err, at
		}
	}
	return api.OK, 0
}

// wants tells what a statement's expression must be, and whether it has one.
func wants(p api.Program, s api.Stmt) (int, bool) {
	switch s.Kind {
	case api.StSet:
		return variable(p, s.Mon, s.Name)
	case api.StIf, api.StWhile:
		return api.TyBool, true
	}
	return 0, false
}
