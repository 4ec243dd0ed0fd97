package names

import "vigil/api"

// reader goes through statements, and has those who look up what stands there.
type reader struct {
	isMonitor  func(mon string) bool
	isVariable func(mon, name string) bool
	isMethod   func(mon, name string) bool
}

func newReader(s scope) reader {
	within := func(kind int) func(mon, name string) bool {
		return func(mon, name string) bool { return s[mon][name] == kind }
	}
	return reader{
		isMonitor:  func(mon string) bool { return s[mon] != nil },
		isVariable: within(aVariable),
		isMethod:   within(aMethod),
	}
}

// program tells the first name in the statements of p that nobody has declared: methods stand ahead of roles.
func (r reader) program(p api.Program) (api.Errno, int) {
	for _, m := range p.Mons {
		for _, f := range m.Methods {
			if err, at := r.block(f.Body); err != api.OK {
				return err, at
			}
		}
	}
	for _, role := range p.Roles {
		if err, at := r.block(role.Body); err != api.OK {
			return err, at
		}
	}
	return api.OK, 0
}

func (r reader) block(list []api.Stmt) (api.Errno, int) {
	for _, s := range list {
		if err, at := r.stmt(s); err != api.OK {
			return err, at
		}
	}
	return api.OK, 0
}

// stmt looks at a statement's own names, then at its expression, then at its blocks.
func (r reader) stmt(s api.Stmt) (api.Errno, int) {
	if !r.knows(s) {
		return api.ErrUnknown, s.At
	}
	if err, at := r.expr(s.E); err != api.OK {
		return err, at
	}
	for _, b := range s.Blocks {
		if err, at := r.block(b); err != api.OK {
			return err, at
		}
	}
	return api.OK, 0
}

// knows tells whether a statement's own names are declared.
func (r reader) knows(s api.Stmt) bool {
	switch s.Kind {
	case api.StSet:
		return r.isVariable(s.Mon, s.Name)
	case api.StCall:
		return r.isMethod(s.Mon, s.Name)
	case api.StSync, api.StWait, api.StNotify, api.StAll:
		return r.isMonitor(s.Mon)
	}
	return true
}

func (r reader) expr(e api.Expr) (api.Errno, int) {
	if e.Op == api.OpVar && !r.isVariable(e.Mon, e.Name) {
		return api.ErrUnknown, e.At
	}
	for _, kid := range e.Kids {
		if err, at := r.expr(kid); err != api.OK {
			return err, at
		}
	}
	return api.OK, 0
}
