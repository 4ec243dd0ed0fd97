package parse

import "vigil/api"

func (r *reader) program() api.Program {
	var p api.Program
	for {
		switch {
		case r.sees("monitor"):
			p.Mons = oneMore(r, p.Mons, api.MaxMons, r.monitor)
		case r.sees("thread"):
			p.Roles = oneMore(r, p.Roles, api.MaxRoles, r.role)
		default:
			return p
		}
	}
}

// monitor reads one, behind its word, as do the others that are declared.
func (r *reader) monitor() api.Monitor {
	name, at := r.declared()
	m := enclosed(r, "{", r.members, "}")
	m.Name, m.At = name, at
	return m
}

// members is a monitor that has no name yet.
func (r *reader) members() api.Monitor {
	var m api.Monitor
	m.Vars = several(r, m.Vars, "var", api.MaxVars, r.variable)
	m.Methods = several(r, m.Methods, "method", api.MaxMeths, r.method)
	return m
}

func (r *reader) method() api.Method {
	name, at := r.declared()
	return api.Method{Name: name, Body: r.block(), At: at}
}

func (r *reader) role() api.Role {
	name, at := r.declared()
	role := api.Role{Name: name, At: at}
	if r.sees("*") {
		r.pass()
		role.Star = true
	} else {
		role.Count = r.number()
	}
	role.Body = r.block()
	return role
}

func (r *reader) variable() api.Var {
	name, at := r.declared()
	r.want(":")
	v := r.typed()
	r.want(";")
	v.Name, v.At = name, at
	return v
}

// typed is a variable that has no name yet: its type and its first value.
func (r *reader) typed() api.Var {
	var v api.Var
	switch {
	case r.sees("bool"):
		r.pass()
		v.Type = api.TyBool
		r.want("=")
		v.Init = r.truth()
		return v
	case r.sees("int"):
		r.pass()
		v.Type = api.TyInt
	default:
		v.Type = api.TyRange
		v.Lo, v.Hi = r.bounds()
	}
	r.want("=")
	v.Init = r.integer()
	return v
}

// truth is 1 of true, 0 of false.
func (r *reader) truth() int64 {
	if r.sees("true") {
		r.pass()
		return 1
	}
	r.want("false")
	return 0
}

// bounds is a range. That it ends below its beginning is seen behind it, but told where the second number begins.
func (r *reader) bounds() (int64, int64) {
	lo := r.integer()
	r.want("..")
	at := r.token().At
	hi := r.integer()
	if hi < lo {
		r.fail(api.ErrSyntax, at)
	}
	return lo, hi
}

func (r *reader) integer() int64 {
	if r.sees("-") {
		r.pass()
		return -r.number()
	}
	return r.number()
}
