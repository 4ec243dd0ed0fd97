package gram

import "vigil/api"

func (t *tape) program(p api.Program) part {
	return row(t.declared(p.Mons, p.Roles), t.end())
}

// declared is monitors and roles, each of the two in their order; which of them stand ahead of which others nobody says.
func (t *tape) declared(mons []api.Monitor, roles []api.Role) part {
	if len(mons)+len(roles) == 0 {
		return row()
	}
	return func(from int) ends {
		var ways []part
		if len(mons) > 0 {
			ways = append(ways, row(t.monitor(mons[0]), t.declared(mons[1:], roles)))
		}
		if len(roles) > 0 {
			ways = append(ways, row(t.role(roles[0]), t.declared(mons, roles[1:])))
		}
		return either(ways...)(from)
	}
}

func (t *tape) monitor(m api.Monitor) part {
	parts := []part{t.word("monitor"), t.name(m.Name), t.sign("{")}
	for _, v := range m.Vars {
		parts = append(parts, t.variable(v))
	}
	for _, f := range m.Methods {
		parts = append(parts, row(t.word("method"), t.name(f.Name), t.block(f.Body)))
	}
	return row(append(parts, t.sign("}"))...)
}

func (t *tape) role(r api.Role) part {
	count := t.sign("*")
	if !r.Star {
		count = t.num(r.Count)
	}
	return row(t.word("thread"), t.name(r.Name), count, t.block(r.Body))
}

func (t *tape) variable(v api.Var) part {
	return row(t.word("var"), t.name(v.Name), t.sign(":"), t.typed(v), t.sign(";"))
}

// typed is a variable's type, and its first value.
func (t *tape) typed(v api.Var) part {
	switch v.Type {
	case api.TyBool:
		return row(t.word("bool"), t.sign("="), t.truth(v.Init))
	case api.TyInt:
		return row(t.word("int"), t.sign("="), t.int(v.Init))
	}
	return row(t.int(v.Lo), t.sign(".."), t.int(v.Hi), t.sign("="), t.int(v.Init))
}

func (t *tape) truth(n int64) part {
	if n == 0 {
		return t.word("false")
	}
	return t.word("true")
}

// int is its number, or a - and the number with the other sign: a token's N may itself be below 0, though Scan tells no such one. (No tree has -2^63, whose other sign would be beyond 64 bits.)
func (t *tape) int(n int64) part {
	return either(t.num(n), row(t.sign("-"), t.num(-n)))
}
