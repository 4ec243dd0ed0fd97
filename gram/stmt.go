package gram

import "vigil/api"

// block is made when it is asked for, so that no more of a program is laid out than there are tokens for.
func (t *tape) block(list []api.Stmt) part {
	return func(from int) ends {
		parts := []part{t.sign("{")}
		for _, s := range list {
			parts = append(parts, t.stmt(s))
		}
		parts = append(parts, t.sign("}"))
		return row(parts...)(from)
	}
}

// blocks are blocks with a word between two.
func (t *tape) blocks(word string, list [][]api.Stmt) part {
	var parts []part
	for i, b := range list {
		if i > 0 {
			parts = append(parts, t.word(word))
		}
		parts = append(parts, t.block(b))
	}
	return row(parts...)
}

func (t *tape) stmt(s api.Stmt) part {
	return func(from int) ends {
		if len(s.Blocks) > 0 {
			return t.compound(s)(from)
		}
		return row(t.simple(s), t.sign(";"))(from)
	}
}

// simple is a statement without blocks, but for the ; at its end.
func (t *tape) simple(s api.Stmt) part {
	switch s.Kind {
	case api.StSet:
		return row(t.path(s.Mon, s.Name), t.sign("="), t.expr(s.E))
	case api.StCall:
		return row(t.word("call"), t.path(s.Mon, s.Name))
	case api.StWait:
		return t.wait(s)
	case api.StNotify:
		return row(t.word("notify"), t.name(s.Mon))
	case api.StAll:
		return row(t.word("notifyall"), t.name(s.Mon))
	}
	return t.word("skip")
}

// wait has no number where it is 0: no 0 is written there.
func (t *tape) wait(s api.Stmt) part {
	until := row(t.word("wait"), t.name(s.Mon))
	if s.N == 0 {
		return until
	}
	return row(until, t.num(s.N))
}

// compound is a statement with blocks.
func (t *tape) compound(s api.Stmt) part {
	switch s.Kind {
	case api.StIf:
		return row(t.word("if"), t.expr(s.E), t.blocks("else", s.Blocks))
	case api.StWhile:
		return row(t.word("while"), t.expr(s.E), t.block(s.Blocks[0]))
	case api.StSync:
		return row(t.word("sync"), t.name(s.Mon), t.block(s.Blocks[0]))
	case api.StLoop:
		return row(t.word("loop"), t.block(s.Blocks[0]))
	}
	return row(t.word("choose"), t.blocks("or", s.Blocks))
}
