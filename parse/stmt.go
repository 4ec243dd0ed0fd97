package parse

import "vigil/api"

func (r *reader) block() []api.Stmt { return enclosed(r, "{", r.stmts, "}") }

func (r *reader) stmts() []api.Stmt {
	var list []api.Stmt
	for read := r.stmt(); read != nil; read = r.stmt() {
		at := r.token().At
		s := read()
		s.At = at
		list = append(list, s)
	}
	return list
}

// stmt is who reads the statement that begins at the next token; nil, if none does.
func (r *reader) stmt() func() api.Stmt {
	t := r.token()
	if t.Kind == api.TkName {
		return r.set
	}
	switch t.Text {
	case "skip":
		return r.skip
	case "if":
		return r.branch
	case "while":
		return r.while
	case "loop":
		return r.loop
	case "choose":
		return r.choose
	case "sync":
		return r.sync
	case "call":
		return r.call
	case "wait":
		return r.wait
	case "notify":
		return r.notify
	case "notifyall":
		return r.notifyAll
	}
	return nil
}

func (r *reader) skip() api.Stmt {
	r.want("skip")
	r.want(";")
	return api.Stmt{Kind: api.StSkip}
}

func (r *reader) set() api.Stmt {
	s := api.Stmt{Kind: api.StSet}
	s.Mon, s.Name = r.path()
	r.want("=")
	s.E = r.expr()
	r.want(";")
	return s
}

func (r *reader) branch() api.Stmt {
	r.want("if")
	s := api.Stmt{Kind: api.StIf, E: r.expr()}
	s.Blocks = append(s.Blocks, r.block())
	if r.sees("else") {
		r.pass()
		s.Blocks = append(s.Blocks, r.block())
	}
	return s
}

func (r *reader) while() api.Stmt {
	r.want("while")
	s := api.Stmt{Kind: api.StWhile, E: r.expr()}
	s.Blocks = [][]api.Stmt{r.block()}
	return s
}

func (r *reader) loop() api.Stmt {
	r.want("loop")
	return api.Stmt{Kind: api.StLoop, Blocks: [][]api.Stmt{r.block()}}
}

// choose takes its own word as the one ahead of its first block.
func (r *reader) choose() api.Stmt {
	s := api.Stmt{Kind: api.StChoose}
	s.Blocks = oneMore(r, s.Blocks, api.MaxBranch, r.block)
	s.Blocks = several(r, s.Blocks, "or", api.MaxBranch, r.block)
	return s
}

func (r *reader) sync() api.Stmt {
	r.want("sync")
	s := api.Stmt{Kind: api.StSync, Mon: r.name()}
	s.Blocks = [][]api.Stmt{r.block()}
	return s
}

func (r *reader) call() api.Stmt {
	r.want("call")
	s := api.Stmt{Kind: api.StCall}
	s.Mon, s.Name = r.path()
	r.want(";")
	return s
}

func (r *reader) wait() api.Stmt {
	r.want("wait")
	s := api.Stmt{Kind: api.StWait, Mon: r.name()}
	if t := r.token(); t.Kind == api.TkNum {
		s.N = r.number()
		if s.N == 0 {
			r.fail(api.ErrSyntax, t.At)
		}
	}
	r.want(";")
	return s
}

func (r *reader) notify() api.Stmt {
	r.want("notify")
	s := api.Stmt{Kind: api.StNotify, Mon: r.name()}
	r.want(";")
	return s
}

func (r *reader) notifyAll() api.Stmt {
	r.want("notifyall")
	s := api.Stmt{Kind: api.StAll, Mon: r.name()}
	r.want(";")
	return s
}
