package print_test

import (
	"math/rand/v2"
	"strings"

	"vigil/api"
)

// The trees that the tests of this package begin with, each made anew.

const most = 1<<63 - 1

func variable(mon, name string) api.Expr {
	return api.Expr{Op: api.OpVar, Mon: mon, Name: name}
}

func number(n int64) api.Expr {
	return api.Expr{Op: api.OpNum, N: n}
}

func of(op int, kids ...api.Expr) api.Expr {
	return api.Expr{Op: op, Kids: kids}
}

func times(n int64, kid api.Expr) api.Expr {
	return api.Expr{Op: api.OpMul, N: n, Kids: []api.Expr{kid}}
}

// with is an expression of that Op with these kids, or so many of them as it has.
func with(op int, a, b api.Expr) api.Expr {
	switch op {
	case api.OpNum:
		return number(7)
	case api.OpTrue, api.OpFalse:
		return of(op)
	case api.OpVar:
		return variable("m", "x")
	case api.OpNot, api.OpNeg:
		return of(op, a)
	case api.OpMul:
		return times(3, a)
	}
	return of(op, a, b)
}

// exprs has an ordinary expression of each Op, in their order.
func exprs() []api.Expr {
	var list []api.Expr
	for op := api.OpNum; op <= api.OpOr; op++ {
		list = append(list, with(op, variable("m", "y"), number(4)))
	}
	return list
}

// role is a program of one thread that does these.
func role(body ...api.Stmt) api.Program {
	return api.Program{Roles: []api.Role{{Name: "r", Count: 1, Body: body}}}
}

// method is a program of one method that does these.
func method(body ...api.Stmt) api.Program {
	return api.Program{Mons: []api.Monitor{{Name: "m", Methods: []api.Method{{Name: "f", Body: body}}}}}
}

func set(e api.Expr) api.Stmt {
	return api.Stmt{Kind: api.StSet, Mon: "m", Name: "x", E: e}
}

// around has, of each Kind that has blocks, a statement whose last block is the one given.
func around(body ...api.Stmt) []api.Stmt {
	return []api.Stmt{
		{Kind: api.StIf, E: of(api.OpTrue), Blocks: [][]api.Stmt{body}},
		{Kind: api.StIf, E: of(api.OpTrue), Blocks: [][]api.Stmt{nil, body}},
		{Kind: api.StWhile, E: of(api.OpTrue), Blocks: [][]api.Stmt{body}},
		{Kind: api.StLoop, Blocks: [][]api.Stmt{body}},
		{Kind: api.StChoose, Blocks: [][]api.Stmt{body}},
		{Kind: api.StChoose, Blocks: [][]api.Stmt{nil, nil, body}},
		{Kind: api.StSync, Mon: "m", Blocks: [][]api.Stmt{body}},
	}
}

// stmts has ordinary statements of each Kind.
func stmts() []api.Stmt {
	list := []api.Stmt{
		{Kind: api.StSkip},
		set(of(api.OpAdd, variable("m", "x"), number(1))),
		{Kind: api.StCall, Mon: "m", Name: "put"},
		{Kind: api.StWait, Mon: "m"},
		{Kind: api.StWait, Mon: "m", N: 5},
		{Kind: api.StNotify, Mon: "m"},
		{Kind: api.StAll, Mon: "m"},
	}
	return append(append(list, around()...), around(list...)...)
}

// program is one with all Types, Kinds and Ops, some of them deep inside.
func program() api.Program {
	body := stmts()
	for _, e := range exprs() {
		body = append(body, api.Stmt{Kind: api.StWhile, E: of(api.OpNot, e), Blocks: [][]api.Stmt{{set(e)}}})
	}
	vars := []api.Var{
		{Name: "b", Type: api.TyBool, Init: 1},
		{Name: "c", Type: api.TyBool},
		{Name: "x", Type: api.TyInt, Init: -9},
		{Name: "y", Type: api.TyRange, Lo: -3, Hi: 4, Init: 2},
	}
	return api.Program{
		Mons: []api.Monitor{
			{Name: "m", Vars: vars, Methods: []api.Method{{Name: "put", Body: body}, {Name: "get"}}},
			{Name: "n"},
		},
		Roles: []api.Role{
			{Name: "one", Count: 1, Body: []api.Stmt{{Kind: api.StCall, Mon: "m", Name: "get"}}},
			{Name: "any", Star: true, Body: stmts()},
		},
	}
}

// chance makes trees by a rule that is the same each time.
type chance struct{ *rand.Rand }

func newChance(seed uint64) chance { return chance{rand.New(rand.NewPCG(seed, 3))} }

func (c chance) name() string {
	return []string{"a", "m", "x", "If", "x_9", "Z", strings.Repeat("n", api.MaxName)}[c.IntN(7)]
}

func (c chance) number() int64 {
	return []int64{0, 1, 2, 10, 1 << 40, most}[c.IntN(6)]
}

func (c chance) whole() int64 {
	return c.number() * int64(1-2*c.IntN(2))
}

func (c chance) expr(depth int) api.Expr {
	op := api.OpNum + c.IntN(api.OpOr)
	if depth == 0 {
		op = api.OpNum + c.IntN(api.OpVar)
	}
	switch op {
	case api.OpNum:
		return number(c.number())
	case api.OpTrue, api.OpFalse:
		return of(op)
	case api.OpVar:
		return variable(c.name(), c.name())
	case api.OpNot, api.OpNeg:
		return of(op, c.expr(depth-1))
	case api.OpMul:
		return times(c.number(), c.expr(depth-1))
	}
	return of(op, c.expr(depth-1), c.expr(depth-1))
}

func (c chance) block(depth int) []api.Stmt {
	var list []api.Stmt
	for range c.IntN(4) {
		list = append(list, c.stmt(depth))
	}
	return list
}

func (c chance) stmt(depth int) api.Stmt {
	s := api.Stmt{Kind: api.StSkip + c.IntN(api.StAll)}
	blocks := 0
	switch s.Kind {
	case api.StIf:
		blocks = 1 + c.IntN(2)
	case api.StWhile, api.StLoop, api.StSync:
		blocks = 1
	case api.StChoose:
		blocks = 1 + c.IntN(api.MaxBranch)
	}
	if blocks > 0 && depth == 0 {
		return api.Stmt{Kind: api.StSkip}
	}
	for range blocks {
		s.Blocks = append(s.Blocks, c.block(depth-1))
	}
	switch s.Kind {
	case api.StSet, api.StIf, api.StWhile:
		s.E = c.expr(3)
	}
	switch s.Kind {
	case api.StSet, api.StCall:
		s.Name = c.name()
	case api.StWait:
		s.N = c.number()
	}
	switch s.Kind {
	case api.StSet, api.StCall, api.StSync, api.StWait, api.StNotify, api.StAll:
		s.Mon = c.name()
	}
	return s
}

func (c chance) variable() api.Var {
	v := api.Var{Name: c.name(), Type: api.TyBool + c.IntN(3), Init: c.whole()}
	switch v.Type {
	case api.TyBool:
		v.Init = int64(c.IntN(2))
	case api.TyRange:
		v.Lo, v.Hi = c.whole(), c.whole()
		v.Lo, v.Hi = min(v.Lo, v.Hi), max(v.Lo, v.Hi)
	}
	return v
}

func (c chance) program() api.Program {
	p := api.Program{}
	for range c.IntN(3) {
		m := api.Monitor{Name: c.name()}
		for range c.IntN(4) {
			m.Vars = append(m.Vars, c.variable())
		}
		for range c.IntN(3) {
			m.Methods = append(m.Methods, api.Method{Name: c.name(), Body: c.block(2)})
		}
		p.Mons = append(p.Mons, m)
	}
	for range c.IntN(3) {
		r := api.Role{Name: c.name(), Star: c.IntN(2) == 0, Body: c.block(2)}
		if !r.Star {
			r.Count = c.number()
		}
		p.Roles = append(p.Roles, r)
	}
	return p
}
