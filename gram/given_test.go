package gram_test

import (
	"math/rand/v2"
	"slices"
	"strconv"
	"strings"
	"testing"

	"vigil/api"
	"vigil/gram"
	"vigil/lex"
)

// What the tests of this package begin with, each made anew.

const (
	most   = 1<<63 - 1
	lowest = -1 << 63
)

func variable(mon, name string) api.Expr {
	return api.Expr{Op: api.OpVar, Mon: mon, Name: name}
}

func number(n int64) api.Expr {
	return api.Expr{Op: api.OpNum, N: n}
}

func of(op int, kids ...api.Expr) api.Expr {
	return api.Expr{Op: op, Kids: kids}
}

func times(n int64, kid api.Expr) api.Expr {
	return api.Expr{Op: api.OpMul, N: n, Kids: []api.Expr{kid}}
}

// role is a program whose only role does that.
func role(list ...api.Stmt) api.Program {
	return api.Program{Roles: []api.Role{{Name: "r", Star: true, Body: list}}}
}

// declaring is a program whose only monitor has these variables.
func declaring(list ...api.Var) api.Program {
	return api.Program{Mons: []api.Monitor{{Name: "m", Vars: list}}}
}

// scan is the tokens of a text that has no error.
func scan(t testing.TB, s string) []api.Token {
	t.Helper()
	l, err, at := lex.Scan(s)
	if err != api.OK {
		t.Fatalf("%.300q: error %d at %d", s, err, at)
	}
	return l
}

func want(t testing.TB, s string, p api.Program, want bool) {
	t.Helper()
	if got := gram.Derives(scan(t, s), p); got != want {
		t.Errorf("%.300q derives %+v: %v", s, p, got)
	}
}

func wantExpr(t testing.TB, s string, e api.Expr, want bool) {
	t.Helper()
	if got := gram.DerivesExpr(scan(t, s), e); got != want {
		t.Errorf("%.300q derives %+v: %v", s, e, got)
	}
}

// samples are programs with all that the grammar has.
func samples() []string {
	return []string{
		"",
		"monitor B { var full : bool = false; var n : -2..3 = -0; var k : int = -7; method put { while B.full { wait B; } B.full = true; notifyall B; } method none { } }\nthread p * { loop { call B.put; } }\n",
		"thread a 2 { sync M { if !(M.x - 2 * -M.y <= 4) && M.b || false { wait M 10; } else { notify M; } } }\nmonitor M { var b : bool = true; }\nthread z 0 { choose { skip; } or { } or { M.x = M.x + 1 == 2; } }",
		"thread t 1 { if a.b == c.d { if 1 < 2 { } else { } } while true != (!a.b) { skip; } } # a note\nmonitor M { } monitor N { method f { } }",
		"thread t 1 { a.b = ((1)) - (a.c + 3 > 4) - -5 * 6; a.b = !!a.c && (!a.d || a.e >= 0) && 1 * 2 * 3 < a.f; }",
	}
}

// chance makes trees by a rule that is the same each time.
type chance struct{ *rand.Rand }

func newChance(seed uint64) chance { return chance{rand.New(rand.NewPCG(seed, 5))} }

func (c chance) name() string {
	return []string{"a", "m", "x", "If", "x_9", "Z", strings.Repeat("n", api.MaxName)}[c.IntN(7)]
}

func (c chance) number() int64 {
	return []int64{0, 1, 2, 10, 1 << 40, most}[c.IntN(6)]
}

func (c chance) whole() int64 {
	return c.number() * int64(1-2*c.IntN(2))
}

func (c chance) expr(depth int) api.Expr {
	op := api.OpNum + c.IntN(api.OpOr)
	if depth == 0 {
		op = api.OpNum + c.IntN(api.OpVar)
	}
	switch op {
	case api.OpNum:
		return number(c.number())
	case api.OpTrue, api.OpFalse:
		return of(op)
	case api.OpVar:
		return variable(c.name(), c.name())
	case api.OpNot, api.OpNeg:
		return of(op, c.expr(depth-1))
	case api.OpMul:
		return times(c.number(), c.expr(depth-1))
	}
	return of(op, c.expr(depth-1), c.expr(depth-1))
}

// tower is an expression of so many levels, one kid of each being a tower.
func (c chance) tower(levels int) api.Expr {
	e := c.expr(0)
	for range levels {
		switch op := api.OpNot + c.IntN(api.OpOr-api.OpVar); {
		case op <= api.OpNeg:
			e = of(op, e)
		case op == api.OpMul:
			e = times(c.number(), e)
		case c.IntN(3) == 0:
			e = of(op, c.expr(1), e)
		default:
			e = of(op, e, c.expr(1))
		}
	}
	return e
}

func (c chance) block(depth int) []api.Stmt {
	var list []api.Stmt
	for range c.IntN(4) {
		list = append(list, c.stmt(depth))
	}
	return list
}

func (c chance) stmt(depth int) api.Stmt {
	s := api.Stmt{Kind: api.StSkip + c.IntN(api.StAll)}
	blocks := 0
	switch s.Kind {
	case api.StIf:
		blocks = 1 + c.IntN(2)
	case api.StWhile, api.StLoop, api.StSync:
		blocks = 1
	case api.StChoose:
		blocks = 1 + c.IntN(api.MaxBranch)
	}
	if blocks > 0 && depth == 0 {
		return api.Stmt{Kind: api.StSkip}
	}
	for range blocks {
		s.Blocks = append(s.Blocks, c.block(depth-1))
	}
	switch s.Kind {
	case api.StSet, api.StIf, api.StWhile:
		s.E = c.expr(3)
	}
	switch s.Kind {
	case api.StSet, api.StCall:
		s.Name = c.name()
	case api.StWait:
		s.N = c.number()
	}
	switch s.Kind {
	case api.StSet, api.StCall, api.StSync, api.StWait, api.StNotify, api.StAll:
		s.Mon = c.name()
	}
	return s
}

func (c chance) variable() api.Var {
	v := api.Var{Name: c.name(), Type: api.TyBool + c.IntN(3), Init: c.whole()}
	switch v.Type {
	case api.TyBool:
		v.Init = int64(c.IntN(2))
	case api.TyRange:
		v.Lo, v.Hi = c.whole(), c.whole()
		v.Lo, v.Hi = min(v.Lo, v.Hi), max(v.Lo, v.Hi)
	}
	return v
}

func (c chance) program() api.Program {
	p := api.Program{}
	for range c.IntN(3) {
		m := api.Monitor{Name: c.name()}
		for range c.IntN(4) {
			m.Vars = append(m.Vars, c.variable())
		}
		for range c.IntN(3) {
			m.Methods = append(m.Methods, api.Method{Name: c.name(), Body: c.block(2)})
		}
		p.Mons = append(p.Mons, m)
	}
	for range c.IntN(3) {
		r := api.Role{Name: c.name(), Star: c.IntN(2) == 0, Body: c.block(2)}
		if !r.Star {
			r.Count = c.number()
		}
		p.Roles = append(p.Roles, r)
	}
	return p
}

// writer writes trees as tokens, with parentheses that need not be there. What does not count of a token it takes as it comes.
type writer struct {
	chance
	tokens []api.Token
}

func (w *writer) put(kind int, text string, n int64) {
	w.tokens = append(w.tokens, api.Token{Kind: kind, Text: text, N: n, At: w.IntN(9) - 4})
}

func (w *writer) word(text string) { w.put(api.TkWord, text, int64(w.IntN(3))) }

func (w *writer) name(text string) { w.put(api.TkName, text, int64(w.IntN(3))) }

func (w *writer) num(n int64) { w.put(api.TkNum, strconv.Itoa(w.IntN(3)), n) }

func (w *writer) signs(texts ...string) {
	for _, text := range texts {
		w.put(api.TkSign, text, int64(w.IntN(3)))
	}
}

// done is all that was written, and the end.
func (w *writer) done() []api.Token {
	w.put(api.TkEnd, []string{"", "}", "end"}[w.IntN(3)], int64(w.IntN(3)))
	return slices.Clip(w.tokens)
}

// whole writes an int as it stands in texts, or, at times, the other way round: its token has the sign.
func (w *writer) whole(n int64) {
	minus := n < 0 || n == 0 && w.IntN(2) == 0
	if minus != (w.IntN(4) == 0) {
		w.signs("-")
		n = -n
	}
	w.num(n)
}

// written has of each Op with kids its sign, its level, and those of its kids.
var written = map[int]struct {
	sign               string
	own, first, second int
}{
	api.OpNot: {"!", 3, 3, 0}, api.OpNeg: {"-", 6, 6, 0}, api.OpMul: {"*", 6, 6, 0}, api.OpAdd: {"+", 5, 5, 6}, api.OpSub: {"-", 5, 5, 6},
	api.OpEq: {"==", 4, 5, 5}, api.OpNe: {"!=", 4, 5, 5}, api.OpLt: {"<", 4, 5, 5}, api.OpLe: {"<=", 4, 5, 5}, api.OpGt: {">", 4, 5, 5}, api.OpGe: {">=", 4, 5, 5},
	api.OpAnd: {"&&", 2, 2, 3}, api.OpOr: {"||", 1, 1, 2},
}

func (w *writer) expr(e api.Expr, level int) {
	sign, ok := written[e.Op]
	if ok && sign.own < level || w.IntN(4) == 0 {
		w.signs("(")
		w.expr(e, 1)
		w.signs(")")
		return
	}
	switch e.Op {
	case api.OpNum:
		w.num(e.N)
	case api.OpTrue, api.OpFalse:
		w.word(strconv.FormatBool(e.Op == api.OpTrue))
	case api.OpVar:
		w.path(e.Mon, e.Name)
	case api.OpMul:
		w.num(e.N)
		w.signs(sign.sign)
		w.expr(e.Kids[0], sign.first)
	case api.OpNot, api.OpNeg:
		w.signs(sign.sign)
		w.expr(e.Kids[0], sign.first)
	default:
		w.expr(e.Kids[0], sign.first)
		w.signs(sign.sign)
		w.expr(e.Kids[1], sign.second)
	}
}

func (w *writer) path(mon, name string) {
	w.name(mon)
	w.signs(".")
	w.name(name)
}

func (w *writer) block(list []api.Stmt) {
	w.signs("{")
	for _, s := range list {
		w.stmt(s)
	}
	w.signs("}")
}

func (w *writer) stmt(s api.Stmt) {
	words := []string{api.StSkip: "skip", api.StSet: "", api.StIf: "if", api.StWhile: "while", api.StLoop: "loop", api.StChoose: "choose", api.StSync: "sync", api.StCall: "call", api.StWait: "wait", api.StNotify: "notify", api.StAll: "notifyall"}
	if s.Kind != api.StSet {
		w.word(words[s.Kind])
	}
	switch s.Kind {
	case api.StSet:
		w.path(s.Mon, s.Name)
		w.signs("=")
		w.expr(s.E, 1)
	case api.StIf, api.StWhile:
		w.expr(s.E, 1)
	case api.StSync, api.StNotify, api.StAll, api.StWait:
		w.name(s.Mon)
	case api.StCall:
		w.path(s.Mon, s.Name)
	}
	if s.N > 0 {
		w.num(s.N)
	}
	if len(s.Blocks) == 0 {
		w.signs(";")
	}
	for i, b := range s.Blocks {
		if i > 0 {
			w.word(map[int]string{api.StIf: "else", api.StChoose: "or"}[s.Kind])
		}
		w.block(b)
	}
}

func (w *writer) variable(v api.Var) {
	w.word("var")
	w.name(v.Name)
	w.signs(":")
	switch v.Type {
	case api.TyBool:
		w.word("bool")
		w.signs("=")
		w.word(strconv.FormatBool(v.Init == 1))
		w.signs(";")
		return
	case api.TyInt:
		w.word("int")
	case api.TyRange:
		w.whole(v.Lo)
		w.signs("..")
		w.whole(v.Hi)
	}
	w.signs("=")
	w.whole(v.Init)
	w.signs(";")
}

func (w *writer) monitor(m api.Monitor) {
	w.word("monitor")
	w.name(m.Name)
	w.signs("{")
	for _, v := range m.Vars {
		w.variable(v)
	}
	for _, f := range m.Methods {
		w.word("method")
		w.name(f.Name)
		w.block(f.Body)
	}
	w.signs("}")
}

func (w *writer) role(r api.Role) {
	w.word("thread")
	w.name(r.Name)
	if r.Star {
		w.signs("*")
	} else {
		w.num(r.Count)
	}
	w.block(r.Body)
}

// program writes monitors and threads in any order among each other.
func (w *writer) program(p api.Program) {
	for len(p.Mons)+len(p.Roles) > 0 {
		if len(p.Roles) == 0 || len(p.Mons) > 0 && w.IntN(2) == 0 {
			w.monitor(p.Mons[0])
			p.Mons = p.Mons[1:]
		} else {
			w.role(p.Roles[0])
			p.Roles = p.Roles[1:]
		}
	}
}
