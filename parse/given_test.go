package parse_test

import (
	"math/rand/v2"
	"reflect"
	"strconv"
	"strings"

	"vigil/api"
)

// What the tests of this package begin with, each made anew.

const most = 1<<63 - 1

func variable(mon, name string) api.Expr {
	return api.Expr{Op: api.OpVar, Mon: mon, Name: name}
}

func number(n int64) api.Expr {
	return api.Expr{Op: api.OpNum, N: n}
}

func of(op int, kids ...api.Expr) api.Expr {
	return api.Expr{Op: op, Kids: kids}
}

func times(n int64, kid api.Expr) api.Expr {
	return api.Expr{Op: api.OpMul, N: n, Kids: []api.Expr{kid}}
}

// samples are programs with all that the grammar has.
func samples() []string {
	return []string{
		"",
		"monitor B { var full : bool = false; var n : -2..3 = -0; var k : int = -7; method put { while B.full { wait B; } B.full = true; notifyall B; } method none { } }\nthread p * { loop { call B.put; } }\n",
		"thread a 2 { sync M { if !(M.x - 2 * -M.y <= 4) && M.b || false { wait M 10; } else { notify M; } } }\nmonitor M { var b : bool = true; }\nthread z 0 { choose { skip; } or { } or { M.x = M.x + 1 == 2; } }",
		"thread t 1 { if a.b == c.d { if 1 < 2 { } else { } } while true != !a.b { skip; } } # a note\nmonitor M { } monitor N { method f { } }",
		"thread t 1 { a.b = ((1)) - (a.c + 3 > 4) - -5 * 6; a.b = !!a.c && (!a.d || a.e >= 0) && 1 * 2 * 3 < a.f; }",
	}
}

// chance makes trees by a rule that is the same each time.
type chance struct{ *rand.Rand }

func newChance(seed uint64) chance { return chance{rand.New(rand.NewPCG(seed, 4))} }

func (c chance) name() string {
	return []string{"a", "m", "x", "If", "x_9", "Z", strings.Repeat("n", api.MaxName)}[c.IntN(7)]
}

func (c chance) number() int64 {
	return []int64{0, 1, 2, 10, 1 << 40, most}[c.IntN(6)]
}

func (c chance) whole() int64 {
	return c.number() * int64(1-2*c.IntN(2))
}

func (c chance) expr(depth int) api.Expr {
	op := api.OpNum + c.IntN(api.OpOr)
	if depth == 0 {
		op = api.OpNum + c.IntN(api.OpVar)
	}
	switch op {
	case api.OpNum:
		return number(c.number())
	case api.OpTrue, api.OpFalse:
		return of(op)
	case api.OpVar:
		return variable(c.name(), c.name())
	case api.OpNot, api.OpNeg:
		return of(op, c.expr(depth-1))
	case api.OpMul:
		return times(c.number(), c.expr(depth-1))
	}
	return of(op, c.expr(depth-1), c.expr(depth-1))
}

func (c chance) block(depth int) []api.Stmt {
	var list []api.Stmt
	for range c.IntN(4) {
		list = append(list, c.stmt(depth))
	}
	return list
}

func (c chance) stmt(depth int) api.Stmt {
	s := api.Stmt{Kind: api.StSkip + c.IntN(api.StAll)}
	blocks := 0
	switch s.Kind {
	case api.StIf:
		blocks = 1 + c.IntN(2)
	case api.StWhile, api.StLoop, api.StSync:
		blocks = 1
	case api.StChoose:
		blocks = 1 + c.IntN(api.MaxBranch)
	}
	if blocks > 0 && depth == 0 {
		return api.Stmt{Kind: api.StSkip}
	}
	for range blocks {
		s.Blocks = append(s.Blocks, c.block(depth-1))
	}
	switch s.Kind {
	case api.StSet, api.StIf, api.StWhile:
		s.E = c.expr(3)
	}
	switch s.Kind {
	case api.StSet, api.StCall:
		s.Name = c.name()
	case api.StWait:
		s.N = c.number()
	}
	switch s.Kind {
	case api.StSet, api.StCall, api.StSync, api.StWait, api.StNotify, api.StAll:
		s.Mon = c.name()
	}
	return s
}

func (c chance) variable() api.Var {
	v := api.Var{Name: c.name(), Type: api.TyBool + c.IntN(3), Init: c.whole()}
	switch v.Type {
	case api.TyBool:
		v.Init = int64(c.IntN(2))
	case api.TyRange:
		v.Lo, v.Hi = c.whole(), c.whole()
		v.Lo, v.Hi = min(v.Lo, v.Hi), max(v.Lo, v.Hi)
	}
	return v
}

func (c chance) program() api.Program {
	p := api.Program{}
	for range c.IntN(3) {
		m := api.Monitor{Name: c.name()}
		for range c.IntN(4) {
			m.Vars = append(m.Vars, c.variable())
		}
		for range c.IntN(3) {
			m.Methods = append(m.Methods, api.Method{Name: c.name(), Body: c.block(2)})
		}
		p.Mons = append(p.Mons, m)
	}
	for range c.IntN(3) {
		r := api.Role{Name: c.name(), Star: c.IntN(2) == 0, Body: c.block(2)}
		if !r.Star {
			r.Count = c.number()
		}
		p.Roles = append(p.Roles, r)
	}
	return p
}

// writer writes trees with blanks, notes and parentheses that need not be there, and notes in a tree where its parts stand.
type writer struct {
	chance
	strings.Builder
}

// put writes a token, and tells where.
func (w *writer) put(token string) int {
	if w.IntN(3) > 0 || !strings.Contains("{}();", token) {
		w.WriteString([]string{" ", "\n", "\t ", "\r\n", " #\n", "# if ( {\n", " # $ 007\n\n"}[w.IntN(7)])
	}
	at := w.Len()
	w.WriteString(token)
	if w.IntN(9) == 0 {
		w.WriteString(" ")
	}
	return at
}

func (w *writer) puts(tokens ...string) {
	for _, t := range tokens {
		w.put(t)
	}
}

func digits(n int64) string { return strconv.FormatInt(n, 10) }

// whole writes a number with or without a - ahead of it.
func (w *writer) whole(n int64) {
	if n < 0 || n == 0 && w.IntN(2) == 0 {
		w.put("-")
		n = -n
	}
	w.put(digits(n))
}

// written has of each Op with kids its sign, its level, and those of its kids.
var written = map[int]struct {
	sign               string
	own, first, second int
}{
	api.OpNot: {"!", 3, 3, 0}, api.OpNeg: {"-", 6, 6, 0}, api.OpMul: {"*", 6, 6, 0}, api.OpAdd: {"+", 5, 5, 6}, api.OpSub: {"-", 5, 5, 6},
	api.OpEq: {"==", 4, 5, 5}, api.OpNe: {"!=", 4, 5, 5}, api.OpLt: {"<", 4, 5, 5}, api.OpLe: {"<=", 4, 5, 5}, api.OpGt: {">", 4, 5, 5}, api.OpGe: {">=", 4, 5, 5},
	api.OpAnd: {"&&", 2, 2, 3}, api.OpOr: {"||", 1, 1, 2},
}

// expr writes an expression at a level.
func (w *writer) expr(e api.Expr, level int) api.Expr {
	sign, ok := written[e.Op]
	if ok && sign.own < level || w.IntN(6) == 0 {
		w.put("(")
		e = w.expr(e, 1)
		w.put(")")
		return e
	}
	e.Kids = append([]api.Expr{}, e.Kids...)
	switch e.Op {
	case api.OpNum:
		e.At = w.put(digits(e.N))
	case api.OpTrue:
		e.At = w.put("true")
	case api.OpFalse:
		e.At = w.put("false")
	case api.OpVar:
		e.At = w.put(e.Mon)
		w.puts(".", e.Name)
	case api.OpMul:
		e.At = w.put(digits(e.N))
		w.put("*")
		e.Kids[0] = w.expr(e.Kids[0], sign.first)
	case api.OpNot, api.OpNeg:
		e.At = w.put(sign.sign)
		e.Kids[0] = w.expr(e.Kids[0], sign.first)
	default:
		e.Kids[0] = w.expr(e.Kids[0], sign.first)
		e.At = e.Kids[0].At
		w.put(sign.sign)
		e.Kids[1] = w.expr(e.Kids[1], sign.second)
	}
	return e
}

func (w *writer) block(list []api.Stmt) []api.Stmt {
	var out []api.Stmt
	w.put("{")
	for _, s := range list {
		out = append(out, w.stmt(s))
	}
	w.put("}")
	return out
}

func (w *writer) stmt(s api.Stmt) api.Stmt {
	words := []string{api.StSkip: "skip", api.StSet: s.Mon, api.StIf: "if", api.StWhile: "while", api.StLoop: "loop", api.StChoose: "choose", api.StSync: "sync", api.StCall: "call", api.StWait: "wait", api.StNotify: "notify", api.StAll: "notifyall"}
	s.At = w.put(words[s.Kind])
	switch s.Kind {
	case api.StSet:
		w.puts(".", s.Name, "=")
		s.E = w.expr(s.E, 1)
	case api.StIf, api.StWhile:
		s.E = w.expr(s.E, 1)
	case api.StSync, api.StNotify, api.StAll:
		w.put(s.Mon)
	case api.StCall:
		w.puts(s.Mon, ".", s.Name)
	case api.StWait:
		w.put(s.Mon)
		if s.N > 0 {
			w.put(digits(s.N))
		}
	}
	if len(s.Blocks) == 0 {
		w.put(";")
		return s
	}
	var blocks [][]api.Stmt
	for i, b := range s.Blocks {
		if i > 0 {
			w.put(map[int]string{api.StIf: "else", api.StChoose: "or"}[s.Kind])
		}
		blocks = append(blocks, w.block(b))
	}
	s.Blocks = blocks
	return s
}

func (w *writer) variable(v api.Var) api.Var {
	w.put("var")
	v.At = w.put(v.Name)
	w.put(":")
	switch v.Type {
	case api.TyBool:
		w.puts("bool", "=", strconv.FormatBool(v.Init == 1), ";")
		return v
	case api.TyInt:
		w.put("int")
	case api.TyRange:
		w.whole(v.Lo)
		w.put("..")
		w.whole(v.Hi)
	}
	w.put("=")
	w.whole(v.Init)
	w.put(";")
	return v
}

func (w *writer) monitor(m api.Monitor) api.Monitor {
	out := api.Monitor{Name: m.Name}
	w.put("monitor")
	out.At = w.put(m.Name)
	w.put("{")
	for _, v := range m.Vars {
		out.Vars = append(out.Vars, w.variable(v))
	}
	for _, f := range m.Methods {
		w.put("method")
		f.At = w.put(f.Name)
		f.Body = w.block(f.Body)
		out.Methods = append(out.Methods, f)
	}
	w.put("}")
	return out
}

func (w *writer) role(r api.Role) api.Role {
	w.put("thread")
	r.At = w.put(r.Name)
	if r.Star {
		w.put("*")
	} else {
		w.put(digits(r.Count))
	}
	r.Body = w.block(r.Body)
	return r
}

// program writes monitors and threads in any order among each other.
func (w *writer) program(p api.Program) api.Program {
	var out api.Program
	for len(p.Mons)+len(p.Roles) > 0 {
		if len(p.Roles) == 0 || len(p.Mons) > 0 && w.IntN(2) == 0 {
			out.Mons = append(out.Mons, w.monitor(p.Mons[0]))
			p.Mons = p.Mons[1:]
		} else {
			out.Roles = append(out.Roles, w.role(p.Roles[0]))
			p.Roles = p.Roles[1:]
		}
	}
	return out
}

// eachField calls do for every field that is no list and no struct, at any depth, with its name.
func eachField(v reflect.Value, name string, do func(name string, field reflect.Value)) {
	switch v.Kind() {
	case reflect.Struct:
		for i := range v.NumField() {
			eachField(v.Field(i), v.Type().Field(i).Name, do)
		}
	case reflect.Slice:
		for i := range v.Len() {
			eachField(v.Index(i), name, do)
		}
	default:
		do(name, v)
	}
}

// places are all At of a tree, in order.
func places(tree any) []int {
	var list []int
	eachField(reflect.ValueOf(tree), "", func(name string, f reflect.Value) {
		if name == "At" {
			list = append(list, int(f.Int()))
		}
	})
	return list
}
