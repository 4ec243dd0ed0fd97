package types_test

import (
	"math/rand/v2"
	"strings"
	"testing"

	"vigil/api"
	"vigil/parse"
	"vigil/types"
)

// What the tests of this package begin with, each made anew.

// deep is how many parts may be nested.
const deep = 1<<16 - 2

// declares are two monitors, with variables of all types. Both have an x, and these are not alike.
const declares = "monitor a { var b : bool = true; var x : bool = false; var n : 0..3 = 1; method f { } } monitor c { var x : int = -7; } "

func parsed(t testing.TB, s string) api.Program {
	t.Helper()
	p, err, at := parse.Parse(s)
	if err != api.OK {
		t.Fatalf("%.300q: error %d at %d", s, err, at)
	}
	return p
}

func parsedExpr(t testing.TB, s string) api.Expr {
	t.Helper()
	e, err, at := parse.Expr(s)
	if err != api.OK {
		t.Fatalf("%.300q: error %d at %d", s, err, at)
	}
	return e
}

func wantType(t testing.TB, what string, p api.Program, e api.Expr, is int, err api.Errno, at int) {
	t.Helper()
	if gotIs, gotErr, gotAt := types.Type(p, e); gotIs != is || gotErr != err || gotAt != at {
		t.Errorf("%.300s: type %d, error %d at %d, want %d, %d at %d", what, gotIs, gotErr, gotAt, is, err, at)
	}
}

func wantCheck(t testing.TB, what string, p api.Program, err api.Errno, at int) {
	t.Helper()
	if gotErr, gotAt := types.Check(p); gotErr != err || gotAt != at {
		t.Errorf("%.300s: %d at %d, want %d at %d", what, gotErr, gotAt, err, at)
	}
}

// unmarked is a text in which a place is marked by a @ ahead of it, without the mark, and that place.
func unmarked(s string) (string, int) {
	return strings.ReplaceAll(s, "@", ""), max(strings.Index(s, "@"), 0)
}

// wantExpr holds Type of a text, with the variables above, against a type or an error at the marked place.
func wantExpr(t testing.TB, marked string, is int, err api.Errno) {
	t.Helper()
	s, at := unmarked(marked)
	wantType(t, marked, parsed(t, declares), parsedExpr(t, s), is, err, at)
}

// wantText holds Check of a text against an error at the marked place.
func wantText(t testing.TB, marked string, err api.Errno) {
	t.Helper()
	s, at := unmarked(marked)
	wantCheck(t, marked, parsed(t, s), err, at)
}

// wantStmts is wantText of statements, with the variables above: in a role, and in a method.
func wantStmts(t testing.TB, marked string, err api.Errno) {
	t.Helper()
	wantText(t, declares+"thread t * { "+marked+" }", err)
	wantText(t, declares+"monitor d { method g { } method h { skip; "+marked+" } }", err)
}

// chance makes expressions and programs by a rule that is the same each time. One in so many of their parts is wrong.
type chance struct {
	*rand.Rand
	right int
	p     api.Program
	next  int
}

func newChance(seed uint64, right int) *chance {
	return &chance{Rand: rand.New(rand.NewPCG(seed, 7)), right: right}
}

func (c *chance) slips() bool { return c.IntN(c.right) == 0 }

// at is a place that nothing else has, none of them 0.
func (c *chance) at() int {
	c.next++
	return c.next * (1 - c.next%2*2)
}

// known is a variable that is what it must be, if there is one.
func (c *chance) known(is int) (api.Ref, bool) {
	var all []api.Ref
	for _, m := range c.p.Mons {
		for _, v := range m.Vars {
			if (v.Type == api.TyBool) == (is == api.TyBool) {
				all = append(all, api.Ref{Mon: m.Name, Name: v.Name})
			}
		}
	}
	if len(all) == 0 {
		return api.Ref{}, false
	}
	return all[c.IntN(len(all))], true
}

// leaf is an expression without kids that is what it must be.
func (c *chance) leaf(is int) api.Expr {
	ref, ok := c.known(is)
	switch {
	case c.slips() && c.IntN(2) == 0:
		return api.Expr{Op: api.OpVar, Mon: "a", Name: "nobody", At: c.at()}
	case ok && c.IntN(3) > 0:
		return api.Expr{Op: api.OpVar, Mon: ref.Mon, Name: ref.Name, At: c.at()}
	case is == api.TyBool:
		return api.Expr{Op: api.OpTrue + c.IntN(2), At: c.at()}
	}
	return api.Expr{Op: api.OpNum, N: c.Int64N(9), At: c.at()}
}

// expr is an expression that is what it must be, unless it slips.
func (c *chance) expr(is, depth int) api.Expr {
	if c.slips() {
		is = api.TyBool + api.TyInt - is
	}
	if depth == 0 || c.IntN(4) == 0 {
		return c.leaf(is)
	}
	e := api.Expr{At: c.at()}
	kids := 2
	if is == api.TyInt {
		e.Op = []int{api.OpNeg, api.OpMul, api.OpAdd, api.OpSub}[c.IntN(4)]
	} else {
		e.Op = []int{api.OpNot, api.OpEq, api.OpNe, api.OpLt, api.OpLe, api.OpGt, api.OpGe, api.OpAnd, api.OpOr}[c.IntN(9)]
		is = api.TyInt
	}
	switch e.Op {
	case api.OpEq, api.OpNe:
		is = []int{api.TyBool, api.TyInt}[c.IntN(2)]
	case api.OpAnd, api.OpOr:
		is = api.TyBool
	case api.OpNot:
		is, kids = api.TyBool, 1
	case api.OpNeg:
		kids = 1
	case api.OpMul:
		e.N, kids = c.Int64N(9), 1
	}
	for range kids {
		e.Kids = append(e.Kids, c.expr(is, depth-1))
	}
	return e
}

// stmt is a statement with an expression, or with blocks, or with both.
func (c *chance) stmt(depth int) api.Stmt {
	s := api.Stmt{At: c.at()}
	blocks := 1
	is := []int{api.TyBool, api.TyInt}[c.IntN(2)]
	ref, ok := c.known(is)
	switch k := c.IntN(6); {
	case ok && k < 2:
		s.Kind, s.Mon, s.Name, s.E, blocks = api.StSet, ref.Mon, ref.Name, c.expr(is, 3), 0
	case k < 3:
		s.Kind, s.E, blocks = api.StIf, c.expr(api.TyBool, 3), 1+c.IntN(2)
	case k < 4:
		s.Kind, s.E = api.StWhile, c.expr(api.TyBool, 3)
	case k < 5:
		s.Kind, blocks = api.StChoose, 1+c.IntN(3)
	default:
		s.Kind = api.StLoop
	}
	for range blocks {
		s.Blocks = append(s.Blocks, c.block(depth-1))
	}
	return s
}

func (c *chance) block(depth int) []api.Stmt {
	var list []api.Stmt
	if depth > 0 {
		for range c.IntN(4) {
			list = append(list, c.stmt(depth))
		}
	}
	return list
}

// variable slips more often than expressions do, of which there are more.
func (c *chance) variable(name string) api.Var {
	v := api.Var{Name: name, Type: []int{api.TyBool, api.TyInt, api.TyRange}[c.IntN(3)], Init: c.Int64N(2), At: c.at()}
	if v.Type == api.TyRange {
		v.Lo, v.Hi = -c.Int64N(3), 1+c.Int64N(3)
		if c.right < 1000 && c.IntN(6) == 0 {
			v.Init = []int64{v.Lo - 1, v.Hi + 1}[c.IntN(2)]
		}
	}
	return v
}

// program declares all that there is, and then lays the statements, which read and set it. All its names are right, unless an expression slips.
func (c *chance) program() api.Program {
	c.p = api.Program{}
	for i := range c.IntN(4) {
		m := api.Monitor{Name: string(rune('a' + i)), At: c.at()}
		for k := range c.IntN(4) {
			m.Vars = append(m.Vars, c.variable(string(rune('a'+k))))
		}
		for k := range c.IntN(3) {
			m.Methods = append(m.Methods, api.Method{Name: string(rune('s' + k)), At: c.at()})
		}
		c.p.Mons = append(c.p.Mons, m)
	}
	for i := range c.p.Mons {
		for k := range c.p.Mons[i].Methods {
			c.p.Mons[i].Methods[k].Body = c.block(3)
		}
	}
	for i := range c.IntN(3) {
		c.p.Roles = append(c.p.Roles, api.Role{Name: string(rune('a' + i)), Star: true, Body: c.block(3), At: c.at()})
	}
	return c.p
}
