package value_test

import (
	"fmt"
	"math"
	"math/rand/v2"
	"slices"
	"testing"

	"vigil/api"
	"vigil/parse"
	"vigil/value"
)

// What the tests of this package begin with, each made anew.

const (
	most  = math.MaxInt64
	least = math.MinInt64
	// deep is how many parts may be nested.
	deep = 1<<16 - 2
)

// declares are monitors with variables of all types, one of them without any: a.n, a.b, a.r, c.x, c.b, in this order.
const declares = "monitor a { var n : int = 4; var b : bool = true; var r : -2..3 = 1; } monitor e { } monitor c { var x : int = -7; var b : bool = false; } "

func parsed(t testing.TB, s string) api.Program {
	t.Helper()
	p, err, at := parse.Parse(s)
	if err != api.OK {
		t.Fatalf("%.300q: error %d at %d", s, err, at)
	}
	return p
}

func parsedExpr(t testing.TB, s string) api.Expr {
	t.Helper()
	e, err, at := parse.Expr(s)
	if err != api.OK {
		t.Fatalf("%.300q: error %d at %d", s, err, at)
	}
	return e
}

// wantEval holds Eval, and True with it, against what it must come to.
func wantEval(t testing.TB, what string, p api.Program, e api.Expr, vals []int64, n int64, err api.Errno) {
	t.Helper()
	if gotN, gotErr := value.Eval(p, e, vals); gotN != n || gotErr != err {
		t.Errorf("%.300s with %d: %d, error %d, want %d, %d", what, vals, gotN, gotErr, n, err)
	}
	if got := value.True(p, e, vals); got != (err == api.OK && n != 0) {
		t.Errorf("%.300s with %d: true %t, comes to %d, error %d", what, vals, got, n, err)
	}
}

// wantText is wantEval of a text, with the variables above.
func wantText(t testing.TB, s string, vals []int64, n int64, err api.Errno) {
	t.Helper()
	wantEval(t, s, parsed(t, declares), parsedExpr(t, s), vals, n, err)
}

func wantSet(t testing.TB, p api.Program, ref api.Ref, n int64, vals, want []int64, err api.Errno) {
	t.Helper()
	got, gotErr := value.Set(p, ref.Mon, ref.Name, n, vals)
	if !slices.Equal(got, want) || gotErr != err {
		t.Errorf("%s.%s = %d with %d: %d, error %d, want %d, %d", ref.Mon, ref.Name, n, vals, got, gotErr, want, err)
	}
}

// edges are numbers near 0, near the bounds, near the roots of these, and near their halves; rising.
func edges() []int64 {
	var l []int64
	for _, m := range []int64{0, 7, 3037000499, 1 << 32, 1 << 61, 1 << 62} {
		for near := int64(-2); near <= 2; near++ {
			l = append(l, m+near, -m-near)
		}
	}
	for near := range int64(3) {
		l = append(l, most-near, least+near)
	}
	slices.Sort(l)
	return slices.Compact(l)
}

// Expressions, by how many kids they have.

func leaf(op int) api.Expr { return api.Expr{Op: op} }

func number(n int64) api.Expr { return api.Expr{Op: api.OpNum, N: n} }

func variable(mon, name string) api.Expr { return api.Expr{Op: api.OpVar, Mon: mon, Name: name} }

func one(op int, kid api.Expr) api.Expr { return api.Expr{Op: op, Kids: []api.Expr{kid}} }

func two(op int, left, right api.Expr) api.Expr {
	return api.Expr{Op: op, Kids: []api.Expr{left, right}}
}

// chance makes programs, values and expressions that have a type, by a rule that is the same each time.
type chance struct {
	*rand.Rand
	p     api.Program
	edges []int64
}

func newChance(seed uint64) *chance {
	return &chance{Rand: rand.New(rand.NewPCG(seed, 11)), edges: edges()}
}

func (c *chance) number() int64 {
	switch c.IntN(4) {
	case 0:
		return c.edges[c.IntN(len(c.edges))]
	case 1:
		return int64(c.Uint64()) >> c.IntN(64)
	}
	return int64(c.IntN(9) - 4)
}

// natural is a number that may stand in a text.
func (c *chance) natural() int64 {
	if n := c.number(); n >= 0 {
		return n
	}
	return int64(c.IntN(5))
}

// program declares variables, and nothing else. Monitors have a name twice now and then, and so have variables.
func (c *chance) program() api.Program {
	c.p = api.Program{}
	for range 1 + c.IntN(4) {
		m := api.Monitor{Name: fmt.Sprint("m", c.IntN(6))}
		for range c.IntN(5) {
			v := api.Var{Name: fmt.Sprint("v", c.IntN(8)), Type: api.TyBool + c.IntN(3), Init: c.Int64N(2)}
			if v.Type == api.TyRange {
				v.Lo, v.Hi = -c.Int64N(4), c.Int64N(4)
			}
			m.Vars = append(m.Vars, v)
		}
		c.p.Mons = append(c.p.Mons, m)
	}
	return c.p
}

// values has a value of each variable that it may have.
func (c *chance) values() []int64 {
	vals := []int64{}
	for _, m := range c.p.Mons {
		for _, v := range m.Vars {
			vals = append(vals, c.value(v))
		}
	}
	return vals
}

func (c *chance) value(v api.Var) int64 {
	switch v.Type {
	case api.TyBool:
		return c.Int64N(2)
	case api.TyRange:
		return v.Lo + c.Int64N(v.Hi-v.Lo+1)
	}
	return c.number()
}

// known is a variable that is found by its name and is what it must be, if there is one.
func (c *chance) known(is int) (api.Expr, bool) {
	var all []api.Expr
	for i, m := range c.p.Mons {
		if slices.ContainsFunc(c.p.Mons[:i], func(o api.Monitor) bool { return o.Name == m.Name }) {
			continue
		}
		for k, v := range m.Vars {
			if slices.ContainsFunc(m.Vars[:k], func(o api.Var) bool { return o.Name == v.Name }) {
				continue
			}
			if (v.Type == api.TyBool) == (is == api.TyBool) {
				all = append(all, variable(m.Name, v.Name))
			}
		}
	}
	if len(all) == 0 {
		return api.Expr{}, false
	}
	return all[c.IntN(len(all))], true
}

func (c *chance) leaf(is int) api.Expr {
	v, ok := c.known(is)
	switch {
	case ok && c.IntN(3) > 0:
		return v
	case is == api.TyBool:
		return leaf(api.OpTrue + c.IntN(2))
	}
	return number(c.natural())
}

// expr is an expression that is what it must be.
func (c *chance) expr(is, depth int) api.Expr {
	if depth == 0 || c.IntN(5) == 0 {
		return c.leaf(is)
	}
	if is == api.TyInt {
		switch c.IntN(5) {
		case 0:
			return one(api.OpNeg, c.expr(is, depth-1))
		case 1:
			return api.Expr{Op: api.OpMul, N: c.natural(), Kids: []api.Expr{c.expr(is, depth-1)}}
		}
		return two(api.OpAdd+c.IntN(2), c.expr(is, depth-1), c.expr(is, depth-1))
	}
	switch c.IntN(6) {
	case 0:
		return one(api.OpNot, c.expr(is, depth-1))
	case 1, 2:
		return two(api.OpAnd+c.IntN(2), c.expr(is, depth-1), c.expr(is, depth-1))
	case 3:
		return two(api.OpEq+c.IntN(2), c.expr(is, depth-1), c.expr(is, depth-1))
	}
	return two(api.OpEq+c.IntN(6), c.expr(api.TyInt, depth-1), c.expr(api.TyInt, depth-1))
}

// either is a bool or a number, by turns.
func either(seed uint64) int { return []int{api.TyBool, api.TyInt}[seed%2] }
