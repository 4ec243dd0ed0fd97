package value_test

import (
	"fmt"
	"reflect"
	"slices"
	"testing"

	"vigil/api"
	"vigil/tree"
	"vigil/value"
)

// asBit is what a bool comes to.
func asBit(is bool) int64 {
	if is {
		return 1
	}
	return 0
}

// TestLogic: P11.5: not, and, or do as they must, of bools that are variables and of those that are constants.
func TestLogic(t *testing.T) {
	p := parsed(t, "monitor a { var x : bool = true; var y : bool = true; }")
	for _, x := range []bool{false, true} {
		for _, y := range []bool{false, true} {
			vals := []int64{asBit(x), asBit(y)}
			constants := [2]api.Expr{leaf(api.OpFalse), leaf(api.OpTrue)}
			for _, left := range []api.Expr{variable("a", "x"), constants[asBit(x)]} {
				wantEval(t, "not", p, one(api.OpNot, left), vals, asBit(!x), api.OK)
				for _, right := range []api.Expr{variable("a", "y"), constants[asBit(y)]} {
					wantEval(t, "and", p, two(api.OpAnd, left, right), vals, asBit(x && y), api.OK)
					wantEval(t, "or", p, two(api.OpOr, left, right), vals, asBit(x || y), api.OK)
					wantEval(t, "like", p, two(api.OpEq, left, right), vals, asBit(x == y), api.OK)
					wantEval(t, "unlike", p, two(api.OpNe, left, right), vals, asBit(x != y), api.OK)
				}
			}
		}
	}
}

// TestRulesOfLogic: P11.5, of bools that were made at random and are there: all of them come to 0 or 1, and the rules of not, and, or hold.
func TestRulesOfLogic(t *testing.T) {
	there := 0
	for seed := range uint64(20000) {
		c := newChance(seed)
		p := c.program()
		vals := c.values()
		var kids [3]api.Expr
		var n [3]int64
		ok := true
		for i := range kids {
			var err api.Errno
			kids[i] = c.expr(api.TyBool, 3)
			n[i], err = value.Eval(p, kids[i], vals)
			ok = ok && err == api.OK
		}
		if !ok {
			continue
		}
		there++
		a, b, d := kids[0], kids[1], kids[2]
		not := func(e api.Expr) api.Expr { return one(api.OpNot, e) }
		what := fmt.Sprintf("seed %d", seed)
		for i := range kids {
			if n[i] != 0 && n[i] != 1 {
				t.Errorf("%s: a bool comes to %d", what, n[i])
			}
			wantEval(t, what, p, not(kids[i]), vals, 1-n[i], api.OK)
			wantEval(t, what, p, not(not(kids[i])), vals, n[i], api.OK)
			wantEval(t, what, p, two(api.OpAnd, kids[i], not(kids[i])), vals, 0, api.OK)
			wantEval(t, what, p, two(api.OpOr, kids[i], not(kids[i])), vals, 1, api.OK)
		}
		both, some := min(n[0], n[1]), max(n[0], n[1])
		for _, l := range [][2]api.Expr{{a, b}, {b, a}} {
			wantEval(t, what, p, two(api.OpAnd, l[0], l[1]), vals, both, api.OK)
			wantEval(t, what, p, two(api.OpOr, l[0], l[1]), vals, some, api.OK)
			wantEval(t, what, p, not(two(api.OpOr, not(l[0]), not(l[1]))), vals, both, api.OK)
			wantEval(t, what, p, not(two(api.OpAnd, not(l[0]), not(l[1]))), vals, some, api.OK)
		}
		wantEval(t, what, p, two(api.OpAnd, a, two(api.OpOr, b, d)), vals, min(n[0], max(n[1], n[2])), api.OK)
		wantEval(t, what, p, two(api.OpOr, two(api.OpAnd, a, b), two(api.OpAnd, a, d)), vals, min(n[0], max(n[1], n[2])), api.OK)
	}
	if there < 5000 {
		t.Errorf("%d times", there)
	}
}

// opposites are each comparison, and the one that is so just where it is not.
func opposites() [][2]int {
	return [][2]int{{api.OpEq, api.OpNe}, {api.OpLt, api.OpGe}, {api.OpLe, api.OpGt}}
}

// wantOpposite: one of two comparisons that are opposites is so, and the other is not.
func wantOpposite(t *testing.T, what string, p api.Program, ops [2]int, left, right api.Expr, vals []int64) {
	t.Helper()
	first, err := value.Eval(p, two(ops[0], left, right), vals)
	second, otherErr := value.Eval(p, two(ops[1], left, right), vals)
	if err != otherErr || err == api.OK && first+second != 1 || err != api.OK && first+second != 0 {
		t.Errorf("%s, Ops %d: %d, error %d and %d, error %d", what, ops, first, err, second, otherErr)
	}
	if value.True(p, two(api.OpAnd, two(ops[0], left, right), two(ops[1], left, right)), vals) {
		t.Errorf("%s, Ops %d: both are so", what, ops)
	}
}

// TestOpposites: P11.5: a comparison and its opposite are never both, at every two of the edges, and of what was made at random.
func TestOpposites(t *testing.T) {
	p := parsed(t, "monitor a { var x : int = 0; var y : int = 0; }")
	for _, a := range edges() {
		for _, b := range edges() {
			for _, ops := range opposites() {
				wantOpposite(t, fmt.Sprint(a, " and ", b), p, ops, variable("a", "x"), variable("a", "y"), []int64{a, b})
			}
		}
	}
	for seed := range uint64(5000) {
		c := newChance(seed)
		p := c.program()
		vals := c.values()
		left, right := c.expr(api.TyInt, 3), c.expr(api.TyInt, 3)
		for _, ops := range opposites() {
			wantOpposite(t, fmt.Sprint("seed ", seed), p, ops, left, right, vals)
		}
		wantOpposite(t, fmt.Sprint("seed ", seed), p, opposites()[0], c.expr(api.TyBool, 3), c.expr(api.TyBool, 3), vals)
	}
}

// TestNotRead: P11.6: whatever the values of variables that do not stand in an expression, it comes to the same.
func TestNotRead(t *testing.T) {
	changed := 0
	for seed := range uint64(10000) {
		c := newChance(seed)
		p := c.program()
		vals := c.values()
		e := c.expr(either(seed), 3)
		n, err := value.Eval(p, e, vals)
		read := map[int]bool{}
		slots := places(p)
		for _, name := range tree.Reads(e) {
			read[slots[name]] = true
		}
		for range 4 {
			other := slices.Clone(vals)
			for i := range other {
				if !read[i] {
					other[i] = c.number()
				}
			}
			changed += int(asBit(!slices.Equal(other, vals)))
			wantEval(t, fmt.Sprint("seed ", seed), p, e, other, n, err)
		}
	}
	if changed < 10000 {
		t.Errorf("changed %d times", changed)
	}
}

// TestNothingChanges: what is handed in stays as it is, its spare room too, and what is answered is the caller's own; the same is told each time.
func TestNothingChanges(t *testing.T) {
	for seed := range uint64(500) {
		c, d := newChance(seed), newChance(seed)
		p, e := c.program(), c.expr(either(seed), 4)
		vals := c.values()
		room := append(slices.Clone(vals), 77, 78)
		given := room[:len(vals)]
		n, err := value.Eval(p, e, given)
		first := value.First(p)
		for range 3 {
			wantEval(t, fmt.Sprint("seed ", seed), p, e, given, n, err)
			for _, m := range p.Mons {
				for _, v := range m.Vars {
					spoil(value.First(p))
					set, _ := value.Set(p, m.Name, v.Name, 1, given)
					spoil(set)
				}
			}
		}
		if !slices.Equal(value.First(p), first) || !slices.Equal(room, append(slices.Clone(vals), 77, 78)) {
			t.Fatalf("seed %d: values have changed", seed)
		}
		if !reflect.DeepEqual(p, d.program()) || !reflect.DeepEqual(e, d.expr(either(seed), 4)) {
			t.Fatalf("seed %d: what was handed in has changed", seed)
		}
	}
}

// spoil writes all over a list, its spare room too.
func spoil(l []int64) {
	l = l[:cap(l)]
	for i := range l {
		l[i] = -99
	}
}

// TestPlaces: nothing hangs on At.
func TestPlaces(t *testing.T) {
	for seed := range uint64(500) {
		c := newChance(seed)
		p := c.program()
		e, vals := c.expr(either(seed), 4), c.values()
		n, err := value.Eval(p, e, vals)
		wantEval(t, fmt.Sprint("seed ", seed), p, placed(e, c), vals, n, err)
	}
}

func placed(e api.Expr, c *chance) api.Expr {
	e.At = int(c.number())
	e.Kids = slices.Clone(e.Kids)
	for i := range e.Kids {
		e.Kids[i] = placed(e.Kids[i], c)
	}
	return e
}
