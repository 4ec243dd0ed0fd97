package value_test

import (
	"fmt"
	"math/big"
	"testing"

	"vigil/api"
	"vigil/value"
)

// A second reckoning: an expression is laid down as a row of commands, with jumps over what is not reckoned, that is run on a stack of whole numbers without bounds.

// command is an Op of what lies on the stack, or one of those below; with a number, and with a place in the row or among the values.
type command struct {
	what int
	n    int64
	to   int
}

const (
	push = 100 + iota
	load
	// skip0 leaves a 0 on the stack and jumps, if the top is 0; skip1 leaves a 1 and jumps, if it is not; else they take it off.
	skip0
	skip1
)

// places has the place of each variable among the values. The first one of a name holds; a monitor whose name is there already has none.
func places(p api.Program) map[string]int {
	found := map[string]int{}
	owner := map[string]int{}
	next := 0
	for i, m := range p.Mons {
		if _, ok := owner[m.Name]; !ok {
			owner[m.Name] = i
		}
		for _, v := range m.Vars {
			name := m.Name + "." + v.Name
			if _, ok := found[name]; !ok && owner[m.Name] == i {
				found[name] = next
			}
			next++
		}
	}
	return found
}

// laid is the row, with e's commands behind it.
func laid(row []command, slots map[string]int, e api.Expr) []command {
	switch e.Op {
	case api.OpNum, api.OpTrue, api.OpFalse:
		return append(row, command{what: push, n: map[int]int64{api.OpNum: e.N, api.OpTrue: 1}[e.Op]})
	case api.OpVar:
		return append(row, command{what: load, to: slots[e.Mon+"."+e.Name]})
	case api.OpAnd, api.OpOr:
		row = laid(row, slots, e.Kids[0])
		jump := len(row)
		row = append(row, command{what: map[int]int{api.OpAnd: skip0, api.OpOr: skip1}[e.Op]})
		row = laid(row, slots, e.Kids[1])
		row[jump].to = len(row)
		return row
	}
	for _, kid := range e.Kids {
		row = laid(row, slots, kid)
	}
	return append(row, command{what: e.Op, n: e.N})
}

// run tells the number that is left at the end, or ErrFault at the first one that 64 bits do not have.
func run(row []command, vals []int64) (int64, api.Errno) {
	var stack []*big.Int
	for at := 0; at < len(row); at++ {
		c, top := row[at], len(stack)-1
		switch c.what {
		case push:
			stack = append(stack, big.NewInt(c.n))
		case load:
			stack = append(stack, big.NewInt(vals[c.to]))
		case skip0, skip1:
			if (stack[top].Sign() != 0) == (c.what == skip1) {
				stack[top] = big.NewInt(int64(c.what - skip0))
				at = c.to - 1
			} else {
				stack = stack[:top]
			}
		case api.OpNot, api.OpNeg, api.OpMul:
			stack[top] = ofOne(c, stack[top])
			if !stack[top].IsInt64() {
				return 0, api.ErrFault
			}
		default:
			stack = append(stack[:top-1], ofTwo(c.what, stack[top-1], stack[top]))
			if !stack[top-1].IsInt64() {
				return 0, api.ErrFault
			}
		}
	}
	return stack[0].Int64(), api.OK
}

func ofOne(c command, n *big.Int) *big.Int {
	switch c.what {
	case api.OpNot:
		return big.NewInt(int64(1 - n.CmpAbs(new(big.Int))))
	case api.OpNeg:
		return new(big.Int).Neg(n)
	}
	return new(big.Int).Mul(big.NewInt(c.n), n)
}

// ofTwo tells a comparison by which of its three outcomes it is so at.
func ofTwo(op int, a, b *big.Int) *big.Int {
	switch op {
	case api.OpAdd:
		return new(big.Int).Add(a, b)
	case api.OpSub:
		return new(big.Int).Sub(a, b)
	}
	// Below, alike, above.
	so := map[int][3]int64{
		api.OpEq: {0, 1, 0}, api.OpNe: {1, 0, 1}, api.OpLt: {1, 0, 0},
		api.OpLe: {1, 1, 0}, api.OpGt: {0, 0, 1}, api.OpGe: {0, 1, 1},
	}[op]
	return big.NewInt(so[a.Cmp(b)+1])
}

// reckoned is Eval of what has a type, by the second reckoning.
func reckoned(p api.Program, e api.Expr, vals []int64) (int64, api.Errno) {
	return run(laid(nil, places(p), e), vals)
}

// TestEvalByCode: P11.2, P11.3, of expressions that were made at random.
func TestEvalByCode(t *testing.T) {
	told := map[string]int{}
	for seed := range uint64(40000) {
		c := newChance(seed)
		p := c.program()
		e, vals := c.expr(either(seed), 1+int(seed%6)), c.values()
		n, err := reckoned(p, e, vals)
		wantEval(t, fmt.Sprintf("seed %d: %+v", seed, e), p, e, vals, n, err)
		told[fmt.Sprint("error ", err)]++
		switch {
		case err != api.OK:
		case n > 1:
			told["above 1"]++
		case n < 0:
			told["below 0"]++
		default:
			told[fmt.Sprint(n)]++
		}
	}
	for _, k := range []string{"error 0", "error 110", "0", "1", "above 1", "below 0"} {
		if told[k] < 2000 {
			t.Errorf("%s: %d times", k, told[k])
		}
	}
}

// TestSetByCode: P11.4, P11.2: of variables found at random, what is set is read again; all others are as they were.
func TestSetByCode(t *testing.T) {
	told := map[api.Errno]int{}
	for seed := range uint64(20000) {
		c := newChance(seed)
		p := c.program()
		vals := c.values()
		e, ok := c.known(either(seed))
		if !ok {
			continue
		}
		slot := places(p)[e.Mon+"."+e.Name]
		n := c.number()
		set, err := value.Set(p, e.Mon, e.Name, n, vals)
		told[err]++
		if !may(flat(p)[slot], n) {
			wantSet(t, p, api.Ref{Mon: e.Mon, Name: e.Name}, n, vals, nil, api.ErrFault)
			continue
		}
		want := append([]int64{}, vals...)
		want[slot] = n
		wantSet(t, p, api.Ref{Mon: e.Mon, Name: e.Name}, n, vals, want, api.OK)
		wantEval(t, fmt.Sprintf("seed %d: what was set", seed), p, e, set, n, api.OK)
	}
	for _, err := range []api.Errno{api.OK, api.ErrFault} {
		if told[err] < 2000 {
			t.Errorf("error %d: %d times", err, told[err])
		}
	}
}

// may tells whether a variable may have a value.
func may(v api.Var, n int64) bool {
	switch v.Type {
	case api.TyBool:
		return n == 0 || n == 1
	case api.TyRange:
		return v.Lo <= n && n <= v.Hi
	}
	return true
}

// flat has all variables, one behind the other.
func flat(p api.Program) []api.Var {
	var all []api.Var
	for _, m := range p.Mons {
		all = append(all, m.Vars...)
	}
	return all
}
