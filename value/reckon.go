package value

import (
	"vigil/api"
	"vigil/names"
	"vigil/num"
)

// moment is a program, and what its variables are at a moment: as many values as there are variables.
type moment struct {
	p    api.Program
	vals []int64
}

// reckon tells what e, which has a type, comes to, and whether all within it that is reckoned is within its bounds.
func (m moment) reckon(e api.Expr) (int64, bool) {
	switch e.Op {
	case api.OpNum:
		return e.N, true
	case api.OpTrue, api.OpFalse:
		return bit(e.Op == api.OpTrue), true
	case api.OpVar:
		// What has a type has variables that are all there.
		slot, _ := names.Slot(m.p, e.Mon, e.Name)
		return m.vals[slot], true
	}
	first, ok := m.reckon(e.Kids[0])
	if !ok {
		return 0, false
	}
	switch e.Op {
	case api.OpNot:
		return bit(first == 0), true
	case api.OpNeg:
		return num.Neg(first)
	case api.OpMul:
		return num.Mul(e.N, first)
	}
	return perhaps(e.Op, first, func() (int64, bool) { return m.reckon(e.Kids[1]) })
}

// perhaps joins what the first kid came to with the second one, which is reckoned only where the first one leaves it open: what is not reckoned cannot be beyond its bounds.
func perhaps(op int, first int64, second func() (int64, bool)) (int64, bool) {
	switch {
	case op == api.OpAnd && first == 0:
		return 0, true
	case op == api.OpOr && first != 0:
		return 1, true
	}
	n, ok := second()
	if !ok {
		return 0, false
	}
	return join(op, first, n)
}

// join tells what two numbers come to, and whether that is within its bounds. An and or an or that is still open is what its second kid is.
func join(op int, a, b int64) (int64, bool) {
	switch op {
	case api.OpAdd:
		return num.Add(a, b)
	case api.OpSub:
		return num.Sub(a, b)
	case api.OpEq:
		return bit(a == b), true
	case api.OpNe:
		return bit(a != b), true
	case api.OpLt:
		return bit(a < b), true
	case api.OpLe:
		return bit(a <= b), true
	case api.OpGt:
		return bit(a > b), true
	case api.OpGe:
		return bit(a >= b), true
	}
	return b, true
}

// bit is a bool as a number.
func bit(is bool) int64 {
	if is {
		return 1
	}
	return 0
}
