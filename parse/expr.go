package parse

import "vigil/api"

// The levels of expressions, each named as the grammar's rule that reads it.
const (
	levelExpr = 1 + iota
	levelConj
	levelNeg
	levelRel
	levelSum
	levelTerm
)

// operator is a sign between two kids: its Op, the level of what it makes, the levels at which its first kid and its second one stand.
type operator struct {
	sign   string
	op     int
	own    int
	first  int
	second int
}

var operators = [...]operator{
	{"||", api.OpOr, levelExpr, levelExpr, levelConj},
	{"&&", api.OpAnd, levelConj, levelConj, levelNeg},
	{"==", api.OpEq, levelRel, levelSum, levelSum},
	{"!=", api.OpNe, levelRel, levelSum, levelSum},
	{"<", api.OpLt, levelRel, levelSum, levelSum},
	{"<=", api.OpLe, levelRel, levelSum, levelSum},
	{">", api.OpGt, levelRel, levelSum, levelSum},
	{">=", api.OpGe, levelRel, levelSum, levelSum},
	{"+", api.OpAdd, levelSum, levelSum, levelTerm},
	{"-", api.OpSub, levelSum, levelSum, levelTerm},
}

// operatorOf is the operator that a token is; the zero one, if it is none.
func operatorOf(t api.Token) operator {
	for _, o := range operators {
		if o.sign == t.Text {
			return o
		}
	}
	return operator{}
}

func (r *reader) expr() api.Expr { return r.exprAt(levelExpr) }

func (r *reader) neg() api.Expr { return r.exprAt(levelNeg) }

// exprAt reads an expression of that level or a higher one, as much of it as there is. What is read already is the first kid of the next operator, if it is of a level that may stand there.
func (r *reader) exprAt(level int) api.Expr {
	left, own := r.operand(level)
taking:
	for {
		switch o := operatorOf(r.token()); {
		case o.op == 0, o.own < level, own < o.first:
			break taking
		default:
			r.pass()
			right := r.exprAt(o.second)
			left = api.Expr{Op: o.op, Kids: []api.Expr{left, right}, At: left.At}
			own = o.own
		}
	}
	return left
}

// operand reads what has no operator outside of it, and tells its level. A ! makes one only where a neg may stand.
func (r *reader) operand(level int) (api.Expr, int) {
	if level <= levelNeg && r.sees("!") {
		return r.prefixed(api.OpNot, "!", r.neg), levelNeg
	}
	return r.term(), levelTerm
}

// prefixed reads a sign, and the only kid behind it.
func (r *reader) prefixed(op int, sign string, read func() api.Expr) api.Expr {
	at := r.token().At
	kid := within(r, sign, read)
	return api.Expr{Op: op, Kids: []api.Expr{kid}, At: at}
}

func (r *reader) term() api.Expr {
	t := r.token()
	switch {
	case t.Kind == api.TkNum:
		return r.product()
	case t.Kind == api.TkName:
		mon, name := r.path()
		return api.Expr{Op: api.OpVar, Mon: mon, Name: name, At: t.At}
	case r.sees("-"):
		return r.prefixed(api.OpNeg, "-", r.term)
	case r.sees("("):
		return enclosed(r, "(", r.expr, ")")
	case r.sees("true"):
		r.pass()
		return api.Expr{Op: api.OpTrue, At: t.At}
	}
	r.want("false")
	return api.Expr{Op: api.OpFalse, At: t.At}
}

// product reads a number, and what it is multiplied with, if there is a * behind it.
func (r *reader) product() api.Expr {
	t := r.take(api.TkNum)
	if !r.sees("*") {
		return api.Expr{Op: api.OpNum, N: t.N, At: t.At}
	}
	e := r.prefixed(api.OpMul, "*", r.term)
	e.N, e.At = t.N, t.At
	return e
}
