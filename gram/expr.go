package gram

import "vigil/api"

// The levels of expressions, each named as the grammar's rule of it.
const (
	levelExpr = 1 + iota
	levelConj
	levelNeg
	levelRel
	levelSum
	levelTerm
)

// manner is how an Op is written: its level, the sign that it has with its kids, the levels at which they stand.
type manner struct {
	level  int
	sign   string
	first  int
	second int
}

var manners = [api.OpOr + 1]manner{
	api.OpNum:   {level: levelTerm},
	api.OpTrue:  {level: levelTerm},
	api.OpFalse: {level: levelTerm},
	api.OpVar:   {level: levelTerm},
	api.OpNot:   {level: levelNeg, sign: "!", first: levelNeg},
	api.OpNeg:   {level: levelTerm, sign: "-", first: levelTerm},
	api.OpMul:   {level: levelTerm, sign: "*", first: levelTerm},
	api.OpAdd:   {level: levelSum, sign: "+", first: levelSum, second: levelTerm},
	api.OpSub:   {level: levelSum, sign: "-", first: levelSum, second: levelTerm},
	api.OpEq:    {level: levelRel, sign: "==", first: levelSum, second: levelSum},
	api.OpNe:    {level: levelRel, sign: "!=", first: levelSum, second: levelSum},
	api.OpLt:    {level: levelRel, sign: "<", first: levelSum, second: levelSum},
	api.OpLe:    {level: levelRel, sign: "<=", first: levelSum, second: levelSum},
	api.OpGt:    {level: levelRel, sign: ">", first: levelSum, second: levelSum},
	api.OpGe:    {level: levelRel, sign: ">=", first: levelSum, second: levelSum},
	api.OpAnd:   {level: levelConj, sign: "&&", first: levelConj, second: levelNeg},
	api.OpOr:    {level: levelExpr, sign: "||", first: levelExpr, second: levelConj},
}

// weighed is an expression with the number of its tokens, parentheses not counted, which is the same however it is written.
type weighed struct {
	api.Expr
	kids   []weighed
	tokens int
}

func weigh(e api.Expr) weighed {
	w := weighed{Expr: e, kids: make([]weighed, len(e.Kids))}
	switch e.Op {
	case api.OpVar:
		w.tokens = 3
	case api.OpMul:
		w.tokens = 2
	default:
		w.tokens = 1
	}
	for i, kid := range e.Kids {
		w.kids[i] = weigh(kid)
		w.tokens += w.kids[i].tokens
	}
	return w
}

func (t *tape) expr(e api.Expr) part {
	return t.exprAt(weigh(e), levelExpr)
}

// exprAt is an expression at a level. Whether a ( is around all of it, or belongs to its first kid, is told by what is within: to try both would take time without end where many of them stand one behind the other.
func (t *tape) exprAt(e weighed, level int) part {
	return func(from int) ends {
		switch {
		case t.encloses(from, e.tokens):
			return row(t.sign("("), t.exprAt(e, levelExpr), t.sign(")"))(from)
		case manners[e.Op].level < level:
			return nil
		}
		return t.bare(e)(from)
	}
}

// bare is an expression that has no parentheses around it.
func (t *tape) bare(e weighed) part {
	how := manners[e.Op]
	switch e.Op {
	case api.OpNum:
		return t.num(e.N)
	case api.OpTrue:
		return t.word("true")
	case api.OpFalse:
		return t.word("false")
	case api.OpVar:
		return t.path(e.Mon, e.Name)
	case api.OpNot, api.OpNeg:
		return row(t.sign(how.sign), t.exprAt(e.kids[0], how.first))
	case api.OpMul:
		return row(t.num(e.N), t.sign(how.sign), t.exprAt(e.kids[0], how.first))
	}
	return row(t.exprAt(e.kids[0], how.first), t.sign(how.sign), t.exprAt(e.kids[1], how.second))
}
