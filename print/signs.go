package print

import "vigil/api"

// The levels that have no sign of their own: an expression that stands alone is written at the outermost one, what has no sign is of the innermost one.
const (
	outermost = 1
	innermost = 6
)

// sign is how an expression with kids is written: its text, its own level, the levels at which its first kid and its last one are (an only kid is the last one).
type sign struct {
	text  string
	own   int
	first int
	last  int
}

// signs has the sign of each Op that has kids.
type signs map[int]sign

func allSigns() signs {
	return signs{
		api.OpNot: {text: "!", own: 3, last: 3},
		api.OpNeg: {text: "-", own: 6, last: 6},
		api.OpMul: {text: " * ", own: 6, last: 6},
		api.OpAdd: {" + ", 5, 5, 6},
		api.OpSub: {" - ", 5, 5, 6},
		api.OpEq:  {" == ", 4, 5, 5},
		api.OpNe:  {" != ", 4, 5, 5},
		api.OpLt:  {" < ", 4, 5, 5},
		api.OpLe:  {" <= ", 4, 5, 5},
		api.OpGt:  {" > ", 4, 5, 5},
		api.OpGe:  {" >= ", 4, 5, 5},
		api.OpAnd: {" && ", 2, 2, 3},
		api.OpOr:  {" || ", 1, 1, 2},
	}
}

// enclosed tells whether an expression of that kind stands in parentheses where it is written at a level.
func (s signs) enclosed(op, level int) bool {
	own := innermost
	if mark, ok := s[op]; ok {
		own = mark.own
	}
	return own < level
}

// nest tells how many levels lie within one another in e, written at a level.
func (s signs) nest(e api.Expr, level int) int {
	n := 0
	if s.enclosed(e.Op, level) {
		n++
	}
	mark := s[e.Op]
	switch len(e.Kids) {
	case 1:
		n += 1 + s.nest(e.Kids[0], mark.last)
	case 2:
		n += max(s.nest(e.Kids[0], mark.first), s.nest(e.Kids[1], mark.last))
	}
	return n
}

// nestProgram tells how many levels lie within one another in p.
func (s signs) nestProgram(p api.Program) int {
	most := 0
	for _, m := range p.Mons {
		most = max(most, 1)
		for _, method := range m.Methods {
			most = max(most, s.nestBlock(method.Body, 2))
		}
	}
	for _, r := range p.Roles {
		most = max(most, s.nestBlock(r.Body, 1))
	}
	return most
}

// nestBlock tells how many levels lie within one another in a block, of which open ones are its own and those around it.
func (s signs) nestBlock(block []api.Stmt, open int) int {
	most := open
	for _, st := range block {
		most = max(most, open+s.nest(st.E, outermost)) // a statement without an expression has the zero one, which nests nothing
		for _, inner := range st.Blocks {
			most = max(most, s.nestBlock(inner, open+1))
		}
	}
	return most
}
