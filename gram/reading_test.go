package gram_test

import (
	"vigil/api"
)

// The grammar of expressions once more, as rules that read: each one tells all that may be read from a place on, and knows of no depth. What Derives says is held against it.

// read is a tree that was read, and where it ends.
type read struct {
	e   api.Expr
	end int
}

type reading []api.Token

// trees are all trees of which the tokens are, the end among them.
func (r reading) trees() []api.Expr {
	var all []api.Expr
	for _, x := range r.expr(0) {
		if x.end == len(r)-1 && r[x.end].Kind == api.TkEnd {
			all = append(all, x.e)
		}
	}
	return all
}

func (r reading) sees(at int, kind int, text string) bool {
	return at < len(r) && r[at].Kind == kind && r[at].Text == text
}

// chain is one thing, and any number of others behind signs; each longer one is told too.
func (r reading) chain(from int, one func(int) []read, ops map[string]int) []read {
	all := one(from)
	for i := 0; i < len(all); i++ {
		left := all[i]
		for sign, op := range ops {
			if r.sees(left.end, api.TkSign, sign) {
				for _, right := range one(left.end + 1) {
					all = append(all, read{of(op, left.e, right.e), right.end})
				}
			}
		}
	}
	return all
}

func (r reading) expr(from int) []read {
	return r.chain(from, r.conj, map[string]int{"||": api.OpOr})
}

func (r reading) conj(from int) []read {
	return r.chain(from, r.neg, map[string]int{"&&": api.OpAnd})
}

func (r reading) neg(from int) []read {
	if !r.sees(from, api.TkSign, "!") {
		return r.rel(from)
	}
	var all []read
	for _, x := range r.neg(from + 1) {
		all = append(all, read{of(api.OpNot, x.e), x.end})
	}
	return all
}

func (r reading) rel(from int) []read {
	ops := map[string]int{"==": api.OpEq, "!=": api.OpNe, "<": api.OpLt, "<=": api.OpLe, ">": api.OpGt, ">=": api.OpGe}
	sums := r.sum(from)
	all := sums
	for _, left := range sums {
		for sign, op := range ops {
			if r.sees(left.end, api.TkSign, sign) {
				for _, right := range r.sum(left.end + 1) {
					all = append(all, read{of(op, left.e, right.e), right.end})
				}
			}
		}
	}
	return all
}

func (r reading) sum(from int) []read {
	return r.chain(from, r.term, map[string]int{"+": api.OpAdd, "-": api.OpSub})
}

func (r reading) term(from int) []read {
	var all []read
	if from >= len(r) {
		return nil
	}
	switch token := r[from]; {
	case token.Kind == api.TkNum:
		all = append(all, read{number(token.N), from + 1})
		if r.sees(from+1, api.TkSign, "*") {
			for _, x := range r.term(from + 2) {
				all = append(all, read{times(token.N, x.e), x.end})
			}
		}
	case token.Kind == api.TkName && r.sees(from+1, api.TkSign, ".") && from+2 < len(r) && r[from+2].Kind == api.TkName:
		all = append(all, read{variable(token.Text, r[from+2].Text), from + 3})
	case r.sees(from, api.TkWord, "true"):
		all = append(all, read{of(api.OpTrue), from + 1})
	case r.sees(from, api.TkWord, "false"):
		all = append(all, read{of(api.OpFalse), from + 1})
	case r.sees(from, api.TkSign, "-"):
		for _, x := range r.term(from + 1) {
			all = append(all, read{of(api.OpNeg, x.e), x.end})
		}
	case r.sees(from, api.TkSign, "("):
		for _, x := range r.expr(from + 1) {
			if r.sees(x.end, api.TkSign, ")") {
				all = append(all, read{x.e, x.end + 1})
			}
		}
	}
	return all
}
