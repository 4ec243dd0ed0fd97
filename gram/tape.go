package gram

import "vigil/api"

// tape is the tokens that a tree is held against. Of each ( it has the place of its counterpart (of all else, and of a ( without one, 0), and of each place how many tokens ahead of it are no parentheses.
type tape struct {
	tokens []api.Token
	closes []int
	plain  []int
}

func newTape(l []api.Token) *tape {
	t := &tape{tokens: l, closes: make([]int, len(l)), plain: make([]int, len(l))}
	var open []int
	plain := 0
	for i, token := range l {
		t.plain[i] = plain
		switch {
		case isSign(token, "("):
			open = append(open, i)
		case !isSign(token, ")"):
			plain++
		case len(open) > 0:
			t.closes[open[len(open)-1]] = i
			open = open[:len(open)-1]
		}
	}
	return t
}

func isSign(token api.Token, sign string) bool {
	return token.Kind == api.TkSign && token.Text == sign
}

// encloses tells whether at a place parentheses begin that have so many tokens in them, parentheses not counted.
func (t *tape) encloses(from, plain int) bool {
	to := t.closes[from]
	return to > 0 && t.plain[to]-t.plain[from] == plain
}

// isWhole tells whether p is all that there is.
func (t *tape) isWhole(p part) bool {
	_, ok := p(0)[len(t.tokens)]
	return ok
}

// one is a single token, if it fits. There is one at every place that is asked for: nothing but end goes past the last token, and nothing stands behind it.
func (t *tape) one(fits func(token api.Token) bool) part {
	return func(from int) ends {
		if fits(t.tokens[from]) {
			return ends{from + 1: {}}
		}
		return nil
	}
}

// written is a token of that kind with that text.
func (t *tape) written(kind int, text string) part {
	return t.one(func(token api.Token) bool { return token.Kind == kind && token.Text == text })
}

func (t *tape) word(text string) part { return t.written(api.TkWord, text) }

func (t *tape) sign(text string) part { return t.written(api.TkSign, text) }

func (t *tape) name(text string) part { return t.written(api.TkName, text) }

func (t *tape) num(n int64) part {
	return t.one(func(token api.Token) bool { return token.Kind == api.TkNum && token.N == n })
}

func (t *tape) end() part {
	return t.one(func(token api.Token) bool { return token.Kind == api.TkEnd })
}

// path is a monitor's name, and that of something it has.
func (t *tape) path(mon, name string) part {
	return row(t.name(mon), t.sign("."), t.name(name))
}
