package gram_test

import (
	"slices"
	"strings"
	"testing"

	"vigil/api"
	"vigil/gram"
	"vigil/lex"
	"vigil/parse"
	"vigil/tree"
)

// parsed is the program of a text that has no error.
func parsed(t testing.TB, s string) api.Program {
	t.Helper()
	p, err, at := parse.Parse(s)
	if err != api.OK {
		t.Fatalf("%.300q: error %d at %d", s, err, at)
	}
	return p
}

// checkExpr: P5.1 and P5.3, of tokens and some trees: they derive the one that the rules read, and no other.
func checkExpr(t testing.TB, l []api.Token, trees ...api.Expr) {
	t.Helper()
	all := reading(l).trees()
	if len(all) > 1 {
		t.Fatalf("%+v: %d trees", l, len(all))
	}
	for _, e := range all {
		if !gram.DerivesExpr(l, e) {
			t.Fatalf("%+v do not derive %+v", l, e)
		}
	}
	for _, e := range trees {
		isOne := len(all) == 1 && tree.SameExpr(all[0], e)
		if gram.DerivesExpr(l, e) != isOne {
			t.Fatalf("%+v, and %+v: not %v", l, e, isOne)
		}
	}
}

// TestShortLists: P5.1 and P5.3, of all lists of a few tokens, with all trees that any of them derives.
func TestShortLists(t *testing.T) {
	end := api.Token{Kind: api.TkEnd}
	var alphabet []api.Token
	for _, token := range scan(t, "1 true ! - * + == && || ( )") {
		if token.Kind != api.TkEnd {
			alphabet = append(alphabet, token)
		}
	}
	var lists [][]api.Token
	var extend func(l []api.Token, left int)
	extend = func(l []api.Token, left int) {
		lists = append(lists, append(slices.Clone(l), end))
		if left > 0 {
			for _, token := range alphabet {
				extend(append(slices.Clip(l), token), left-1)
			}
		}
	}
	extend(nil, 5)
	var trees []api.Expr
	for _, l := range lists {
		if len(l) > 4 {
			checkExpr(t, l)
			continue
		}
		for _, e := range reading(l).trees() {
			if !slices.ContainsFunc(trees, func(f api.Expr) bool { return tree.SameExpr(e, f) }) {
				trees = append(trees, e)
			}
		}
	}
	if len(trees) < 30 {
		t.Fatal(len(trees))
	}
	for _, l := range lists {
		if len(l) <= 5 {
			checkExpr(t, l, trees...)
		}
	}
}

// TestWritten: P5.1 and P5.2: trees are derived by what they are written as, and others aren't.
func TestWritten(t *testing.T) {
	for seed := range uint64(2000) {
		w := &writer{chance: newChance(seed)}
		e := w.chance.expr(4)
		w.expr(e, 1)
		checkExpr(t, w.done(), e, w.chance.expr(4), w.chance.expr(1))
		if !gram.DerivesExpr(w.tokens, e) {
			t.Fatalf("%+v do not derive %+v", w.tokens, e)
		}
		w.tokens = nil
		p, q := w.chance.program(), w.chance.program()
		w.program(p)
		l := w.done()
		if !gram.Derives(l, p) || gram.Derives(l, q) && !tree.Same(p, q) {
			t.Fatalf("seed %d", seed)
		}
	}
}

// spoilt are tokens with one of them taken away, doubled, replaced, or changed with another one.
func spoilt(c chance, l []api.Token, others []api.Token) []api.Token {
	at := c.IntN(len(l))
	l = slices.Clone(l)
	switch c.IntN(4) {
	case 0:
		return slices.Delete(l, at, at+1)
	case 1:
		return slices.Insert(l, at, others[c.IntN(len(others))])
	case 2:
		l[at] = others[c.IntN(len(others))]
		return l
	}
	with := c.IntN(len(l))
	l[at], l[with] = l[with], l[at]
	return l
}

// TestSpoiltExprs: P5.1: tokens that are spoilt derive what the rules read, if anything; also far deeper than Parse goes.
func TestSpoiltExprs(t *testing.T) {
	others := scan(t, "1 2 a . x true false ! - * + == && || ( ) ( ) ; if")
	derived := 0
	for seed := range uint64(1000) {
		w := &writer{chance: newChance(seed)}
		e := w.chance.tower(w.IntN(100))
		w.expr(e, 1)
		l := w.done()
		checkExpr(t, l, e)
		for range 3 {
			other := spoilt(w.chance, l, others)
			checkExpr(t, other, e)
			if slices.ContainsFunc(other, func(x api.Token) bool { return x.Text == "(" }) && gram.DerivesExpr(other, e) {
				derived++
			}
		}
	}
	if derived < 20 {
		t.Fatal(derived)
	}
}

// checkProgram: P5.2 and P5.3 of a text and some trees: what Parse tells is derived, and no other; of what is too deep, or has too many of something, Parse tells none.
func checkProgram(t testing.TB, s string, trees ...api.Program) {
	t.Helper()
	l, err, _ := lex.Scan(s)
	if err != api.OK {
		return
	}
	p, err, _ := parse.Parse(s)
	if err == api.ErrDeep {
		return
	}
	if err == api.OK && !gram.Derives(l, p) {
		t.Fatalf("%.300q does not derive %+v", s, p)
	}
	for _, q := range trees {
		isOne := err == api.OK && tree.Same(p, q)
		if gram.Derives(l, q) != isOne {
			t.Fatalf("%.300q, and %+v: not %v", s, q, isOne)
		}
	}
}

// TestSpoiltPrograms: P5.2 and P5.3.
func TestSpoiltPrograms(t *testing.T) {
	others := scan(t, "monitor var method thread bool int true false skip if else while loop choose or sync call wait notify notifyall .. == != <= >= && || { } ( ) ; : = < > + - * ! . 0 1 2 a m x")
	others = others[:len(others)-1]
	var texts []string
	var trees []api.Program
	for _, s := range samples() {
		texts = append(texts, s)
		trees = append(trees, parsed(t, s))
	}
	for i, s := range texts {
		checkProgram(t, s, trees...)
		l := scan(t, s)
		c := newChance(uint64(i))
		for range 4000 {
			if len(l) > 1 {
				other := spoilt(c, l[:len(l)-1], others)
				checkProgram(t, lex.Join(other...), trees[i])
			}
		}
	}
}

// TestParentheses: P5.4: around the whole, and as many as may be.
func TestParentheses(t *testing.T) {
	for seed := range uint64(200) {
		w := &writer{chance: newChance(seed)}
		e := w.chance.expr(4)
		w.expr(e, 1)
		l := w.done()
		for range api.MaxDepth + 6 {
			l = slices.Insert(l, 0, api.Token{Kind: api.TkSign, Text: "("})
			if gram.DerivesExpr(l, e) {
				t.Fatalf("%+v, open, derive %+v", l, e)
			}
			l = slices.Insert(l, len(l)-1, api.Token{Kind: api.TkSign, Text: ")"})
			if !gram.DerivesExpr(l, e) {
				t.Fatalf("%+v do not derive %+v", l, e)
			}
		}
	}
}

// deep is how many parts may be nested.
const deep = 1<<16 - 2

// repeated is the tokens of a text, so many times.
func repeated(t testing.TB, n int, s string) []api.Token {
	l := scan(t, s)
	return slices.Repeat(l[:len(l)-1], n)
}

// TestDeepExprs: P5.1: how deep it is has no part, and takes no more time than there is to look at.
func TestDeepExprs(t *testing.T) {
	chain := number(1)
	for range deep {
		chain = of(api.OpAdd, chain, number(1))
	}
	nots := of(api.OpTrue)
	for range deep {
		nots = of(api.OpNot, nots)
	}
	end := scan(t, "")
	open, closed := repeated(t, deep, "("), repeated(t, deep, ")")
	one, plus := repeated(t, 1, "1"), repeated(t, deep, "+ 1")
	cases := []struct {
		e    api.Expr
		l    [][]api.Token
		want bool
	}{
		{number(1), [][]api.Token{open, one, closed}, true},
		{number(1), [][]api.Token{open, one, closed[1:]}, false},
		{number(1), [][]api.Token{open[1:], one, closed}, false},
		{chain, [][]api.Token{one, plus}, true},
		{chain, [][]api.Token{one, plus[2:]}, false},
		{chain, [][]api.Token{open, one, plus, closed}, true},
		{chain, [][]api.Token{open, one, repeated(t, deep, "+ 1 )")}, true},
		{chain, [][]api.Token{open[1:], one, repeated(t, deep, "+ 1 )")}, false},
		{chain, [][]api.Token{open, one, repeated(t, deep-1, "+ 1 )")}, false},
		{chain, [][]api.Token{open}, false},
		{chain, [][]api.Token{open, closed}, false},
		{chain, [][]api.Token{open, closed, one, plus}, false},
		{chain, [][]api.Token{repeated(t, deep, "( 1 +"), one, closed}, false},
		{nots, [][]api.Token{repeated(t, deep, "!"), repeated(t, 1, "true")}, true},
		{nots, [][]api.Token{repeated(t, deep, "! ("), repeated(t, 1, "true"), closed}, true},
		{nots, [][]api.Token{repeated(t, deep-1, "!"), repeated(t, 1, "true")}, false},
		{nots, [][]api.Token{repeated(t, deep+1, "!"), repeated(t, 1, "true")}, false},
	}
	for i, c := range cases {
		if got := gram.DerivesExpr(slices.Concat(append(c.l, end)...), c.e); got != c.want {
			t.Errorf("case %d: %v", i, got)
		}
	}
}

// TestDeepPrograms: P5.2, likewise.
func TestDeepPrograms(t *testing.T) {
	var body []api.Stmt
	for range deep - 1 {
		body = []api.Stmt{{Kind: api.StIf, E: of(api.OpTrue), Blocks: [][]api.Stmt{nil, body}}}
	}
	head, braces := repeated(t, 1, "thread r * {"), repeated(t, deep, "}")
	ifs := repeated(t, deep-1, "if true { } else {")
	l := slices.Concat(head, ifs, braces, scan(t, ""))
	if !gram.Derives(l, role(body...)) {
		t.Error("ifs")
	}
	l[len(l)/2] = api.Token{Kind: api.TkSign, Text: ";"}
	if gram.Derives(l, role(body...)) {
		t.Error("a ; among them")
	}
	if gram.Derives(slices.Concat(head, ifs, braces[1:], scan(t, "")), role(body...)) {
		t.Error("a } is wanted")
	}
	text := "thread r * {" + strings.Repeat("loop {", api.MaxDepth) + strings.Repeat("}", api.MaxDepth+1)
	if _, err, _ := parse.Parse(text); err != api.ErrDeep {
		t.Fatal(err)
	}
	body = nil
	for range api.MaxDepth {
		body = []api.Stmt{{Kind: api.StLoop, Blocks: [][]api.Stmt{body}}}
	}
	want(t, text, role(body...), true)
}

// TestLong: many statements one behind the other.
func TestLong(t *testing.T) {
	const many = 100000
	list := slices.Repeat([]api.Stmt{{Kind: api.StSkip}}, many)
	l := slices.Concat(repeated(t, 1, "thread r * {"), repeated(t, many, "skip ;"), scan(t, "}"))
	if !gram.Derives(l, role(list...)) || gram.Derives(l, role(list[1:]...)) {
		t.Error("skips")
	}
}

func FuzzDerives(f *testing.F) {
	for _, s := range samples() {
		f.Add(s, s)
	}
	f.Add("thread t 1 { m.x = (1); }", "thread t 1 { m.x = 1; }")
	f.Fuzz(func(t *testing.T, s, other string) {
		q, err, _ := parse.Parse(other)
		if err == api.OK {
			checkProgram(t, s, q)
		}
		checkProgram(t, s)
		if l, err, _ := lex.Scan(s); err == api.OK && len(l) < 200 {
			e, _, _ := parse.Expr(other)
			checkExpr(t, l, e)
		}
	})
}
