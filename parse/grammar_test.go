package parse_test

import (
	"reflect"
	"regexp"
	"strings"
	"testing"

	"vigil/api"
	"vigil/lex"
	"vigil/parse"
)

// P4.2 once more, by other means than the program's: the chapter's own grammar is gone through token by token, by all ways at once.

const grammarText = `
program = { monitor | thread } end .
monitor = "monitor" name "{" { var } { method } "}" .
var     = "var" name ":" ( "bool" "=" ( "true" | "false" ) | "int" "=" int | int ".." int "=" int ) ";" .
int     = [ "-" ] num .
method  = "method" name block .
thread  = "thread" name ( num | "*" ) block .
block   = "{" { stmt } "}" .
stmt    = "skip" ";" | name "." name "=" expr ";" | "if" expr block [ "else" block ] | "while" expr block
        | "loop" block | "choose" block { "or" block } | "sync" name block | "call" name "." name ";"
        | "wait" name [ num ] ";" | "notify" name ";" | "notifyall" name ";" .
expr    = conj { "||" conj } .
conj    = neg { "&&" neg } .
neg     = "!" neg | rel .
rel     = sum [ ( "==" | "!=" | "<" | "<=" | ">" | ">=" ) sum ] .
sum     = term { ( "+" | "-" ) term } .
term    = num [ "*" term ] | "-" term | "true" | "false" | name "." name | "(" expr ")" .
`

// node is a piece of the grammar: a token or a rule, by its name, or one of these with kids: { [ | and s, things one behind the other. A c is no piece of it: it is laid where a level ends that has no sign there.
type node struct {
	kind string
	name string
	kids []*node
	most int // of a {: how often, at most
}

type grammar map[string]*node

// rules reads the grammar.
func rules() grammar {
	words := regexp.MustCompile(`"[^"]*"|\S+`).FindAllString(grammarText, -1)
	g := grammar{}
	for len(words) > 0 {
		name := words[0]
		words = words[2:]
		g[name] = either(&words)
		words = words[1:]
		if name == "neg" || name == "term" {
			closeLevels(g[name])
		}
	}
	return g
}

// either reads pieces with | between them, up to what closes them.
func either(words *[]string) *node {
	alt := &node{kind: "|"}
	for {
		alt.kids = append(alt.kids, inOrder(words))
		if (*words)[0] != "|" {
			return alt
		}
		*words = (*words)[1:]
	}
}

func inOrder(words *[]string) *node {
	seq := &node{kind: "s"}
	for {
		w := (*words)[0]
		switch w {
		case "|", ")", "]", "}", ".":
			return seq
		}
		*words = (*words)[1:]
		switch w {
		case "(", "[", "{":
			seq.kids = append(seq.kids, &node{kind: w, kids: []*node{either(words)}, most: 1 << 30})
			*words = (*words)[1:]
		default:
			seq.kids = append(seq.kids, &node{kind: "t", name: w})
		}
	}
}

// closeLevels lays an end behind what stands behind a !, - or *.
func closeLevels(n *node) {
	for _, k := range n.kids {
		closeLevels(k)
	}
	if n.kind == "s" && len(n.kids) > 0 && strings.Contains(`"!" "-" "*"`, n.kids[0].name) && n.kids[0].name != "" {
		n.kids = append(n.kids, &node{kind: "c"})
	}
}

// bound lets no { that begins with that token or rule go on more often.
func (g grammar) bound(first string, most int) {
	var look func(n *node)
	look = func(n *node) {
		if n.kind == "{" && n.kids[0].kids[0].kids[0].name == first {
			n.most = most
		}
		for _, k := range n.kids {
			look(k)
		}
	}
	for _, n := range g {
		look(n)
	}
}

// stack is what is to come yet.
type stack struct {
	top  *node
	rest *stack
}

// step is what is to come behind a token of that class, in all ways.
func (g grammar) step(s *stack, class string) []*stack {
	if s == nil {
		return nil
	}
	n, rest := s.top, s.rest
	switch n.kind {
	case "t":
		if rule := g[n.name]; rule != nil {
			return g.step(&stack{rule, rest}, class)
		}
		if n.name == class {
			return []*stack{rest}
		}
		return nil
	case "s":
		for i := range n.kids {
			rest = &stack{n.kids[len(n.kids)-1-i], rest}
		}
	case "(":
		return g.step(&stack{n.kids[0], rest}, class)
	case "|":
		var all []*stack
		for _, k := range n.kids {
			all = append(all, g.step(&stack{k, rest}, class)...)
		}
		return all
	case "[":
		return append(g.step(&stack{n.kids[0], rest}, class), g.step(rest, class)...)
	case "{":
		all := g.step(rest, class)
		if n.most > 0 {
			again := *n
			again.most--
			all = append(all, g.step(&stack{n.kids[0], &stack{&again, rest}}, class)...)
		}
		return all
	}
	return g.step(rest, class)
}

// open is how many levels end in what is to come. (A monitor's { counts from its word on, which is no matter: nothing else opens there.)
func (s *stack) open() int {
	n := 0
	for ; s != nil; s = s.rest {
		if s.top.kind == "c" || s.top.name == `"}"` || s.top.name == `")"` {
			n++
		}
	}
	return n
}

func classOf(t api.Token) string {
	switch t.Kind {
	case api.TkName:
		return "name"
	case api.TkNum:
		return "num"
	case api.TkEnd:
		return "end"
	}
	return `"` + t.Text + `"`
}

// oracle tells errors by the grammar; within is it with bounds.
type oracle struct {
	g      grammar
	within grammar
	rule   string
}

func newOracle(rule string) oracle {
	o := oracle{rules(), rules(), rule}
	o.within.bound("var", api.MaxVars)
	o.within.bound("method", api.MaxMeths)
	o.within.bound(`"or"`, api.MaxBranch-1)
	return o
}

// errorIn tells the first error in tokens, and at which one; and how many levels were open at most.
func (o oracle) errorIn(tokens []api.Token) (api.Errno, int, int) {
	begin := &stack{&node{kind: "t", name: o.rule}, nil}
	if o.rule == "expr" {
		begin.rest = &stack{&node{kind: "t", name: "end"}, nil}
	}
	all, bounded := []*stack{begin}, []*stack{begin}
	counts := map[string]int{}
	deepest := 0
	for i, t := range tokens {
		class := classOf(t)
		all, bounded = o.g.stepAll(all, class), o.within.stepAll(bounded, class)
		if len(all) > 1 {
			panic("two ways")
		}
		counts[class]++
		tooMany := counts[`"monitor"`] > api.MaxMons || counts[`"thread"`] > api.MaxRoles
		switch {
		case len(all) == 0 || outOfBounds(tokens, i):
			return api.ErrSyntax, startOf(tokens, i, len(all) > 0), deepest
		case len(bounded) == 0 || tooMany:
			return api.ErrMany, i, deepest
		}
		deepest = max(deepest, all[0].open())
		if deepest > api.MaxDepth {
			return api.ErrDeep, i, deepest
		}
	}
	return api.OK, 0, deepest
}

func (g grammar) stepAll(all []*stack, class string) []*stack {
	var next []*stack
	for _, s := range all {
		next = append(next, g.step(s, class)...)
	}
	return next
}

// outOfBounds: whether a range's second number, which ends there, is below the first one; or there is a 0 behind wait.
func outOfBounds(tokens []api.Token, i int) bool {
	if tokens[i].Kind != api.TkNum {
		return false
	}
	if i >= 2 && tokens[i-2].Text == "wait" {
		return tokens[i].N == 0
	}
	value := func(i int) int64 {
		if tokens[i-1].Text == "-" {
			return -tokens[i].N
		}
		return tokens[i].N
	}
	points := startOf(tokens, i, true) - 1
	return points >= 2 && tokens[points].Text == ".." && value(i) < value(points-1)
}

// startOf is where a number begins: at the - ahead of it, if that is asked for and there is one.
func startOf(tokens []api.Token, i int, whole bool) int {
	if whole && i > 0 && tokens[i].Kind == api.TkNum && tokens[i-1].Text == "-" {
		return i - 1
	}
	return i
}

// read is what Parse, or Expr, tells of a text, and whether the tree is the zero one.
func (o oracle) read(s string) (api.Errno, int, bool) {
	if o.rule == "expr" {
		e, err, at := parse.Expr(s)
		return err, at, reflect.DeepEqual(e, api.Expr{})
	}
	p, err, at := parse.Parse(s)
	return err, at, reflect.DeepEqual(p, api.Program{})
}

// check holds Parse, or Expr, against the oracle; it tells whether the text may become right by more tokens.
func (o oracle) check(t *testing.T, s string) bool {
	t.Helper()
	tokens, want, wantAt := lex.Scan(s)
	if want == api.OK {
		var i int
		want, i, _ = o.errorIn(tokens)
		if want != api.OK {
			wantAt = tokens[i].At
		}
	}
	err, at, none := o.read(s)
	if err != want || at != wantAt || err != api.OK && !none {
		t.Fatalf("%.300q: error %d at %d, want %d at %d; nothing beside it: %v", s, err, at, want, wantAt, none)
	}
	return err == api.OK || err == api.ErrSyntax && at == len(s)
}

// vocabulary has a token of each kind, each word and each sign.
var vocabulary = strings.Fields("a 0 1 7 monitor var method thread bool int true false skip if else while loop choose or sync call wait notify notifyall .. == != <= >= && || { } ( ) ; : = < > + - * ! .")

// grow checks all texts that begin so, with up to so many tokens more; of those that are wrong already none is gone on with.
func (o oracle) grow(t *testing.T, begin string, words []string, more int) int {
	t.Helper()
	n := 1
	if !o.check(t, begin) || more == 0 {
		return n
	}
	for _, w := range words {
		n += o.grow(t, begin+" "+w, words, more-1)
	}
	return n
}

// TestShortExprs: P4.2 and P4.4, of all expressions of few tokens, and of all that they may begin with.
func TestShortExprs(t *testing.T) {
	t.Parallel()
	o := newOracle("expr")
	few := strings.Fields("a.x 1 true + - * ! ( ) == && ||")
	n := o.grow(t, "", vocabulary, 4) + o.grow(t, "", few, 6)
	if n < 50000 {
		t.Error(n)
	}
}

// TestShortPrograms: P4.2, of what a program may begin with.
func TestShortPrograms(t *testing.T) {
	t.Parallel()
	o := newOracle("program")
	n := 0
	for _, begin := range []string{
		"", "monitor", "monitor M {", "monitor M { var x :", "monitor M { var x : 1", "monitor M { var x : - 1 ..", "monitor M { var x : 7 ..", "monitor M { var x : 0 ..", "monitor M { var x : int =",
		"monitor M { var x : bool = true;", "monitor M { method f { }", "monitor M { } thread t", "thread t * {", "thread t 0 { if true { }", "thread t 1 { choose { }", "thread t 1 { choose { if a.x {",
		"thread t 1 { wait", "thread t 1 { a.b =", "thread t 1 { while !a.x", "thread t 1 { loop { } sync", "thread t 1 { call", "thread t 1 { notify a; notifyall", "thread t 1 { skip; }",
	} {
		n += o.grow(t, begin, vocabulary, 4)
	}
	if n < 50000 {
		t.Error(n)
	}
}

// TestMutants: P4.2, of programs of which one token is another one, is gone, is there twice, or has one more ahead of it, and of all that they begin with.
func TestMutants(t *testing.T) {
	t.Parallel()
	o := newOracle("program")
	for _, s := range samples() {
		tokens, _, _ := lex.Scan(s)
		texts := strings.Fields(lex.Join(tokens...))
		with := func(from, to int, others ...string) {
			t.Helper()
			all := append(append(append([]string{}, texts[:from]...), others...), texts[to:]...)
			o.check(t, strings.Join(all, " "))
		}
		for i := range texts {
			with(i, len(texts))
			with(i, i+1)
			with(i, i, texts[i])
			for _, w := range vocabulary {
				with(i, i, w)
				with(i, i+1, w)
			}
		}
	}
}

// FuzzParse: the same, of any text.
func FuzzParse(f *testing.F) {
	for _, s := range samples() {
		f.Add(s)
	}
	program, expr := newOracle("program"), newOracle("expr")
	f.Fuzz(func(t *testing.T, s string) {
		program.check(t, s)
		expr.check(t, s)
		checkFollows(t, s)
	})
}
