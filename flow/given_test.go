package flow_test

import (
	"fmt"
	"math/rand/v2"
	"reflect"
	"slices"
	"strings"
	"testing"

	"vigil/api"
	"vigil/flow"
	"vigil/parse"
	"vigil/print"
)

// What the tests of this package begin with, each made anew.

// declares is what the statements of these tests speak of: the monitors z, a and c have the places 0 to 2; z.u, a.b, a.n and c.b have the slots 0 to 3.
const declares = `monitor z { var u : int = 0; }
monitor a { var b : bool = true; var n : int = 0; method f { a.n = 1; } method g { while a.b { wait a; } } }
monitor c { var b : bool = false; method h { if c.b { call a.f; wait c 5; } } }
`

func parsed(t testing.TB, s string) api.Program {
	t.Helper()
	p, err, at := parse.Parse(s)
	if err != api.OK {
		t.Fatalf("%.300q: error %d at %d", s, err, at)
	}
	return p
}

// unmarked is a text in which a place is marked by a @ ahead of it, without the mark, and that place.
func unmarked(s string) (string, int) {
	return strings.ReplaceAll(s, "@", ""), max(strings.Index(s, "@"), 0)
}

// kindName is how the tests call a kind of edges.
func kindName(kind int) string {
	all := []string{"none", "skip", "test", "set", "enter", "leave", "wait", "notify", "all", "pick"}
	if kind < 0 || kind >= len(all) {
		return fmt.Sprint("kind ", kind)
	}
	return all[kind]
}

// exprText is an expression with its place, as the word of the source that stands there.
func exprText(t testing.TB, source string, e api.Expr) string {
	t.Helper()
	s, err := print.Expr(e)
	if err != api.OK {
		t.Fatalf("%+v: error %d", e, err)
	}
	return "[" + s + "]" + word(source, e.At)
}

// word is a place in a source, as the word that stands there.
func word(source string, at int) string {
	if at < 0 || at >= len(source) {
		return fmt.Sprint("@", at)
	}
	end := strings.IndexAny(source[at:]+" ", " ;\n")
	return "@" + source[at:at+end]
}

// edgeText has all of an edge that is not 0.
func edgeText(t testing.TB, source string, e api.Edge) string {
	t.Helper()
	s := fmt.Sprintf("%d>%d %s", e.From, e.To, kindName(e.Kind))
	for _, x := range []struct {
		name string
		n    int64
	}{{"mon", int64(e.Mon)}, {"var", int64(e.Var)}, {"n", e.N}, {"site", int64(e.Site)}, {"out", int64(e.Out)}} {
		if x.n != 0 {
			s += fmt.Sprintf(" %s%d", x.name, x.n)
		}
	}
	if !reflect.DeepEqual(e.E, api.Expr{}) {
		s += " " + exprText(t, source, e.E)
	}
	return s + " " + word(source, e.At)
}

// flowText has all of a flow, line by line.
func flowText(t testing.TB, source string, f api.Flow) string {
	t.Helper()
	lines := []string{strings.TrimSpace(fmt.Sprintf("%s%s %d places", f.Name, strings.Repeat("*", btoi(f.Star)), f.Locs))}
	for _, e := range f.Edges {
		lines = append(lines, edgeText(t, source, e))
	}
	for _, g := range f.Guards {
		lines = append(lines, fmt.Sprintf("guard mon%d %s%s", g.Mon, exprText(t, source, g.E), strings.Repeat(" loop", btoi(g.Loop))))
	}
	return strings.Join(lines, "\n")
}

func btoi(b bool) int {
	if b {
		return 1
	}
	return 0
}

// wantFlow holds Lower of statements in a text against how many places there are, and lines of edges and guards.
func wantFlow(t testing.TB, s string, places int, lines ...string) {
	t.Helper()
	source := declares + "thread t 1 { " + s + " }"
	p := parsed(t, source)
	f, err := flow.Lower(p, p.Roles[0].Body)
	want := strings.Join(append([]string{fmt.Sprint(places, " places")}, lines...), "\n")
	if got := flowText(t, source, f); err != api.OK || got != want {
		t.Errorf("%s: error %d,\n%s\nwant\n%s", s, err, got, want)
	}
}

// wantError holds Lower against an error, beside which there is no flow.
func wantError(t testing.TB, what string, p api.Program, l []api.Stmt, err api.Errno) {
	t.Helper()
	if f, got := flow.Lower(p, l); got != err || !reflect.DeepEqual(f, api.Flow{}) {
		t.Errorf("%.300s: error %d, %d places, %d edges, want error %d", what, got, f.Locs, len(f.Edges), err)
	}
}

// wantWrong holds Flows of a text against an error at the marked place, beside which there are no flows.
func wantWrong(t testing.TB, marked string, err api.Errno) {
	t.Helper()
	s, at := unmarked(marked)
	if l, gotErr, gotAt := flow.Flows(parsed(t, s)); gotErr != err || gotAt != at || l != nil {
		t.Errorf("%.300s: %d flows, error %d at %d, want %d at %d", marked, len(l), gotErr, gotAt, err, at)
	}
}

// skips are so many statements.
func skips(n int) []api.Stmt {
	var l []api.Stmt
	for range n {
		l = append(l, api.Stmt{Kind: api.StSkip})
	}
	return l
}

// chance makes programs that own.Check takes, unless they are too big, by a rule that is the same each time.
type chance struct {
	*rand.Rand
	most int
	mons []string
	meth []api.Ref
	next int
}

func newChance(seed uint64) *chance {
	c := &chance{Rand: rand.New(rand.NewPCG(seed, 12)), most: []int{3, 4, 6}[seed%3]}
	for i := range 1 + c.IntN(4) {
		c.mons = append(c.mons, string(rune('a'+i)))
	}
	return c
}

// at is a place that nothing else has, none of them 0.
func (c *chance) at() int {
	c.next++
	return c.next * (1 - c.next%2*2)
}

func (c *chance) one(list []string) string { return list[c.IntN(len(list))] }

// number is an expression that reads variables of these monitors alone.
func (c *chance) number(mons []string, depth int) api.Expr {
	switch k := c.IntN(4); {
	case k == 0 || depth == 0 && len(mons) == 0:
		return api.Expr{Op: api.OpNum, N: c.Int64N(9), At: c.at()}
	case k == 1 && depth > 0:
		return api.Expr{Op: api.OpMul, N: c.Int64N(9), Kids: []api.Expr{c.number(mons, depth-1)}, At: c.at()}
	case depth > 0:
		return api.Expr{Op: api.OpAdd + c.IntN(2), Kids: []api.Expr{c.number(mons, depth-1), c.number(mons, depth-1)}, At: c.at()}
	}
	return api.Expr{Op: api.OpVar, Mon: c.one(mons), Name: c.one([]string{"x", "y"}), At: c.at()}
}

func (c *chance) truth(mons []string, depth int) api.Expr {
	switch k := c.IntN(5); {
	case k == 0:
		return api.Expr{Op: api.OpTrue + c.IntN(2), At: c.at()}
	case k == 1 && depth > 0:
		return api.Expr{Op: api.OpNot, Kids: []api.Expr{c.truth(mons, depth-1)}, At: c.at()}
	case k == 2 && len(mons) > 0:
		return api.Expr{Op: api.OpVar, Mon: c.one(mons), Name: "b", At: c.at()}
	}
	return api.Expr{Op: api.OpEq + c.IntN(6), Kids: []api.Expr{c.number(mons, 1), c.number(mons, 1)}, At: c.at()}
}

// stmt is a statement that calls no method ahead of a place. Whoever waits waits at one of a few monitors that are owned: an if or a while around it reads that one alone.
func (c *chance) stmt(owned, waits []string, from, depth int) api.Stmt {
	s := api.Stmt{Kind: api.StSkip + c.IntN(api.StAll), E: api.Expr{At: c.at()}, At: c.at()}
	blocks := 0
	switch s.Kind {
	case api.StCall:
		if from >= len(c.meth) {
			s.Kind = api.StSkip
			break
		}
		r := c.meth[from+c.IntN(len(c.meth)-from)]
		s.Mon, s.Name = r.Mon, r.Name
	case api.StSet, api.StNotify, api.StAll, api.StWait:
		if len(owned) == 0 || s.Kind == api.StWait && len(waits) == 0 {
			s.Kind = api.StSkip
			break
		}
		s.Mon = c.one(owned)
		if s.Kind == api.StSet {
			s.Name, s.E = c.one([]string{"x", "y"}), c.number(owned, 2)
		}
		if s.Kind == api.StWait {
			s.Mon, s.N = c.one(waits), c.Int64N(3)
		}
	case api.StIf, api.StWhile:
		blocks = 1 + c.IntN(api.StWhile+1-s.Kind)
		if waits = nil; len(owned) > 0 && c.IntN(3) > 0 {
			waits = []string{c.one(owned)}
			s.E = c.truth(waits, 2)
			break
		}
		s.E = c.truth(owned, 2)
	case api.StLoop:
		blocks, waits = 1, owned
	case api.StChoose:
		blocks, waits = 1+c.IntN(4), owned
	case api.StSync:
		s.Mon, blocks = c.one(c.mons), 1
		owned = append(slices.Clone(owned), s.Mon)
		waits = owned
	}
	for range blocks {
		s.Blocks = append(s.Blocks, c.block(owned, waits, from, depth-1))
	}
	return s
}

func (c *chance) block(owned, waits []string, from, depth int) []api.Stmt {
	var l []api.Stmt
	if depth > 0 {
		for range c.IntN(c.most) {
			l = append(l, c.stmt(owned, waits, from, depth))
		}
		for len(waits) == 1 && c.IntN(2) == 0 {
			l = slices.Insert(l, c.IntN(len(l)+1), api.Stmt{Kind: api.StWait, Mon: waits[0], N: c.Int64N(3), At: c.at()})
		}
	}
	return l
}

// program declares all that there is, and then lays the statements. Methods call those behind them alone.
func (c *chance) program() api.Program {
	var p api.Program
	for _, name := range c.mons {
		m := api.Monitor{Name: name, At: c.at()}
		for i, v := range []string{"x", "b", "y"} {
			m.Vars = append(m.Vars, api.Var{Name: v, Type: []int{api.TyInt, api.TyBool, api.TyInt}[i], At: c.at()})
		}
		for k := range c.IntN(4) {
			m.Methods = append(m.Methods, api.Method{Name: fmt.Sprint("f", k), At: c.at()})
			c.meth = append(c.meth, api.Ref{Mon: name, Name: fmt.Sprint("f", k)})
		}
		p.Mons = append(p.Mons, m)
	}
	from := 0
	for i := range p.Mons {
		owned := []string{p.Mons[i].Name}
		for k := range p.Mons[i].Methods {
			from++
			p.Mons[i].Methods[k].Body = c.block(owned, owned, from, 3)
		}
	}
	for i := range c.IntN(5) {
		r := api.Role{Name: fmt.Sprint("r", i), Star: c.IntN(3) == 0, Body: c.block(nil, nil, 0, 4), At: c.at()}
		if !r.Star {
			r.Count = 1 + c.Int64N(1+c.Int64N(api.MaxCount))
		}
		p.Roles = append(p.Roles, r)
	}
	return p
}
