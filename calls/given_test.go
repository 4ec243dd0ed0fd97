package calls_test

import (
	"fmt"
	"math/rand/v2"
	"reflect"
	"strings"
	"testing"

	"vigil/api"
	"vigil/calls"
	"vigil/parse"
	"vigil/tree"
)

// What the tests of this package begin with, each made anew.

// deep is how many parts may be nested.
const deep = 1<<16 - 2

func parsed(t testing.TB, s string) api.Program {
	t.Helper()
	p, err, at := parse.Parse(s)
	if err != api.OK {
		t.Fatalf("%.300q: error %d at %d", s, err, at)
	}
	return p
}

// stmts are the statements of a text.
func stmts(t testing.TB, s string) []api.Stmt {
	t.Helper()
	return parsed(t, "thread t 1 { "+s+" }").Roles[0].Body
}

// refs are methods, from their names with a point between.
func refs(s string) []api.Ref {
	var all []api.Ref
	for _, word := range strings.Fields(s) {
		mon, name, _ := strings.Cut(word, ".")
		all = append(all, api.Ref{Mon: mon, Name: name})
	}
	return all
}

// ordered are statements with all that is in them, each ahead of what it has.
func ordered(l []api.Stmt) []api.Stmt {
	var all []api.Stmt
	for _, s := range l {
		all = append(all, s)
		for _, b := range s.Blocks {
			all = append(all, ordered(b)...)
		}
	}
	return all
}

// wantCount holds Count against a number and an error, and Inline against that error and what follows: it is as big (P8.5), calls nothing, and stays as it is when it is inlined again (P8.6).
func wantCount(t testing.TB, what string, p api.Program, l []api.Stmt, n int, err api.Errno) {
	t.Helper()
	if got, gotErr := calls.Count(p, l); got != n || gotErr != err {
		t.Errorf("%.300s: %d, error %d, want %d, %d", what, got, gotErr, n, err)
	}
	in, gotErr := calls.Inline(p, l)
	if gotErr != err || err != api.OK && in != nil {
		t.Errorf("%.300s: inlined: %d statements, error %d, want %d", what, len(in), gotErr, err)
	}
	if err != api.OK {
		return
	}
	if all := ordered(in); len(all) != n || calls.Calls(in) != nil {
		t.Errorf("%.300s: inlined: %d statements, want %d; it calls %v", what, len(all), n, calls.Calls(in))
	}
	if got, gotErr := calls.Count(p, in); got != n || gotErr != api.OK {
		t.Errorf("%.300s: inlined: %d, error %d, want %d", what, got, gotErr, n)
	}
	if again, gotErr := calls.Inline(p, in); !reflect.DeepEqual(again, in) || gotErr != api.OK {
		t.Errorf("%.300s: inlined twice: %+v, error %d, want %+v", what, again, gotErr, in)
	}
}

// wantStmts is wantCount of statements in a text.
func wantStmts(t testing.TB, p api.Program, s string, n int, err api.Errno) {
	t.Helper()
	wantCount(t, s, p, stmts(t, s), n, err)
}

// wantInline holds Inline of statements in a text against those in another one.
func wantInline(t testing.TB, p api.Program, s, want string) {
	t.Helper()
	in, err := calls.Inline(p, stmts(t, s))
	if err != api.OK || !tree.SameStmts(in, stmts(t, want)) {
		t.Errorf("%.300s: error %d, %+v, want %s", s, err, in, want)
	}
}

func wantCheck(t testing.TB, what string, p api.Program, err api.Errno, at int) {
	t.Helper()
	if gotErr, gotAt := calls.Check(p); gotErr != err || gotAt != at {
		t.Errorf("%.300s: %d at %d, want %d at %d", what, gotErr, gotAt, err, at)
	}
}

// wantText holds Check of a text, in which the place of the error is marked by a @ ahead of it, against an error.
func wantText(t testing.TB, marked string, err api.Errno) {
	t.Helper()
	at := max(strings.Index(marked, "@"), 0)
	wantCheck(t, marked, parsed(t, strings.ReplaceAll(marked, "@", "")), err, at)
}

// skips are so many statements.
func skips(n int) []api.Stmt {
	var l []api.Stmt
	for range n {
		l = append(l, api.Stmt{Kind: api.StSkip})
	}
	return l
}

// call is the statement that calls a method.
func call(mon, name string) api.Stmt {
	return api.Stmt{Kind: api.StCall, Mon: mon, Name: name}
}

// within is a list in so many loops around it.
func within(depth int, l []api.Stmt) []api.Stmt {
	for range depth {
		l = []api.Stmt{{Kind: api.StLoop, Blocks: [][]api.Stmt{l}}}
	}
	return l
}

// chain is a program with as many methods as there may be, each of which does what is told of the next one's call; the last one does nothing.
func chain(body func(next api.Stmt) []api.Stmt) api.Program {
	name := func(i int) string { return "n" + strings.Repeat("x", i) }
	p := api.Program{Roles: []api.Role{{Name: "r", Star: true, Body: []api.Stmt{call(name(0), name(0))}, At: 7}}}
	for i := range api.MaxMons {
		m := api.Monitor{Name: name(i)}
		for k := range api.MaxMeths {
			f := api.Method{Name: name(k)}
			switch {
			case k+1 < api.MaxMeths:
				f.Body = body(call(name(i), name(k+1)))
			case i+1 < api.MaxMons:
				f.Body = body(call(name(i+1), name(0)))
			}
			m.Methods = append(m.Methods, f)
		}
		p.Mons = append(p.Mons, m)
	}
	return p
}

// chance makes programs by a rule that is the same each time, with fewer than so many statements in a block. Methods call those behind them alone; one in so many of their calls goes anywhere, or nowhere.
type chance struct {
	*rand.Rand
	right int
	most  int
	p     api.Program
	all   []api.Ref
	next  int
}

func newChance(seed uint64, right int) *chance {
	return &chance{Rand: rand.New(rand.NewPCG(seed, 8)), right: right, most: []int{4, 4, 7}[seed%3]}
}

func (c *chance) slips() bool { return c.IntN(c.right) == 0 }

// at is a place that nothing else has, none of them 0.
func (c *chance) at() int {
	c.next++
	return c.next * (1 - c.next%2*2)
}

func (c *chance) mon() string { return c.p.Mons[c.IntN(len(c.p.Mons))].Name }

// method is one of those from a place on, if there is one.
func (c *chance) method(from int) (api.Ref, bool) {
	if c.slips() {
		if c.IntN(8) == 0 {
			return api.Ref{Mon: c.mon(), Name: "nobody"}, true
		}
		from = 0
	}
	if from >= len(c.all) {
		return api.Ref{}, false
	}
	return c.all[from+c.IntN(len(c.all)-from)], true
}

// stmt is a statement that calls no method ahead of a place, unless it slips.
func (c *chance) stmt(from, depth int) api.Stmt {
	s := api.Stmt{Kind: api.StSkip + c.IntN(api.StAll), At: c.at()}
	if r, ok := c.method(from); ok && c.IntN(2) == 0 {
		return api.Stmt{Kind: api.StCall, Mon: r.Mon, Name: r.Name, E: api.Expr{At: c.at()}, At: s.At}
	}
	blocks := 0
	s.E.At = c.at()
	switch s.Kind {
	case api.StCall:
		s.Kind = api.StSkip
	case api.StSet:
		s.Mon, s.Name, s.E = c.mon(), "x", api.Expr{Op: api.OpNum, N: c.Int64N(9), At: c.at()}
	case api.StWait, api.StNotify, api.StAll:
		s.Mon = c.mon()
		if s.Kind == api.StWait {
			s.N = c.Int64N(3)
		}
	case api.StIf, api.StWhile:
		x := api.Expr{Op: api.OpVar, Mon: c.mon(), Name: "x", At: c.at()}
		s.E, blocks = api.Expr{Op: api.OpLt, Kids: []api.Expr{x, x}, At: c.at()}, 1
		if s.Kind == api.StIf {
			blocks += c.IntN(2)
		}
	case api.StLoop:
		blocks = 1
	case api.StSync:
		s.Mon, blocks = c.mon(), 1
	case api.StChoose:
		blocks = 1 + c.IntN(3)
	}
	for range blocks {
		s.Blocks = append(s.Blocks, c.block(from, depth-1))
	}
	return s
}

func (c *chance) block(from, depth int) []api.Stmt {
	var l []api.Stmt
	if depth > 0 {
		for range c.IntN(c.most) {
			l = append(l, c.stmt(from, depth))
		}
	}
	return l
}

// program declares all that there is, and then lays the statements, which speak of it. Its types are right; its names too, unless a call goes nowhere.
func (c *chance) program() api.Program {
	c.p, c.all = api.Program{}, nil
	for i := range 1 + c.IntN(3) {
		m := api.Monitor{Name: string(rune('a' + i)), Vars: []api.Var{{Name: "x", Type: api.TyInt, At: c.at()}}, At: c.at()}
		for k := range c.IntN(5) {
			f := api.Method{Name: string(rune('a' + k)), At: c.at()}
			m.Methods = append(m.Methods, f)
			c.all = append(c.all, api.Ref{Mon: m.Name, Name: f.Name})
		}
		c.p.Mons = append(c.p.Mons, m)
	}
	from := 0
	for i := range c.p.Mons {
		for k := range c.p.Mons[i].Methods {
			from++
			c.p.Mons[i].Methods[k].Body = c.block(from, 3)
		}
	}
	for i := range c.IntN(4) {
		c.p.Roles = append(c.p.Roles, api.Role{Name: fmt.Sprint("r", i), Star: true, Body: c.block(0, 3), At: c.at()})
	}
	return c.p
}
