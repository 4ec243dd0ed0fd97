package names_test

import (
	"math/rand/v2"
	"strings"
	"testing"

	"vigil/api"
	"vigil/names"
	"vigil/parse"
	"vigil/print"
)

// What the tests of this package begin with, each made anew.

// deep is how many parts may be nested.
const deep = 1<<16 - 2

func parsed(t testing.TB, s string) api.Program {
	t.Helper()
	p, err, at := parse.Parse(s)
	if err != api.OK {
		t.Fatalf("%.300q: error %d at %d", s, err, at)
	}
	return p
}

func wantCheck(t testing.TB, what string, p api.Program, err api.Errno, at int) {
	t.Helper()
	if gotErr, gotAt := names.Check(p); gotErr != err || gotAt != at {
		t.Errorf("%.300s: %d at %d, want %d at %d", what, gotErr, gotAt, err, at)
	}
}

// wantText holds Check of a text, in which the place of the error is marked by a @ ahead of it, against an error.
func wantText(t testing.TB, marked string, err api.Errno) {
	t.Helper()
	at := max(strings.Index(marked, "@"), 0)
	wantCheck(t, marked, parsed(t, strings.ReplaceAll(marked, "@", "")), err, at)
}

// sample is a program with all kinds of statements, in which all names are right.
func sample() string {
	return `monitor M { var a : int = 0; var b : 0..3 = 1; method f { } method g { M.a = M.b + 2 * -M.a; call M.f; } }
monitor N { var a : bool = true; method M { if N.a || !N.a { notify N; } else { notifyall M; } } }
monitor E { }
thread M 8 { sync E { while M.a < M.b && N.a == (M.a == 1) { wait E; wait E 5; skip; } } call N.M; }
thread t 1 { loop { choose { sync M { M.b = 3; } } or { call M.g; } } }
thread a * { }
`
}

// chance makes programs by a rule that is the same each time. One in so many of its names is wrong perhaps.
type chance struct {
	*rand.Rand
	right int
	p     api.Program
}

func newChance(seed uint64, right int) *chance {
	return &chance{Rand: rand.New(rand.NewPCG(seed, 6)), right: right}
}

func (c *chance) slips() bool { return c.IntN(c.right) == 0 }

// any is one of so few names that they meet.
func (c *chance) any() string { return string(rune('a' + c.IntN(8))) }

// free is the next of the names that are not taken, or any.
func (c *chance) free(taken int) string {
	if c.slips() {
		return c.any()
	}
	return string(rune('a' + taken))
}

func (c *chance) mon() string {
	if len(c.p.Mons) == 0 || c.slips() {
		return c.any()
	}
	return c.p.Mons[c.IntN(len(c.p.Mons))].Name
}

func (c *chance) variable() (string, string) {
	var all []api.Ref
	for _, m := range c.p.Mons {
		for _, v := range m.Vars {
			all = append(all, api.Ref{Mon: m.Name, Name: v.Name})
		}
	}
	return c.oneOf(all)
}

func (c *chance) method() (string, string) {
	var all []api.Ref
	for _, m := range c.p.Mons {
		for _, f := range m.Methods {
			all = append(all, api.Ref{Mon: m.Name, Name: f.Name})
		}
	}
	return c.oneOf(all)
}

func (c *chance) oneOf(all []api.Ref) (string, string) {
	if len(all) == 0 || c.slips() {
		return c.mon(), c.any()
	}
	r := all[c.IntN(len(all))]
	return r.Mon, r.Name
}

func (c *chance) expr(depth int) api.Expr {
	op := api.OpNum + c.IntN(api.OpOr)
	if depth == 0 || c.IntN(4) == 0 {
		op = api.OpVar
	}
	e := api.Expr{Op: op}
	kids := 2
	switch {
	case op == api.OpVar:
		e.Mon, e.Name = c.variable()
		return e
	case op < api.OpVar:
		kids = 0
	case op < api.OpAdd:
		kids = 1
	}
	for range kids {
		e.Kids = append(e.Kids, c.expr(depth-1))
	}
	return e
}

func (c *chance) stmt(depth int) api.Stmt {
	s := api.Stmt{Kind: api.StSkip + c.IntN(api.StAll)}
	switch s.Kind {
	case api.StSet:
		s.Mon, s.Name = c.variable()
		s.E = c.expr(2)
	case api.StCall:
		s.Mon, s.Name = c.method()
	case api.StWait, api.StNotify, api.StAll, api.StSync:
		s.Mon = c.mon()
	case api.StIf, api.StWhile:
		s.E = c.expr(3)
	}
	blocks := 0
	switch s.Kind {
	case api.StWhile, api.StLoop, api.StSync:
		blocks = 1
	case api.StIf, api.StChoose:
		blocks = 1 + c.IntN(2)
	}
	for range blocks {
		s.Blocks = append(s.Blocks, c.block(depth-1))
	}
	return s
}

func (c *chance) block(depth int) []api.Stmt {
	var list []api.Stmt
	if depth > 0 {
		for range c.IntN(4) {
			list = append(list, c.stmt(depth))
		}
	}
	return list
}

// program declares all that there is, and then lays the statements, which speak of it.
func (c *chance) program() api.Program {
	c.p = api.Program{}
	for i := range c.IntN(4) {
		m := api.Monitor{Name: c.free(i)}
		for k := range c.IntN(4) {
			m.Vars = append(m.Vars, api.Var{Name: c.free(k), Type: api.TyInt})
		}
		for k := range c.IntN(3) {
			m.Methods = append(m.Methods, api.Method{Name: c.free(len(m.Vars) + k)})
		}
		c.p.Mons = append(c.p.Mons, m)
	}
	for i := range c.p.Mons {
		for k := range c.p.Mons[i].Methods {
			c.p.Mons[i].Methods[k].Body = c.block(3)
		}
	}
	for i := range c.IntN(4) {
		r := api.Role{Name: c.free(i), Count: 1 + c.Int64N(api.MaxCount), Body: c.block(3)}
		switch {
		case c.slips():
			r.Count = []int64{0, api.MaxCount + 1}[c.IntN(2)]
		case c.IntN(3) == 0:
			r.Star, r.Count = true, 0
		}
		c.p.Roles = append(c.p.Roles, r)
	}
	return c.p
}

// text is the text of what the chance makes; threads stand ahead of monitors in it at times.
func (c *chance) text(t testing.TB) string {
	t.Helper()
	p := c.program()
	mons, err := print.Text(api.Program{Mons: p.Mons})
	if err != api.OK {
		t.Fatal(err)
	}
	roles, err := print.Text(api.Program{Roles: p.Roles})
	if err != api.OK {
		t.Fatal(err)
	}
	if c.IntN(3) == 0 {
		return roles + mons
	}
	return mons + roles
}
