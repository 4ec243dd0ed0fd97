package own_test

import (
	"fmt"
	"math/rand/v2"
	"slices"
	"strings"
	"testing"

	"vigil/api"
	"vigil/own"
	"vigil/parse"
)

// What the tests of this package begin with, each made anew.

// deep is how many parts may be nested.
const deep = 1<<16 - 2

func parsed(t testing.TB, s string) api.Program {
	t.Helper()
	p, err, at := parse.Parse(s)
	if err != api.OK {
		t.Fatalf("%.300q: error %d at %d", s, err, at)
	}
	return p
}

// unmarked is a text in which a place is marked by a @ ahead of it, without the mark, and that place.
func unmarked(s string) (string, int) {
	return strings.ReplaceAll(s, "@", ""), max(strings.Index(s, "@"), 0)
}

func wantScope(t testing.TB, what string, l []api.Stmt, owned []string, err api.Errno, at int) {
	t.Helper()
	if gotErr, gotAt := own.Scope(l, owned...); gotErr != err || gotAt != at {
		t.Errorf("%.300s, where %.200q: %d at %d, want %d at %d", what, owned, gotErr, gotAt, err, at)
	}
}

func wantCheck(t testing.TB, what string, p api.Program, err api.Errno, at int) {
	t.Helper()
	if gotErr, gotAt := own.Check(p); gotErr != err || gotAt != at {
		t.Errorf("%.300s: %d at %d, want %d at %d", what, gotErr, gotAt, err, at)
	}
}

// wantStmts holds Scope of statements in a text, where the monitors of these names are owned, against an error at the marked place: as they stand, and deeper.
func wantStmts(t testing.TB, marked, owned string, err api.Errno) {
	t.Helper()
	for _, around := range []string{"%s", "skip; loop { %s }", "if true { } else { choose { skip; } or { while true { %s } } }", "sync other { sync other { } %s }"} {
		s, at := unmarked("thread t 1 { " + strings.Replace(around, "%s", marked, 1) + " }")
		wantScope(t, s, parsed(t, s).Roles[0].Body, strings.Fields(owned), err, at)
	}
}

// wantText holds Check of a text against an error at the marked place.
func wantText(t testing.TB, marked string, err api.Errno) {
	t.Helper()
	s, at := unmarked(marked)
	wantCheck(t, marked, parsed(t, s), err, at)
}

// read is the expression that reads a variable of a monitor.
func read(mon string, at int) api.Expr {
	return api.Expr{Op: api.OpVar, Mon: mon, Name: "x", At: at}
}

// of is an expression of these, whatever they are.
func of(op int, kids ...api.Expr) api.Expr {
	return api.Expr{Op: op, Kids: kids, At: 1}
}

func notify(mon string, at int) api.Stmt {
	return api.Stmt{Kind: api.StNotify, Mon: mon, At: at}
}

func wait(mon string, at int) api.Stmt {
	return api.Stmt{Kind: api.StWait, Mon: mon, At: at}
}

// nested is a list in so many statements around it, of which each is made by its number, from the inside on.
func nested(depth int, l []api.Stmt, around func(i int) api.Stmt) []api.Stmt {
	for i := range depth {
		s := around(i)
		s.Blocks = [][]api.Stmt{l}
		l = []api.Stmt{s}
	}
	return l
}

// chance makes statements and programs by a rule that is the same each time. One in so many of their parts asks for any monitor, whether it is owned or not; one in so many statements is of no right shape.
type chance struct {
	*rand.Rand
	right int
	odd   int
	mons  []string
	next  int
}

func newChance(seed uint64, right, odd int) *chance {
	c := &chance{Rand: rand.New(rand.NewPCG(seed, 9)), right: right, odd: odd}
	for i := range 1 + c.IntN(4) {
		c.mons = append(c.mons, string(rune('a'+i)))
	}
	return c
}

// at is a place that nothing else has, none of them 0.
func (c *chance) at() int {
	c.next++
	return c.next * (1 - c.next%2*2)
}

func (c *chance) one(list []string) string { return list[c.IntN(len(list))] }

// mon is a monitor that is owned, if there is one, unless it slips; else none may be asked for.
func (c *chance) mon(owned []string) (string, bool) {
	if c.IntN(c.right) == 0 {
		return c.one(c.mons), true
	}
	if len(owned) == 0 {
		return "", false
	}
	return c.one(owned), true
}

// number is an expression that reads what is owned.
func (c *chance) number(owned []string, depth int) api.Expr {
	e := api.Expr{Op: api.OpNum, N: c.Int64N(9), At: c.at()}
	kids := 2
	switch k := c.IntN(6); {
	case k < 2 || depth == 0:
		mon, ok := c.mon(owned)
		if !ok {
			return e
		}
		return read(mon, c.at())
	case k < 3:
		e.Op, kids = api.OpMul, 1
	case k < 4:
		e.Op, e.N, kids = api.OpNeg, 0, 1
	default:
		e.Op, e.N = api.OpAdd+c.IntN(2), 0
	}
	for range kids {
		e.Kids = append(e.Kids, c.number(owned, depth-1))
	}
	return e
}

func (c *chance) truth(owned []string, depth int) api.Expr {
	e := api.Expr{At: c.at()}
	switch k := c.IntN(6); {
	case k == 0:
		e.Op = api.OpTrue + c.IntN(2)
	case k == 1 && depth > 0:
		e.Op, e.Kids = api.OpNot, []api.Expr{c.truth(owned, depth-1)}
	case k == 2 && depth > 0:
		e.Op, e.Kids = api.OpAnd+c.IntN(2), []api.Expr{c.truth(owned, depth-1), c.truth(owned, depth-1)}
	default:
		e.Op, e.Kids = api.OpEq+c.IntN(6), []api.Expr{c.number(owned, 1), c.number(owned, 1)}
	}
	return e
}

// guard is an if or a while that waits, at a monitor whose variables it reads, unless it slips.
func (c *chance) guard(owned []string, depth int) api.Stmt {
	s := api.Stmt{Kind: api.StIf + c.IntN(2), At: c.at()}
	mon := []string{c.one(owned)}
	s.E = c.truth(mon, 2)
	s.Blocks = append(s.Blocks, c.block(owned, depth-1))
	if s.Kind == api.StIf && c.IntN(2) == 0 {
		s.Blocks = append(s.Blocks, c.block(owned, depth-1))
	}
	for range 1 + c.IntN(2) {
		at, _ := c.mon(mon)
		i := c.IntN(len(s.Blocks))
		s.Blocks[i] = slices.Insert(s.Blocks[i], c.IntN(len(s.Blocks[i])+1), wait(at, c.at()))
	}
	return s
}

func (c *chance) stmt(owned []string, depth int) api.Stmt {
	if len(owned) > 0 && c.IntN(3) == 0 {
		return c.guard(owned, depth)
	}
	s := api.Stmt{Kind: api.StSkip + c.IntN(api.StAll), E: api.Expr{At: c.at()}, At: c.at()}
	mon, ok := c.mon(owned)
	blocks := 0
	switch s.Kind {
	case api.StCall:
		s.Mon, s.Name = c.one(c.mons), "f"
	case api.StSet, api.StWait, api.StNotify, api.StAll:
		if !ok {
			s.Kind = api.StSkip
			break
		}
		s.Mon = mon
		if s.Kind == api.StSet {
			s.Name, s.E = "x", c.number(owned, 2)
		}
	case api.StIf, api.StWhile:
		s.E, blocks = c.truth(owned, 2), 1+c.IntN(api.StWhile+1-s.Kind)
	case api.StLoop:
		blocks = 1
	case api.StChoose:
		blocks = 1 + c.IntN(3)
	case api.StSync:
		s.Mon, blocks = c.one(c.mons), 1
		owned = append(slices.Clone(owned), s.Mon)
	}
	for range blocks {
		s.Blocks = append(s.Blocks, c.block(owned, depth-1))
	}
	return s
}

// bent is a statement with a part that it has not by its kind.
func (c *chance) bent(s api.Stmt, owned []string, depth int) api.Stmt {
	switch c.IntN(6) {
	case 0:
		s.Kind = c.IntN(api.StAll+5) - 2
	case 1:
		s.E = c.number(owned, 2)
	case 2:
		s.E = api.Expr{Op: api.OpVar, Mon: s.Mon, At: c.at(), Kids: []api.Expr{c.number(owned, 1), s.E}}
	case 3:
		s.Blocks = append(s.Blocks, c.block(owned, depth-1), []api.Stmt{wait(c.one(c.mons), c.at())})
	case 4:
		s.Blocks = nil
	case 5:
		s.Mon = ""
	}
	return s
}

func (c *chance) block(owned []string, depth int) []api.Stmt {
	var l []api.Stmt
	if depth > 0 {
		for range c.IntN(4) {
			s := c.stmt(owned, depth)
			if c.IntN(c.odd) == 0 {
				s = c.bent(s, owned, depth)
			}
			l = append(l, s)
		}
	}
	return l
}

// owned is some names of monitors, some of them twice.
func (c *chance) owned() []string {
	var list []string
	for range c.IntN(4) {
		list = append(list, c.one(c.mons))
	}
	return list
}

// program is one that calls.Check takes, unless a statement is bent. Its roles alone call: so no method is in a cycle.
func (c *chance) program() api.Program {
	var p api.Program
	for _, name := range c.mons {
		m := api.Monitor{Name: name, Vars: []api.Var{{Name: "x", Type: api.TyInt, At: c.at()}}, At: c.at()}
		m.Methods = append(m.Methods, api.Method{Name: "f", At: c.at()})
		for k := range c.IntN(3) {
			m.Methods = append(m.Methods, api.Method{Name: fmt.Sprint("g", k), Body: c.block([]string{name}, 3), At: c.at()})
		}
		p.Mons = append(p.Mons, m)
	}
	for i := range c.IntN(4) {
		p.Roles = append(p.Roles, api.Role{Name: fmt.Sprint("r", i), Star: true, Body: c.block(nil, 4), At: c.at()})
	}
	return p
}
