package held_test

import (
	"fmt"
	"math/rand/v2"
	"reflect"
	"slices"
	"strings"
	"testing"

	"vigil/api"
	"vigil/calls"
	"vigil/flow"
	"vigil/held"
	"vigil/own"
)

// chance writes programs that are right, unless they are too big, by a rule that is the same each time: each monitor has two variables, the bool b and the int n.
type chance struct {
	*rand.Rand
	mons  []string
	meths []string
}

func (c *chance) one(list []string) string { return list[c.IntN(len(list))] }

// guard is a bool expression that reads no other variable than those of a monitor, which is owned.
func (c *chance) guard(mon string) string {
	return strings.ReplaceAll([]string{"true", "m.b", "!m.b", "m.n > 0 && m.b"}[c.IntN(4)], "m", mon)
}

// act is a statement without blocks, where these monitors are owned; methods are called from a place on.
func (c *chance) act(owned []string, from int) string {
	if k := c.IntN(4); k == 0 && from < len(c.meths) {
		return "call " + c.meths[from+c.IntN(len(c.meths)-from)] + "; "
	} else if k > 0 && len(owned) > 0 {
		m := c.one(owned)
		return strings.ReplaceAll([]string{"m.n = m.n + 1; ", "m.b = !m.b; ", "notify m; ", "notifyall m; "}[c.IntN(4)], "m", m)
	}
	return "skip; "
}

// part is a statement with blocks. What waits there waits at the monitor that is asked around it.
func (c *chance) part(owned []string, from, depth int) string {
	mon, guard := "", "true"
	if len(owned) > 0 {
		mon = c.one(owned)
		guard = c.guard(mon)
	}
	block := func(mon string) string { return "{ " + c.block(owned, mon, from, depth) + "} " }
	switch c.IntN(8) {
	case 0:
		return "if " + guard + " " + block(mon)
	case 1:
		return "if " + guard + " " + block(mon) + "else " + block(mon)
	case 2:
		return "while " + guard + " " + block(mon)
	case 3:
		return "loop " + block(mon)
	case 4:
		return "choose " + block(mon) + strings.Repeat("or "+block(""), c.IntN(3))
	}
	enters := c.one(c.mons)
	return "sync " + enters + " { " + c.block(append(slices.Clone(owned), enters), enters, from, depth) + "} "
}

func (c *chance) block(owned []string, waits string, from, depth int) string {
	s := ""
	for range c.IntN(4) {
		switch k := c.IntN(5); {
		case k < 3 && depth > 0:
			s += c.part(owned, from, depth-1)
		case k == 3 && waits != "":
			s += "wait " + waits + []string{"; ", " 7; "}[c.IntN(2)]
		default:
			s += c.act(owned, from)
		}
	}
	return s
}

// program declares monitors whose methods call those behind them alone, and roles.
func (c *chance) program() string {
	c.mons = []string{"a", "c", "d", "e"}[:1+c.IntN(4)]
	for _, m := range c.mons {
		for k := range c.IntN(3) {
			c.meths = append(c.meths, fmt.Sprint(m, ".f", k))
		}
	}
	var s strings.Builder
	from := 0
	for _, m := range c.mons {
		fmt.Fprintf(&s, "monitor %s { var b : bool = true; var n : int = 0; ", m)
		for from < len(c.meths) && strings.HasPrefix(c.meths[from], m) {
			from++
			fmt.Fprintf(&s, "method %s { %s} ", c.meths[from-1][2:], c.block([]string{m}, m, from, 2))
		}
		s.WriteString("} ")
	}
	for i := range 1 + c.IntN(2) {
		fmt.Fprintf(&s, "thread r%d %s { %s} ", i, c.one([]string{"1", "2", "*"}), c.block(nil, "", 0, 4))
	}
	return s.String()
}

// spots gives each of inlined statements a place of its own, which is its expression's place too, and tells of these places how often each monitor is owned around the statement that stands there, by the blocks of the StSyncs in which it stands.
type spots struct {
	mons   []api.Monitor
	around [][]int
}

func (x *spots) mon(s api.Stmt) int {
	return slices.IndexFunc(x.mons, func(m api.Monitor) bool { return m.Name == s.Mon })
}

func (x *spots) lay(l []api.Stmt, owned []int) {
	for i := range l {
		s := &l[i]
		s.At, s.E.At = len(x.around), len(x.around)
		x.around = append(x.around, owned)
		inner := owned
		if s.Kind == api.StSync {
			inner = slices.Clone(owned)
			inner[x.mon(*s)]++
		}
		for _, b := range s.Blocks {
			x.lay(b, inner)
		}
	}
}

// at tells what is owned where an edge begins: what is owned around its statement; what ends a StSync begins within it.
func (x *spots) at(e api.Edge) []int {
	n := slices.Clone(x.around[e.At])
	if e.Kind == api.EdLeave {
		n[e.Mon]++
	}
	return n
}

// numbersOf is what Held must tell of a flow: what is owned where its edges begin; where none does, nothing is.
func (x *spots) numbersOf(t *testing.T, what string, f api.Flow) [][]int {
	t.Helper()
	all := make([][]int, f.Locs)
	for loc, is := range reaches(f) {
		if !is {
			continue
		}
		all[loc] = make([]int, len(x.mons))
		for i, k := range flow.Out(f, loc) {
			if n := x.at(f.Edges[k]); i > 0 && !slices.Equal(n, all[loc]) {
				t.Fatalf("%s: %+v: from %d lead unlike edges", what, f, loc)
			} else {
				all[loc] = n
			}
		}
	}
	return all
}

// tally is what the programs of a test had, of edges to which a way leads how many of each kind.
type tally struct {
	kinds                  [api.EdPick + 1]int
	ends, unreached, twice int
}

// look holds P13.5 of one flow: where somebody waits, wakes or sets, the monitor is owned; where no edge leads on, nothing is.
func (c *tally) look(t *testing.T, what string, f api.Flow, h [][]int) {
	t.Helper()
	for loc, n := range h {
		if n == nil {
			c.unreached++
			continue
		}
		if slices.Max(n) > 1 {
			c.twice++
		}
		out := flow.Out(f, loc)
		if len(out) == 0 {
			if c.ends++; slices.Max(n) > 0 {
				t.Errorf("%s: %v is owned at %d, where it ends", what, n, loc)
			}
		}
		for _, k := range out {
			e := f.Edges[k]
			c.kinds[e.Kind]++
			asks := slices.Contains([]int{api.EdWait, api.EdNotify, api.EdAll}, e.Kind)
			if asks && n[e.Mon] < 1 || e.Kind == api.EdSet && n[e.Var/2] < 1 {
				t.Errorf("%s: %v is owned at %d, from which %+v leads", what, n, loc, e)
			}
		}
	}
}

// TestProgramsHeld: P13.5, and P13.1, P13.2, P13.4 of the flows of programs that are right, against the blocks in which their statements stand.
func TestProgramsHeld(t *testing.T) {
	var seen tally
	right := 0
	for seed := range uint64(3000) {
		c := chance{Rand: rand.New(rand.NewPCG(seed, 5))}
		text := c.program()
		p := parsed(t, text)
		if err, at := own.Check(p); err == api.ErrBig {
			continue
		} else if err != api.OK {
			t.Fatalf("%s: error %d at %d", text, err, at)
		}
		for _, r := range p.Roles {
			in, _ := calls.Inline(p, r.Body)
			x := spots{mons: p.Mons}
			x.lay(in, make([]int, len(p.Mons)))
			f, err := flow.Lower(p, in)
			if err == api.ErrWide {
				continue
			}
			right++
			wantAll(t, text, f, len(p.Mons), x.numbersOf(t, text, f))
			h, _ := held.Held(f, len(p.Mons))
			seen.look(t, text, f, h)
			// The places in the text are not asked.
			same, err := flow.Lower(p, r.Body)
			if again, ok := held.Held(same, len(p.Mons)); err != api.OK || !ok || !reflect.DeepEqual(again, h) {
				t.Errorf("%s: %v, want %v", text, again, h)
			}
		}
		if t.Failed() {
			return
		}
	}
	if right < 2000 || slices.Min(seen.kinds[1:]) < 300 || seen.ends < 1000 || seen.unreached < 500 || seen.twice < 500 {
		t.Error(right, seen)
	}
}

// TestFlowsHeld: P13.5 of all flows of a program, where methods are called, and not all monitors are named by each role.
func TestFlowsHeld(t *testing.T) {
	text := `monitor z { }
monitor a { var b : bool = true; method get { while a.b { wait a; } a.b = true; notifyall a; } }
monitor y { }
monitor c { var n : 0..3 = 0; method put { if c.n == 3 { wait c 9; } else { notify c; } call a.get; } }
thread r 2 { call c.put; sync z { call c.put; } }
thread s * { loop { choose { call a.get; } or { sync c { sync a { a.b = c.n > 0; } } } } }
thread u 1 { }
`
	nests := func(text string) ([]string, []api.Nest) {
		l, err, at := flow.Flows(parsed(t, text))
		if err != api.OK {
			t.Fatal(err, at)
		}
		var texts []string
		var all []api.Nest
		for _, f := range l {
			if h, ok := held.Held(f, 4); !ok || len(h) != f.Locs {
				t.Errorf("%s: %v, %d places", f.Name, ok, len(h))
			}
			n := held.Nests(f, 4)
			texts, all = append(texts, nestsText(n)), append(all, n...)
		}
		return texts, all
	}
	// By the place among the monitors, z is a, a is b, y is c, c is d.
	got, all := nests(text)
	if want := []string{"ab ad db", "ab ad db", "db", ""}; !slices.Equal(got, want) || held.Round(all...) {
		t.Errorf("%q, want %q: none of them goes round", got, want)
	}
	got, all = nests(text + "thread v 1 { sync a { call c.put; } }")
	if want := []string{"ab ad db", "ab ad db", "db", "", "bd"}; !slices.Equal(got, want) || !held.Round(all...) {
		t.Errorf("%q, want %q: bd and db go round", got, want)
	}
}
