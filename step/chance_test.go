package step_test

import (
	"fmt"
	"math/rand/v2"
	"slices"
	"strings"
	"testing"

	"vigil/api"
	"vigil/flow"
	"vigil/names"
	"vigil/parse"
	"vigil/world"
)

// chance writes programs that are right, unless they are too big, and makes worlds of them, by a rule that is the same each time. Each monitor has the bool b, the range n, the int x.
type chance struct {
	*rand.Rand
	mons  []string
	meths []string
}

func newChance(seed, kind uint64) *chance { return &chance{Rand: rand.New(rand.NewPCG(seed, kind))} }

func one[T any](c *chance, l ...T) T { return l[c.IntN(len(l))] }

// guard is a bool expression that reads no other variable than those of a monitor.
func (c *chance) guard(mon string) string {
	return strings.ReplaceAll(one(c, "true", "m.b", "!m.b", "m.n > 1 && m.b", "m.n != 2", "m.x + 1 > 0", "m.x + 1 > 0", "m.b || m.x - 1 < 3"), "m", mon)
}

// act is a statement without blocks, where these monitors are owned; methods are called from a place on.
func (c *chance) act(owned []string, from int) string {
	if k := c.IntN(5); k == 0 && from < len(c.meths) {
		return "call " + c.meths[from+c.IntN(len(c.meths)-from)] + "; "
	} else if k > 0 && len(owned) > 0 {
		s := one(c, "m.n = m.n + 1; ", "m.n = 3 - m.n; ", "m.b = !m.b; ", "m.b = o.n > 1; ", "m.x = m.x + o.n; ", "m.x = 4 * m.x; ", "notify m; ", "notify m; ", "notifyall m; ", "notifyall m; ")
		return strings.NewReplacer("m.", one(c, owned...)+".", "o.", one(c, owned...)+".", " m;", " "+one(c, owned...)+";").Replace(s)
	}
	return "skip; "
}

// part is a statement with blocks. What waits there waits at the monitor that is asked around it.
func (c *chance) part(owned []string, from, depth int) string {
	mon, guard := "", "true"
	if len(owned) > 0 {
		mon = one(c, owned...)
		guard = c.guard(mon)
	}
	block := func(mon string) string { return "{ " + c.block(owned, mon, from, depth) + "} " }
	switch c.IntN(9) {
	case 0:
		return "if " + guard + " " + block(mon)
	case 1:
		return "if " + guard + " " + block(mon) + "else " + block(mon)
	case 2, 3:
		return "while " + guard + " " + block(mon)
	case 4:
		return "loop " + block(mon)
	case 5:
		return "choose " + block(mon) + strings.Repeat("or "+block(""), c.IntN(3))
	}
	enters := one(c, c.mons...)
	return "sync " + enters + " { " + c.block(append(slices.Clone(owned), enters), enters, from, depth) + "} "
}

func (c *chance) block(owned []string, waits string, from, depth int) string {
	s := ""
	for range c.IntN(4) {
		switch k := c.IntN(5); {
		case k < 2 && depth > 0:
			s += c.part(owned, from, depth-1)
		case k < 4 && waits != "":
			s += "wait " + waits + one(c, "; ", " 1; ", " 2; ", " 3; ")
		default:
			s += c.act(owned, from)
		}
	}
	return s
}

// program declares monitors whose methods call those behind them alone, and roles.
func (c *chance) program() string {
	c.mons, c.meths = []string{"a", "c", "d"}[:1+c.IntN(3)], nil
	for _, m := range c.mons {
		for k := range c.IntN(3) {
			c.meths = append(c.meths, fmt.Sprint(m, ".f", k))
		}
	}
	var s strings.Builder
	from := 0
	for _, m := range c.mons {
		fmt.Fprintf(&s, "monitor %s { var b : bool = %v; var n : 0..3 = %d; var x : int = %d; ", m, c.IntN(2) == 0, c.IntN(4), max(c.number(), -1<<63+1))
		for from < len(c.meths) && strings.HasPrefix(c.meths[from], m) {
			from++
			fmt.Fprintf(&s, "method %s { %s} ", c.meths[from-1][2:], c.block([]string{m}, m, from, 2))
		}
		s.WriteString("} ")
	}
	for i := range 1 + c.IntN(3) {
		fmt.Fprintf(&s, "thread r%d %s { sync %s { %s} %s} ", i, one(c, "1", "2", "*"), c.mons[0], c.block(c.mons[:1], c.mons[0], 0, 3), c.block(nil, "", 0, 3))
	}
	return s.String()
}

// number is a value of an int, often one near a bound.
func (c *chance) number() int64 {
	return one[int64](c, 0, 1, -1, 2, 3, 1<<61, 1<<62, -1<<62, 1<<63-1, 1<<63-2, -1<<63, -1<<63+1)
}

// system is one that Make takes.
func (c *chance) system(t testing.TB) (api.System, string) {
	t.Helper()
	for {
		text := c.program()
		p, err, at := parse.Parse(text)
		if err != api.OK {
			t.Fatalf("%s: error %d at %d", text, err, at)
		}
		x, err, at := world.Make(p)
		if err == api.OK {
			return x, text
		}
		if err != api.ErrBig && err != api.ErrWide {
			t.Fatalf("%s: error %d at %d", text, err, at)
		}
	}
}

// begin is a first world of a system, with a few threads of each star.
func (c *chance) begin(t testing.TB, x api.System) api.World {
	t.Helper()
	var counts []int
	for _, f := range x.Flows {
		if f.Star {
			counts = append(counts, c.IntN(4))
		}
	}
	return firstOf(t, x, counts...)
}

// firstEdge is the first edge from a place, the zero one if there is none.
func firstEdge(f api.Flow, loc int) api.Edge {
	for _, k := range flow.Out(f, loc) {
		return f.Edges[k]
	}
	return api.Edge{}
}

// thread is one that may be, at any place, in one of the states in which it may be there.
func (c *chance) thread(x api.System) api.Thread {
	t := api.Thread{Role: c.IntN(len(x.Flows))}
	f := x.Flows[t.Role]
	t.Loc = c.IntN(f.Locs)
	for range 3 {
		// Those that wait, wake, or test are rare.
		if kind := firstEdge(f, t.Loc).Kind; kind == api.EdTest || kind >= api.EdWait && kind <= api.EdAll {
			break
		}
		t.Loc = c.IntN(f.Locs)
	}
	switch firstEdge(f, t.Loc).Kind {
	case 0:
		t.State = one(c, api.ThDone, api.ThDone, api.ThFault)
	case api.EdWait:
		t.State = c.IntN(5)
		if c.IntN(2) == 0 {
			t.State = api.ThWait
		}
		if t.State == api.ThWait {
			t.Left = one[int64](c, 0, 1, 1, 2, 3)
		}
		if t.State == api.ThWait || t.State == api.ThWoken {
			t.Depth = one(c, 1, 2, 5)
		}
	default:
		t.State = one(c, api.ThRun, api.ThRun, api.ThRun, api.ThRun, api.ThDone, api.ThFault)
	}
	return t
}

// lock is one of a monitor that may be: it is owned by one who asks for it, by anybody, or by nobody.
func (c *chance) lock(x api.System, w api.World, mon int) api.Lock {
	var owners, asking []int
	for i, t := range w.Threads {
		if t.State < api.ThDone {
			owners = append(owners, i)
		}
		if e := firstEdge(x.Flows[t.Role], t.Loc); t.State == api.ThRun && e.Mon == mon && e.Kind >= api.EdLeave && e.Kind <= api.EdAll {
			asking = append(asking, i)
		}
	}
	if len(asking) > 0 && c.IntN(4) > 0 {
		owners = asking
	}
	if len(owners) == 0 || c.IntN(4) == 0 {
		return api.Lock{Owner: -1}
	}
	return api.Lock{Owner: one(c, owners...), Depth: one(c, 1, 1, 2, 3)}
}

// world is one that may be, whether or not any picks lead to it.
func (c *chance) world(t testing.TB, x api.System) api.World {
	t.Helper()
	var w api.World
	for range 1 + c.IntN(9) {
		w.Threads = append(w.Threads, c.thread(x))
	}
	for mon := range x.P.Mons {
		w.Locks = append(w.Locks, c.lock(x, w, mon))
	}
	for _, v := range names.Slots(x.P) {
		n := c.number()
		switch v.Type {
		case api.TyBool:
			n = c.Int64N(2)
		case api.TyRange:
			n = v.Lo + c.Int64N(v.Hi-v.Lo+1)
		}
		w.Vals = append(w.Vals, n)
	}
	if err := world.Check(x, w); err != api.OK {
		t.Fatalf("%+v: error %d", w, err)
	}
	return w
}
