package held_test

import (
	"fmt"
	"math/rand/v2"
	"reflect"
	"slices"
	"strings"
	"testing"

	"vigil/api"
	"vigil/held"
	"vigil/parse"
)

// What the tests of this package begin with, each made anew.

// monitorKinds are the kinds of edges that are at a monitor, freeKinds others, some of which there are not.
func monitorKinds() []int {
	return []int{api.EdEnter, api.EdLeave, api.EdWait, api.EdNotify, api.EdAll}
}

func freeKinds() []int {
	return []int{api.EdSkip, api.EdTest, api.EdSet, api.EdPick, 0, -1, 10, 77}
}

// kindOf is a kind of edges by the name that the tests call it.
func kindOf(t testing.TB, name string) int {
	t.Helper()
	i := slices.Index([]string{"none", "skip", "test", "set", "enter", "leave", "wait", "notify", "all", "pick"}, name)
	if i < 0 {
		t.Fatalf("no kind %q", name)
	}
	return i
}

// flowOf is a flow of so many places, with edges in a text, a comma between two: 0>1 enter 2.
func flowOf(t testing.TB, locs int, edges string) api.Flow {
	t.Helper()
	f := api.Flow{Name: "f", Locs: locs}
	for _, s := range strings.FieldsFunc(edges, func(r rune) bool { return r == ',' }) {
		e, kind := api.Edge{At: 5}, ""
		if n, err := fmt.Sscanf(strings.TrimSpace(s)+" 0", "%d>%d %s %d", &e.From, &e.To, &kind, &e.Mon); n != 4 {
			t.Fatalf("%q: %v", s, err)
		}
		e.Kind = kindOf(t, kind)
		f.Edges = append(f.Edges, e)
	}
	return f
}

// numbersText has what Held tells, place by place, numbers with points between them, and a - where there are none.
func numbersText(h [][]int) string {
	var all []string
	for _, numbers := range h {
		s := strings.ReplaceAll(strings.Trim(fmt.Sprint(numbers), "[]"), " ", ".")
		if len(numbers) == 0 {
			s = "-"
		}
		all = append(all, s)
	}
	return strings.Join(all, " ")
}

// wantHeld holds Held of a flow against numbers as a text; "no": it says false.
func wantHeld(t testing.TB, what string, f api.Flow, mons int, want string) {
	t.Helper()
	h, ok := held.Held(f, mons)
	if want != "no" {
		if got := numbersText(h); !ok || got != want {
			t.Errorf("%.300s: %v, %.300s, want %.300s", what, ok, got, want)
		}
		return
	}
	if ok || h != nil {
		t.Errorf("%.300s: %v, %d places, want none", what, ok, len(h))
	}
	// Where Held says false there are no nests and no sections.
	if nests := held.Nests(f, mons); nests != nil {
		t.Errorf("%.300s: nests %v, want none", what, nests)
	}
	for _, mon := range []int{-1, 0, 1, mons - 1, mons, 8, 1 << 40} {
		if s := held.Sections(f, mons, mon); s != nil {
			t.Errorf("%.300s: sections %v of %d, want none", what, s, mon)
		}
	}
}

// nestsText has nests, and the monitors as letters.
func nestsText(l []api.Nest) string {
	var all []string
	for _, n := range l {
		all = append(all, string(rune('a'+n.Outer))+string(rune('a'+n.Inner)))
	}
	return strings.Join(all, " ")
}

func parsed(t testing.TB, s string) api.Program {
	t.Helper()
	p, err, at := parse.Parse(s)
	if err != api.OK {
		t.Fatalf("%.300q: error %d at %d", s, err, at)
	}
	return p
}

// reaches tells of each place whether a way leads to it from 0: all edges are tried, again and again, till no more places come of it.
func reaches(f api.Flow) []bool {
	is := make([]bool, f.Locs)
	for next := 0; next >= 0; {
		is[next] = true
		next = -1
		for _, e := range f.Edges {
			if is[e.From] && !is[e.To] {
				is[e.To], next = true, e.To
			}
		}
	}
	return is
}

// nestsBy is what Nests must tell, of numbers that are known: every two monitors are tried.
func nestsBy(f api.Flow, mons int, numbers [][]int) []api.Nest {
	var all []api.Nest
	for outer := range mons {
		for inner := range mons {
			if slices.ContainsFunc(f.Edges, func(e api.Edge) bool {
				n := numbers[e.From]
				return e.Kind == api.EdEnter && e.Mon == inner && n != nil && n[inner] == 0 && n[outer] > 0
			}) {
				all = append(all, api.Nest{Outer: outer, Inner: inner})
			}
		}
	}
	return all
}

// sectionsBy is what Sections must tell, of numbers that are known.
func sectionsBy(mon int, numbers [][]int) []int {
	var all []int
	for loc, n := range numbers {
		if n != nil && n[mon] != 0 {
			all = append(all, loc)
		}
	}
	return all
}

// wantAll holds all that is told of a flow against numbers that are known.
func wantAll(t testing.TB, what string, f api.Flow, mons int, numbers [][]int) {
	t.Helper()
	wantHeld(t, what, f, mons, numbersText(numbers))
	if got, want := held.Nests(f, mons), nestsBy(f, mons, numbers); !slices.Equal(got, want) {
		t.Errorf("%.300s: nests %s, want %s", what, nestsText(got), nestsText(want))
	}
	for mon := range mons {
		if got, want := held.Sections(f, mons, mon), sectionsBy(mon, numbers); !slices.Equal(got, want) {
			t.Errorf("%.300s: sections %v of %d, want %v", what, got, mon, want)
		}
	}
	for _, mon := range []int{-1 << 63, -1, mons, mons + 1, 8, 9, 1<<63 - 1} {
		if got := held.Sections(f, mons, mon); mon >= mons && got != nil || mon < 0 && got != nil {
			t.Errorf("%.300s: sections %v of %d, want none", what, got, mon)
		}
	}
}

// drawn makes flows whose numbers are known, as these are made first, and then edges that fit them.
type drawn struct {
	*rand.Rand
	mons    int
	numbers [][]int
}

// place adds a place, whose numbers are those of one that is there, or differ from them by one edge.
func (d *drawn) place() {
	n := slices.Clone(d.numbers[d.IntN(len(d.numbers))])
	if d.mons > 0 {
		mon := d.IntN(d.mons)
		n[mon] = max(0, n[mon]+[]int{-1, 0, 1, 1}[d.IntN(4)])
	}
	d.numbers = append(d.numbers, n)
}

// fit is an edge between two places, whether there is one that fits; a wait, a notify at a monitor that is not owned fits, too.
func (d *drawn) fit(from, to int) (api.Edge, bool) {
	e, unlike := api.Edge{From: from, To: to}, 0
	for mon, n := range d.numbers[from] {
		switch more := d.numbers[to][mon] - n; more {
		case 0:
			continue
		case 1:
			e.Kind, e.Mon = api.EdEnter, mon
		case -1:
			e.Kind, e.Mon = api.EdLeave, mon
		default:
			return e, false
		}
		unlike++
	}
	if unlike == 0 {
		e = d.still(from, to)
	}
	return e, unlike <= 1
}

// still is an edge that leaves numbers as they are.
func (d *drawn) still(from, to int) api.Edge {
	if d.mons > 0 && d.IntN(2) == 0 {
		return api.Edge{From: from, To: to, Kind: api.EdWait + d.IntN(3), Mon: d.IntN(d.mons), N: int64(d.IntN(3))}
	}
	return api.Edge{From: from, To: to, Kind: freeKinds()[d.IntN(len(freeKinds()))], Mon: d.IntN(20) - 10, Var: d.IntN(20) - 10}
}

// flow makes places, edges that fit, and, from places to which no way leads, edges of any kind. Of such a place there are no numbers any more.
func (d *drawn) flow() api.Flow {
	d.mons = d.IntN(api.MaxMons + 1)
	d.numbers = [][]int{make([]int, d.mons)}
	for range d.IntN(14) {
		d.place()
	}
	d.Shuffle(len(d.numbers)-1, func(i, k int) {
		d.numbers[i+1], d.numbers[k+1] = d.numbers[k+1], d.numbers[i+1]
	})
	f := api.Flow{Locs: len(d.numbers), Star: d.IntN(2) == 0}
	for range d.IntN(12 * f.Locs) {
		if e, ok := d.fit(d.IntN(f.Locs), d.IntN(f.Locs)); ok {
			f.Edges = append(f.Edges, e)
		}
	}
	reached := reaches(f)
	for from := range f.Locs {
		if reached[from] {
			continue
		}
		d.numbers[from] = nil
		for range d.IntN(3) {
			e := d.still(from, d.IntN(f.Locs))
			if d.mons > 0 && d.IntN(2) == 0 {
				e.Kind, e.Mon = api.EdEnter+d.IntN(2), d.IntN(d.mons)
			}
			f.Edges = append(f.Edges, e)
		}
	}
	d.Shuffle(len(f.Edges), reflect.Swapper(f.Edges))
	return f
}

// reached is a place to which a way leads.
func (d *drawn) reached() int {
	for {
		if loc := d.IntN(len(d.numbers)); d.numbers[loc] != nil {
			return loc
		}
	}
}

// unfit is an edge between two places to which ways lead, that does not fit.
func (d *drawn) unfit() (api.Edge, bool) {
	e := d.still(d.reached(), d.reached())
	there := slices.Clone(d.numbers[e.From])
	if d.mons > 0 && d.IntN(3) > 0 {
		e.Kind, e.Mon = api.EdEnter+d.IntN(2), d.IntN(d.mons)
		there[e.Mon] += 9 - 2*e.Kind
	}
	return e, !slices.Equal(there, d.numbers[e.To])
}
