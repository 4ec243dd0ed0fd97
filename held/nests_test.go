package held_test

import (
	"fmt"
	"math/rand/v2"
	"slices"
	"testing"

	"vigil/api"
	"vigil/held"
)

// TestNests: P13.2: who is entered where others are owned, and it is not.
func TestNests(t *testing.T) {
	for _, x := range []struct {
		locs, mons  int
		edges, want string
	}{
		{1, 0, "", ""},
		{2, 1, "0>1 enter 0", ""},
		{3, 2, "0>1 enter 0, 1>2 enter 1", "ab"},
		{3, 2, "0>1 enter 1, 1>2 enter 0", "ba"},
		{3, 8, "0>1 enter 7, 1>2 enter 0", "ha"},
		// Once more, what is owned already, makes no nest, neither of its own nor of others'.
		{3, 1, "0>1 enter 0, 1>2 enter 0", ""},
		{4, 2, "0>1 enter 0, 1>2 enter 1, 2>3 enter 0", "ab"},
		{5, 2, "0>1 enter 0, 1>2 enter 0, 2>3 leave 0, 3>4 enter 1", "ab"},
		// What was left is not owned any more; so it may be entered again, within the other one.
		{4, 2, "0>1 enter 0, 1>2 leave 0, 2>3 enter 1", ""},
		{5, 2, "0>1 enter 0, 1>2 enter 1, 2>3 leave 0, 3>4 enter 0", "ab ba"},
		// All that are owned, not the nearest one alone; each once; by Outer, then by Inner.
		{4, 3, "0>1 enter 2, 1>2 enter 1, 2>3 enter 0", "ba ca cb"},
		{4, 3, "0>1 enter 0, 1>2 enter 1, 2>3 enter 2", "ab ac bc"},
		{5, 2, "0>1 enter 0, 1>2 enter 1, 1>3 enter 1, 1>4 enter 1, 2>3 skip", "ab"},
		{9, 4, "0>1 enter 3, 1>2 enter 1, 1>3 enter 0, 0>4 enter 1, 4>5 enter 3, 4>6 enter 2, 0>7 enter 0, 7>8 enter 2", "ac bc bd da db"},
		// Other kinds enter nothing.
		{3, 2, "0>1 enter 0, 1>2 wait 1, 1>2 notify 1, 1>2 all 1, 1>2 set 1, 1>2 skip 1, 1>2 pick 1, 1>2 test 1", ""},
		{4, 2, "0>1 enter 0, 1>2 enter 1, 2>3 leave 1", "ab"},
		// Where no way leads nobody enters.
		{4, 2, "0>1 enter 0, 2>3 enter 1", ""},
		{5, 2, "0>1 enter 0, 2>3 enter 0, 3>4 enter 1", ""},
		{4, 3, "2>3 enter 2, 0>1 enter 0, 1>2 enter 1", "ab ac bc"},
	} {
		if got := nestsText(held.Nests(flowOf(t, x.locs, x.edges), x.mons)); got != x.want {
			t.Errorf("%s: %s, want %s", x.edges, got, x.want)
		}
	}
	// As many as there may be: each monitor in each other one.
	f, want := api.Flow{Locs: 9}, []api.Nest{}
	for outer := range 8 {
		f.Edges = append(f.Edges, api.Edge{To: 1 + outer, Kind: api.EdEnter, Mon: outer})
		for inner := range 8 {
			if inner == outer {
				continue
			}
			f.Edges = append(f.Edges, api.Edge{From: 1 + outer, To: f.Locs, Kind: api.EdEnter, Mon: inner})
			f.Locs++
			want = append(want, api.Nest{Outer: outer, Inner: inner})
		}
	}
	slices.Reverse(f.Edges)
	if got := held.Nests(f, 8); len(want) != 56 || !slices.Equal(got, want) {
		t.Errorf("%s, want %s", nestsText(got), nestsText(want))
	}
}

// TestSections: P13.4: the places at which a monitor is owned, rising.
func TestSections(t *testing.T) {
	f := flowOf(t, 9, "7>1 enter 1, 0>7 enter 0, 1>4 leave 0, 4>2 enter 0, 2>3 enter 0, 3>5 leave 1, 6>8 enter 2, 8>6 wait 1")
	for mon, want := range map[int][]int{0: {1, 2, 3, 5, 7}, 1: {1, 2, 3, 4}, 2: nil, 3: nil, 4: nil, 8: nil, 9: nil, 600: nil, 1<<63 - 1: nil, -1: nil, -1 << 63: nil} {
		for mons := 3; mons < 9; mons++ {
			if got := held.Sections(f, mons, mon); !slices.Equal(got, want) {
				t.Errorf("%d of %d: %v, want %v", mon, mons, got, want)
			}
		}
	}
	if got := held.Sections(flowOf(t, 1, ""), 0, 0); got != nil {
		t.Error(got)
	}
}

// goesRound tells the same as Round must, of nests of the monitors 0 to n - 1: by trying, for each monitor, all ways that go through it.
func goesRound(n int, l []api.Nest) bool {
	way := make([][]bool, n)
	for i := range way {
		way[i] = make([]bool, n)
	}
	for _, x := range l {
		way[x.Outer][x.Inner] = true
	}
	for through := range n {
		for from := range n {
			for to := range n {
				way[from][to] = way[from][to] || way[from][through] && way[through][to]
			}
		}
	}
	for i := range n {
		if way[i][i] {
			return true
		}
	}
	return false
}

// TestRound: P13.3.
func TestRound(t *testing.T) {
	const least, most = -1 << 63, 1<<63 - 1
	for _, x := range []struct {
		l    []api.Nest
		want bool
	}{
		{nil, false},
		{[]api.Nest{}, false},
		{[]api.Nest{{Outer: 0, Inner: 1}}, false},
		{[]api.Nest{{}}, true}, // one nest, into itself
		{[]api.Nest{{Outer: 5, Inner: 5}}, true},
		{[]api.Nest{{Outer: 0, Inner: 1}, {Outer: 1, Inner: 0}}, true},
		{[]api.Nest{{Outer: 0, Inner: 1}, {Outer: 0, Inner: 1}}, false},
		{[]api.Nest{{Outer: 0, Inner: 1}, {Outer: 0, Inner: 2}, {Outer: 1, Inner: 3}, {Outer: 2, Inner: 3}}, false},
		{[]api.Nest{{Outer: 2, Inner: 0}, {Outer: 0, Inner: 1}, {Outer: 1, Inner: 2}}, true},
		{[]api.Nest{{Outer: 1, Inner: 2}, {Outer: 0, Inner: 1}, {Outer: 0, Inner: 2}}, false},
		{[]api.Nest{{Outer: 9, Inner: 8}, {Outer: 0, Inner: 9}, {Outer: 8, Inner: 7}, {Outer: 7, Inner: 8}}, true},
		// What goes round leads on, or is led to, and more than once.
		{[]api.Nest{{Outer: 1, Inner: 2}, {Outer: 2, Inner: 1}, {Outer: 2, Inner: 3}, {Outer: 0, Inner: 1}, {Outer: 0, Inner: 1}}, true},
		// Any numbers.
		{[]api.Nest{{Outer: -1, Inner: least}, {Outer: least, Inner: most}, {Outer: most, Inner: -1}}, true},
		{[]api.Nest{{Outer: -1, Inner: least}, {Outer: least, Inner: most}, {Outer: most, Inner: 1}}, false},
		{[]api.Nest{{Outer: least, Inner: most}, {Outer: most, Inner: least}}, true},
		{[]api.Nest{{Outer: 0, Inner: 256}, {Outer: 256, Inner: 1 << 32}, {Outer: 1 << 32, Inner: 8}}, false},
	} {
		if got := held.Round(x.l...); got != x.want {
			t.Errorf("%v: %v", x.l, got)
		}
	}
	if held.Round() {
		t.Error("nothing goes round")
	}
}

// TestRoundAll: P13.3 of all nests of three monitors, and of nests of eight ones that were made at random.
func TestRoundAll(t *testing.T) {
	count := map[bool]int{}
	for bits := range 1 << 9 {
		var l []api.Nest
		for i := range 9 {
			if bits>>i&1 == 1 {
				l = append(l, api.Nest{Outer: i / 3, Inner: i % 3})
			}
		}
		if got, want := held.Round(l...), goesRound(3, l); got != want {
			t.Fatalf("%v: %v", l, got)
		}
	}
	for seed := range uint64(20000) {
		r := rand.New(rand.NewPCG(seed, 3))
		var l []api.Nest
		for range r.IntN(12) {
			l = append(l, api.Nest{Outer: r.IntN(8), Inner: r.IntN(8)})
		}
		want := goesRound(8, l)
		if count[want]++; held.Round(l...) != want {
			t.Fatalf("%v: %v", l, !want)
		}
	}
	if count[true] < 2000 || count[false] < 2000 {
		t.Error(count)
	}
}

// TestRoundLong: P13.3 of a way that is long, wherever it begins in the list, and of many ways beside one another.
func TestRoundLong(t *testing.T) {
	const n = 200000
	var l []api.Nest
	for i := range n {
		l = append(l, api.Nest{Outer: i, Inner: i + 1})
	}
	for _, order := range []string{"front", "back"} {
		if held.Round(l...) || !held.Round(append(slices.Clone(l), api.Nest{Outer: n})...) || !held.Round(append(slices.Clone(l), api.Nest{Outer: n, Inner: n - 1})...) {
			t.Error(order)
		}
		slices.Reverse(l)
	}
	l = nil
	for i := range 30 * 1000 {
		l = append(l, api.Nest{Outer: i / 1000, Inner: i/1000 + 1})
	}
	if held.Round(l...) || !held.Round(append(l, api.Nest{Outer: 30})...) {
		t.Error(fmt.Sprint(len(l), " beside one another"))
	}
}
