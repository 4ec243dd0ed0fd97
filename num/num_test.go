package num_test

import (
	"math/big"
	"testing"

	"vigil/api"
	"vigil/num"
)

// reckon is a call that joins two numbers, and the same of whole numbers without bounds.
type reckon struct {
	name string
	of   func(a, b int64) (int64, bool)
	as   func(a, b *big.Int) *big.Int
}

func reckons() []reckon {
	return []reckon{
		{"Add", num.Add, func(a, b *big.Int) *big.Int { return new(big.Int).Add(a, b) }},
		{"Sub", num.Sub, func(a, b *big.Int) *big.Int { return new(big.Int).Sub(a, b) }},
		{"Mul", num.Mul, func(a, b *big.Int) *big.Int { return new(big.Int).Mul(a, b) }},
		{"Neg", func(a, _ int64) (int64, bool) { return num.Neg(a) }, func(a, _ *big.Int) *big.Int { return new(big.Int).Neg(a) }},
	}
}

func wantReckoned(t testing.TB, r reckon, a, b int64) {
	t.Helper()
	n, ok := bounded(r.as(whole(a), whole(b)))
	if gotN, gotOK := r.of(a, b); gotN != n || gotOK != ok {
		t.Errorf("%s of %d, %d: %d %t, want %d %t", r.name, a, b, gotN, gotOK, n, ok)
	}
}

// TestReckonTold: P10.1, of what the chapter tells, and of numbers at the bounds.
func TestReckonTold(t *testing.T) {
	type told struct {
		name string
		a, b int64
		n    int64
		ok   bool
	}
	calls := map[string]func(a, b int64) (int64, bool){}
	for _, r := range reckons() {
		calls[r.name] = r.of
	}
	for _, c := range []told{
		{"Add", most, 1, 0, false}, {"Add", 1, most, 0, false}, {"Add", most, most, 0, false}, {"Add", most - 1, 1, most, true}, {"Add", most, 0, most, true},
		{"Add", least, -1, 0, false}, {"Add", -1, least, 0, false}, {"Add", least, least, 0, false}, {"Add", least + 1, -1, least, true}, {"Add", 0, least, least, true},
		{"Add", most, least, -1, true}, {"Add", least, most, -1, true}, {"Add", 0, 0, 0, true}, {"Add", 5, -5, 0, true}, {"Add", 1 << 62, 1 << 62, 0, false}, {"Add", -1 << 62, -1 << 62, least, true},
		{"Sub", least, 1, 0, false}, {"Sub", least, -5, least + 5, true}, {"Sub", most, -1, 0, false}, {"Sub", 0, least, 0, false}, {"Sub", -1, least, most, true},
		{"Sub", least, least, 0, true}, {"Sub", most, most, 0, true}, {"Sub", least, most, 0, false}, {"Sub", most, least, 0, false}, {"Sub", 3, 7, -4, true}, {"Sub", -2, most, 0, false}, {"Sub", -1, most, least, true},
		{"Mul", least, -1, 0, false}, {"Mul", -1, least, 0, false}, {"Mul", least, 1, least, true}, {"Mul", 1, least, least, true}, {"Mul", most, -1, -most, true}, {"Mul", -1, most, -most, true},
		{"Mul", 0, least, 0, true}, {"Mul", least, 0, 0, true}, {"Mul", 0, 0, 0, true}, {"Mul", -3, 4, -12, true}, {"Mul", -1, -1, 1, true}, {"Mul", least, least, 0, false}, {"Mul", most, most, 0, false},
		{"Mul", 3037000499, 3037000499, 9223372030926249001, true}, {"Mul", 3037000500, 3037000500, 0, false}, {"Mul", 1 << 31, 1 << 32, 0, false}, {"Mul", -1 << 31, 1 << 32, least, true}, {"Mul", 1 << 32, 1 << 32, 0, false},
		{"Neg", least, 0, 0, false}, {"Neg", most, 0, -most, true}, {"Neg", -most, 0, most, true}, {"Neg", 0, 0, 0, true}, {"Neg", 7, 0, -7, true},
	} {
		if n, ok := calls[c.name](c.a, c.b); n != c.n || ok != c.ok {
			t.Errorf("%s of %d, %d: %d %t, want %d %t", c.name, c.a, c.b, n, ok, c.n, c.ok)
		}
	}
}

// TestReckonEdges: P10.1, of every two of the edges, against whole numbers without bounds.
func TestReckonEdges(t *testing.T) {
	l := edges()
	for _, r := range reckons() {
		for _, a := range l {
			for _, b := range l {
				wantReckoned(t, r, a, b)
			}
		}
	}
}

// TestReckonBounds: P10.1, of each two numbers whose product lies next to a bound, on either side of it.
func TestReckonBounds(t *testing.T) {
	for _, a := range edges() {
		for _, bound := range []int64{most, least} {
			for near := int64(-2); near <= 2; near++ {
				for _, r := range reckons() {
					// What wraps round here is another number to try, no more.
					wantReckoned(t, r, a, bound-a+near)
					wantReckoned(t, r, a, a-bound+near)
					if a != 0 {
						wantReckoned(t, r, a, bound/a+near)
					}
				}
			}
		}
	}
}

// TestReckonChance: P10.1, of numbers that were made at random.
func TestReckonChance(t *testing.T) {
	c := newChance(1)
	for range 300000 {
		a, b := c.number(), c.number()
		for _, r := range reckons() {
			wantReckoned(t, r, a, b)
		}
	}
}

func wantFits(t testing.TB, v api.Var, n int64, want bool) {
	t.Helper()
	if got := num.Fits(v, n); got != want {
		t.Errorf("Fits(%+v, %d): %t, want %t", v, n, got, want)
	}
}

// TestFitsBounds: P10.2, of every type and of ranges with any bounds, those that end below their beginning too.
func TestFitsBounds(t *testing.T) {
	numbers := []int64{least, least + 1, -1 << 32, -3, -2, -1, 0, 1, 2, 3, 1 << 32, most - 1, most}
	for _, lo := range numbers {
		for _, hi := range numbers {
			for _, n := range numbers {
				wantFits(t, api.Var{Type: api.TyRange, Lo: lo, Hi: hi}, n, lo <= n && n <= hi)
				wantFits(t, api.Var{Type: api.TyBool, Lo: lo, Hi: hi}, n, n == 0 || n == 1)
				wantFits(t, api.Var{Type: api.TyInt, Lo: lo, Hi: hi}, n, true)
				for _, other := range []int{least, -1, 0, 4, 5, 1 << 32, 1<<32 + api.TyInt, 1<<8 + api.TyBool, most} {
					wantFits(t, api.Var{Type: other, Lo: lo, Hi: hi}, n, false)
				}
			}
		}
	}
}

// TestFitsAlone: P10.2: a variable's name, first value and place say nothing of what it may have.
func TestFitsAlone(t *testing.T) {
	for _, init := range []int64{least, -1, 0, 1, 2, most} {
		for n := int64(-3); n <= 6; n++ {
			wantFits(t, api.Var{Name: "x", Type: api.TyBool, Init: init, At: 7}, n, n == 0 || n == 1)
			wantFits(t, api.Var{Name: "x", Type: api.TyInt, Init: init, At: 7}, n, true)
			wantFits(t, api.Var{Name: "x", Type: api.TyRange, Lo: -1, Hi: 4, Init: init, At: 7}, n, -1 <= n && n <= 4)
			wantFits(t, api.Var{Name: "x", Init: init, At: 7}, n, false)
		}
	}
}

func wantDiv(t testing.TB, a, b, want int64) {
	t.Helper()
	if got := num.Div(a, b); got != want {
		t.Errorf("Div(%d, %d): %d, want %d", a, b, got, want)
	}
}

// TestDivTold: P10.3, of what the chapter tells, and of numbers at the bounds.
func TestDivTold(t *testing.T) {
	for _, c := range [][3]int64{
		{-1, 2, -1}, {-7, 2, -4}, {7, 2, 3}, {-8, 2, -4}, {8, 2, 4}, {0, 5, 0}, {1, 5, 0}, {-1, 5, -1}, {5, 5, 1}, {-5, 5, -1}, {-6, 5, -2},
		{most, 1, most}, {least, 1, least}, {most, most, 1}, {-most, most, -1}, {least, most, -2}, {most - 1, most, 0}, {-1, most, -1}, {1, most, 0},
		{least, 2, -1 << 62}, {least + 1, 2, -1 << 62}, {most, 2, 1<<62 - 1},
	} {
		wantDiv(t, c[0], c[1], c[2])
	}
	for _, a := range edges() {
		for _, b := range edges() {
			if b <= 0 {
				wantDiv(t, a, b, 0)
			}
		}
	}
}

// TestDivGreatest: P10.3, as it is said: the greatest whole number that is not above, found by going upward.
func TestDivGreatest(t *testing.T) {
	for a := int64(-60); a <= 60; a++ {
		for b := int64(1); b <= 70; b++ {
			greatest := int64(-61)
			for (greatest+1)*b <= a {
				greatest++
			}
			wantDiv(t, a, b, greatest)
		}
	}
}

// TestDivWhole: P10.3, of numbers that are great, against whole numbers without bounds.
func TestDivWhole(t *testing.T) {
	try := func(a, b int64) {
		t.Helper()
		q := whole(num.Div(a, b))
		below := new(big.Int).Mul(q, whole(b))
		above := new(big.Int).Add(below, whole(b))
		if below.Cmp(whole(a)) > 0 || above.Cmp(whole(a)) <= 0 {
			t.Errorf("Div(%d, %d): %d", a, b, q)
		}
	}
	for _, a := range edges() {
		for _, b := range edges() {
			if b > 0 {
				try(a, b)
			}
		}
	}
	c := newChance(2)
	for range 300000 {
		if a, b := c.number(), c.number(); b > 0 {
			try(a, b)
		} else {
			wantDiv(t, a, b, 0)
		}
	}
}
