package num_test

import (
	"fmt"
	"math/big"
	"slices"
	"testing"

	"vigil/num"
)

func wantGcd(t testing.TB, want int64, l ...int64) {
	t.Helper()
	if got := num.Gcd(l...); got != want {
		t.Errorf("Gcd(%.300s): %d, want %d", fmt.Sprint(l), got, want)
	}
}

// TestGcdTold: P10.3, of what the chapter tells, of none, of zeros, and of numbers at the bounds.
func TestGcdTold(t *testing.T) {
	wantGcd(t, 0)
	wantGcd(t, 0, []int64{}...)
	wantGcd(t, 0, 0)
	wantGcd(t, 0, 0, 0, 0)
	wantGcd(t, 2, 6, -4)
	wantGcd(t, 2, 6, -4, 0)
	wantGcd(t, 7, 7)
	wantGcd(t, 7, -7)
	wantGcd(t, 7, 0, -7)
	wantGcd(t, 7, -7, 0, 0)
	wantGcd(t, 1, -1, -1)
	wantGcd(t, 1, 6, 10, 15)
	wantGcd(t, 5, -10, -15)
	wantGcd(t, most, most)
	wantGcd(t, most, -most)
	wantGcd(t, most, -most, 0, most)
	wantGcd(t, 1, most, most-1)
	wantGcd(t, 7, most, 14)
	wantGcd(t, 1<<62, 1<<62, -1<<62)
	wantGcd(t, 2, 1<<62, -6)
}

// TestGcdLeast: P10.3: 0, if one is -2^63, wherever it stands, whatever the others are.
func TestGcdLeast(t *testing.T) {
	wantGcd(t, 0, least)
	wantGcd(t, 0, least, least)
	for _, n := range edges() {
		wantGcd(t, 0, n, least)
		wantGcd(t, 0, least, n)
		wantGcd(t, 0, n, least, n)
		wantGcd(t, 0, 1, n, 3, least)
	}
}

// TestGcdGreatest: P10.3, as it is said: the greatest number that divides each, found by going through all.
func TestGcdGreatest(t *testing.T) {
	for a := int64(-24); a <= 24; a++ {
		wantGcd(t, greatest(a), a)
		for b := int64(-24); b <= 24; b++ {
			wantGcd(t, greatest(a, b), a, b)
			for n := int64(-24); n <= 24; n++ {
				wantGcd(t, greatest(a, b, n), a, b, n)
			}
		}
	}
}

// greatest is the greatest number that divides each of l, which are small; 0, if all are 0.
func greatest(l ...int64) int64 {
	found := int64(0)
	for d := int64(1); d <= 24; d++ {
		if !slices.ContainsFunc(l, func(n int64) bool { return n%d != 0 }) {
			found = d
		}
	}
	if !slices.ContainsFunc(l, func(n int64) bool { return n != 0 }) {
		return 0
	}
	return found
}

// gcd is the greatest divisor of whole numbers without bounds.
func gcd(l []int64) int64 {
	g := new(big.Int)
	for _, n := range l {
		g.GCD(nil, nil, g, new(big.Int).Abs(whole(n)))
	}
	return g.Int64()
}

// TestGcdWhole: P10.3, of numbers that are great, and of many, against whole numbers without bounds.
func TestGcdWhole(t *testing.T) {
	l := slices.DeleteFunc(edges(), func(n int64) bool { return n == least })
	for _, a := range l {
		for _, b := range l {
			wantGcd(t, gcd([]int64{a, b}), a, b)
		}
	}
	c := newChance(3)
	for i := range 100000 {
		l := c.numbers(c.IntN(5))
		if i%2 == 0 {
			// Numbers that something greater than 1 divides.
			factor := 1 + c.Int64N(1<<40)
			for i := range l {
				l[i] = l[i] % (most / factor) * factor
			}
		}
		if slices.Contains(l, least) {
			wantGcd(t, 0, l...)
		} else {
			wantGcd(t, gcd(l), l...)
		}
	}
}

// TestGcdLong: P10.3, of numbers of which the divisor is found slowly, and of a long list.
func TestGcdLong(t *testing.T) {
	a, b := int64(1), int64(1)
	for b <= most-a {
		a, b = b, a+b
		wantGcd(t, 1, a, b)
		wantGcd(t, 1, -b, a)
	}
	l := make([]int64, 1<<20)
	wantGcd(t, 0, l...)
	for i := range l {
		l[i] = int64(i) * 12
	}
	wantGcd(t, 12, l...)
	l[len(l)-1] = -9
	wantGcd(t, 3, l...)
	l[len(l)-1] = least
	wantGcd(t, 0, l...)
}

// TestGcdLeaves: what is handed to Gcd is left as it is, its spare room too.
func TestGcdLeaves(t *testing.T) {
	room := []int64{12, -18, 0, 30, 5, -7, 9}
	before := slices.Clone(room)
	wantGcd(t, 6, room[:4]...)
	wantGcd(t, 6, room[:2]...)
	wantGcd(t, 0, room[:0]...)
	if !slices.Equal(room, before) {
		t.Errorf("Gcd left %d, was %d", room, before)
	}
}

// TestGcdOrder: P10.3, P10.4: the order of what is handed over, its signs, zeros and what comes again change nothing.
func TestGcdOrder(t *testing.T) {
	c := newChance(4)
	for range 20000 {
		l := c.numbers(1 + c.IntN(6))
		want := num.Gcd(l...)
		other := append(slices.Clone(l), 0, l[c.IntN(len(l))])
		c.Shuffle(len(other), func(i, j int) { other[i], other[j] = other[j], other[i] })
		for i := range other {
			if c.IntN(2) == 0 {
				other[i] = -other[i]
			}
		}
		wantGcd(t, want, other...)
	}
}
