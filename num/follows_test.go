package num_test

import (
	"testing"

	"vigil/num"
)

// chain joins what came so far with one number more, as long as all is true.
func chain(join func(a, b int64) (int64, bool), first int64, l ...int64) (int64, bool) {
	ok := true
	for _, n := range l {
		if first, ok = join(first, n); !ok {
			return 0, false
		}
	}
	return first, true
}

// TestOrder: P10.4: of two numbers the order says nothing at all; of several that are true in two orders, both come to the same.
func TestOrder(t *testing.T) {
	for i, join := range []func(a, b int64) (int64, bool){num.Add, num.Mul} {
		c := newChance(uint64(5 + i))
		both := 0
		for range 200000 {
			l := c.numbers(2 + c.IntN(4))
			n, ok := join(l[0], l[1])
			if m, mOK := join(l[1], l[0]); m != n || mOK != ok {
				t.Errorf("join %d of %d, %d: %d %t and %d %t", i, l[0], l[1], n, ok, m, mOK)
			}
			n, ok = chain(join, l[0], l[1:]...)
			c.Shuffle(len(l), func(i, j int) { l[i], l[j] = l[j], l[i] })
			m, mOK := chain(join, l[0], l[1:]...)
			if ok && mOK {
				both++
				if m != n {
					t.Errorf("join %d of %d: %d and, in another order, %d", i, l, m, n)
				}
			}
		}
		if both < 20000 {
			t.Errorf("join %d: true in both orders %d times", i, both)
		}
	}
}

// TestGroups: P10.4: where both are true, it does not matter which two of three are joined first, nor whether a product is made of a sum or a sum of products.
func TestGroups(t *testing.T) {
	c := newChance(7)
	told := [3]int{}
	for range 200000 {
		a, b, n := c.number(), c.number(), c.number()
		for i, join := range []func(a, b int64) (int64, bool){num.Add, num.Mul} {
			left, ok := chain(join, a, b, n)
			inner, innerOK := join(b, n)
			right, rightOK := join(a, inner)
			if ok && innerOK && rightOK {
				told[i]++
				if left != right {
					t.Errorf("join %d of %d, %d, %d: %d and %d", i, a, b, n, left, right)
				}
			}
		}
		sum, sumOK := num.Add(b, n)
		whole, wholeOK := num.Mul(a, sum)
		first, firstOK := num.Mul(a, b)
		second, secondOK := num.Mul(a, n)
		parts, partsOK := num.Add(first, second)
		if sumOK && wholeOK && firstOK && secondOK && partsOK {
			told[2]++
			if whole != parts {
				t.Errorf("%d times %d + %d: %d and %d", a, b, n, whole, parts)
			}
		}
	}
	for i, n := range told {
		if n < 10000 {
			t.Errorf("rule %d: %d times", i, n)
		}
	}
}

// TestBack: P10.4: what is added and taken away, or taken away and added, is as before; so is what has the other sign of the other sign; and taking away is adding what has the other sign.
func TestBack(t *testing.T) {
	same := func(what string, a, b, got int64, ok bool, want int64) {
		t.Helper()
		if got != want || !ok {
			t.Errorf("%s, of %d and %d: %d %t, want %d", what, a, b, got, ok, want)
		}
	}
	for _, a := range edges() {
		for _, b := range edges() {
			if sum, ok := num.Add(a, b); ok {
				n, ok := num.Sub(sum, b)
				same("added, taken away", a, b, n, ok, a)
			}
			difference, differs := num.Sub(a, b)
			if differs {
				n, ok := num.Add(difference, b)
				same("taken away, added", a, b, n, ok, a)
			}
			other, ok := num.Neg(b)
			if !ok {
				continue
			}
			if n, ok := num.Neg(other); n != b || !ok {
				t.Errorf("Neg of Neg of %d: %d %t", b, n, ok)
			}
			if n, ok := num.Add(a, other); n != difference || ok != differs {
				t.Errorf("%d and the other sign of %d: %d %t, taken away %d %t", a, b, n, ok, difference, differs)
			}
			if n, ok := num.Mul(b, -1); n != other || !ok {
				t.Errorf("-1 times %d: %d %t, want %d", b, n, ok, other)
			}
		}
	}
}
