package num_test

import (
	"math"
	"math/big"
	"math/rand/v2"
	"slices"
)

// What the tests of this package begin with, each made anew.

const (
	most  = math.MaxInt64
	least = math.MinInt64
)

// edges are numbers near 0, near each power of 2, near the roots of the bounds, and what the bounds come to divided by small numbers; each once, rising.
func edges() []int64 {
	middles := []int64{0, 3037000499, 10000000019, most / 3, most / 5, most / 7, most / 10}
	for i := range 63 {
		middles = append(middles, 1<<i)
	}
	var l []int64
	for _, m := range middles {
		for near := int64(-2); near <= 2; near++ {
			l = append(l, m+near, -m-near)
		}
	}
	for near := range int64(4) {
		l = append(l, most-near, least+near)
	}
	slices.Sort(l)
	return slices.Compact(l)
}

// chance makes numbers by a rule that is the same each time, small ones as often as great ones.
type chance struct {
	*rand.Rand
	edges []int64
}

func newChance(seed uint64) *chance {
	return &chance{Rand: rand.New(rand.NewPCG(seed, 10)), edges: edges()}
}

func (c *chance) number() int64 {
	switch c.IntN(4) {
	case 0:
		return c.edges[c.IntN(len(c.edges))]
	case 1:
		return int64(c.IntN(41) - 20)
	default:
		return int64(c.Uint64()) >> c.IntN(64)
	}
}

func (c *chance) numbers(n int) []int64 {
	l := make([]int64, n)
	for i := range l {
		l[i] = c.number()
	}
	return l
}

// whole is n as a whole number without bounds.
func whole(n int64) *big.Int { return big.NewInt(n) }

// bounded is n, if 64 bits are enough for it, and whether they are.
func bounded(n *big.Int) (int64, bool) {
	if !n.IsInt64() {
		return 0, false
	}
	return n.Int64(), true
}
