package script_test

import (
	"fmt"
	"math"
	"math/rand/v2"
	"regexp"
	"slices"
	"strconv"
	"strings"
	"testing"

	"vigil/api"
	"vigil/script"
)

// TestNumbers: the limits and the errors of the chapter.
func TestNumbers(t *testing.T) {
	if api.MaxPicks != 20000 || api.ErrArg != 2 || api.ErrMany != 6 {
		t.Error(api.MaxPicks, api.ErrArg, api.ErrMany)
	}
}

// TestPut: P16.1, P16.2: each kind, with the numbers that it may have.
func TestPut(t *testing.T) {
	wantPut(t, "3 0.1 s2 t", run(3, 0), run(0, 1), spur(2), tick())
	wantPut(t, "")
	wantPut(t, "0", run(0, 0))
	wantPut(t, "t", tick())
	wantPut(t, "s0", spur(0))
	wantPut(t, "0 0 0", run(0, 0), run(0, 0), run(0, 0))
	wantPut(t, "t s0 0.1 1 t t", tick(), spur(0), run(0, 1), run(1, 0), tick(), tick())
	for _, n := range []int{0, 1, 9, 10, 99, 100, 12345, 999998, 999999} {
		wantPut(t, fmt.Sprint(n), run(n, 0))
		wantPut(t, fmt.Sprint("s", n), spur(n))
		if n != 0 {
			wantPut(t, fmt.Sprint("0.", n), run(0, n))
			wantPut(t, fmt.Sprint("t 999999.", n, " t"), tick(), run(999999, n), tick())
			wantPut(t, fmt.Sprint(n, ".1"), run(n, 1))
		}
	}
	if s, err := script.Put(nil); s != "" || err != api.OK {
		t.Error(s, err)
	}
}

// TestPutArg: P16.1: ErrArg, wherever such a pick stands.
func TestPutArg(t *testing.T) {
	wrong := []api.Pick{{Draw: -1}, {Thread: 999999, Draw: 1000000}, {Kind: api.PkSpur, Draw: 1}, {Kind: api.PkSpur, Thread: 3, Draw: 999999}, {Kind: api.PkSpur, Draw: -1}, {Kind: api.PkTick, Draw: 1}, {Kind: api.PkTick, Draw: -1}, {Kind: api.PkTick, Thread: 1, Draw: 1}}
	for _, n := range []int{math.MinInt, math.MinInt32, -1000000, -1, 1000000, 9999999, math.MaxInt32, 1 << 32, math.MaxInt} {
		wrong = append(wrong, run(n, 0), run(n, 1), run(0, n), run(1, n), spur(n), api.Pick{Kind: api.PkSpur, Draw: n}, api.Pick{Kind: api.PkTick, Thread: n}, api.Pick{Kind: api.PkTick, Draw: n})
	}
	for _, n := range []int{1, 2, 999999} {
		wrong = append(wrong, api.Pick{Kind: api.PkTick, Thread: n})
	}
	for _, kind := range []int{math.MinInt, -1, 3, 4, 48, 115, 116, math.MaxInt} {
		wrong = append(wrong, api.Pick{Kind: kind}, api.Pick{Kind: kind, Thread: 1}, api.Pick{Kind: kind, Draw: 1})
	}
	for _, p := range wrong {
		wantUnput(t, api.ErrArg, p)
		wantUnput(t, api.ErrArg, run(1, 0), p)
		wantUnput(t, api.ErrArg, p, tick())
		wantUnput(t, api.ErrArg, run(1, 0), p, spur(2))
	}
}

// TestMany: P16.1, P16.2: MaxPicks picks are not too many; of more there is no text, whatever they are.
func TestMany(t *testing.T) {
	for _, p := range []api.Pick{run(0, 0), run(999999, 999999), spur(12), tick()} {
		l := slices.Repeat([]api.Pick{p}, api.MaxPicks)
		one, _ := script.Put(l[:1])
		wantPut(t, words(one, api.MaxPicks), l...)
		wantUnput(t, api.ErrMany, append(l, p)...)
		wantUnput(t, api.ErrMany, append(l, p, api.Pick{Kind: 3})...)
		wantUnput(t, api.ErrArg, append(l[1:], api.Pick{Kind: 3})...)
		wantNone(t, words(one, api.MaxPicks+1))
		wantNone(t, words(one, 10*api.MaxPicks))
		wantNone(t, words(one, api.MaxPicks)+" ")
		wantNone(t, " "+words(one, api.MaxPicks-1))
		wantNone(t, words(one, api.MaxPicks-1)+" x")
	}
	wantUnput(t, api.ErrMany, slices.Repeat([]api.Pick{{Kind: -1}}, api.MaxPicks+1)...)
	wantUnput(t, api.ErrArg, slices.Repeat([]api.Pick{{Kind: -1}}, api.MaxPicks)...)
}

// TestParseNone: P16.2: ErrArg of what is nobody's text.
func TestParseNone(t *testing.T) {
	for _, s := range []string{
		" ", "  ", "0 ", " 0", "0  0", "0 0 ", " t", "t ", "\t", "0\t0", "0\n", "\n", "0\n0", "0,0", "0;0", "0\u00a00", "0\x000", "\x00", "\xff",
		// Numbers that are not written so, or are too great.
		"00", "01", "-0", "-1", "+1", "+0", "1_0", "0x1", "1e1", "a", "x", "\u0661", "1-", "--1", "-", "+", "1000000", "9999999", "0999999", "18446744073709551616", "18446744073709551617", "-18446744073709551615",
		// Points, and what there must be around them.
		".", "0.", ".1", "0.0", "1.0", "0.00", "0.01", "00.1", "01.1", "0.-1", "-1.1", "0.+1", "0.1.1", "0..1", "0.1.", ".0.1", "0.1000000", "1000000.1", "0,1", "0:1", "0. 1", "0 .1", "0.t", "0.s1", "t.1",
		// Wakeups and ticks.
		"s", "S1", "s-1", "s+1", "s00", "s01", "s 1", "ss1", "s1s", "1s", "s1.", "s1.1", "s1.0", "s0.1", "s.1", "s1000000", "st", "ts", "s1t", "ts1",
		"T", "tt", "t0", "t1", "0t", "1t", "t.", "t,t", "t t0", "t  t", "run", "spur", "tick", "/", "|", "3 0.1 s2 t.", "3 0.1 s2 t u", "u 3 0.1 s2 t",
		strings.Repeat(" ", 5000), strings.Repeat(".", 5000), strings.Repeat("s", 5000), strings.Repeat("t", 5000), strings.Repeat("1", 5000), strings.Repeat("0", 5000), "0." + strings.Repeat("9", 5000), "s" + strings.Repeat("7", 5000),
	} {
		wantNone(t, s)
	}
}

// form is the form of all texts, but for how many picks there are.
var form = regexp.MustCompile(strings.ReplaceAll(strings.ReplaceAll("^(W( W)*)?$", "W", `(N(\.[1-9][0-9]{0,5})?|sN|t)`), "N", "(0|[1-9][0-9]{0,5})"))

// isText tells whether s is the text of some picks, by its form.
func isText(s string) bool { return form.MatchString(s) && strings.Count(s, " ") < api.MaxPicks }

// wantTold holds Parse of any text against its form, and what it tells against the text.
func wantTold(t testing.TB, s string) bool {
	t.Helper()
	if !isText(s) {
		wantNone(t, s)
		return false
	}
	var want []api.Pick
	for _, word := range strings.Fields(s) {
		digits, drawn, _ := strings.Cut(strings.Trim(word, "st"), ".")
		thread, _ := strconv.Atoi(digits)
		draw, _ := strconv.Atoi(drawn)
		want = append(want, api.Pick{Kind: max(0, strings.IndexByte("st", word[0])+1), Thread: thread, Draw: draw})
	}
	wantPut(t, s, want...)
	return true
}

// TestParseShort: P16.2, of all short texts of a few bytes.
func TestParseShort(t *testing.T) {
	texts, right, all := []string{""}, 0, 0
	for len(texts[0]) < 6 {
		var longer []string
		for _, s := range texts {
			all++
			if wantTold(t, s) {
				right++
			}
			for _, b := range "ts .019" {
				longer = append(longer, s+string(b))
			}
		}
		texts = longer
		if t.Failed() {
			return
		}
	}
	if right < 500 || all < 15000 {
		t.Error(right, all)
	}
}

// anyPicks are picks that have a text.
func anyPicks(c *rand.Rand) []api.Pick {
	var l []api.Pick
	number := func() int { return []int{0, 1, c.IntN(20), c.IntN(1000000), 999999}[c.IntN(5)] }
	for range c.IntN(12) {
		l = append(l, []api.Pick{run(number(), 0), run(number(), number()), spur(number()), tick()}[c.IntN(4)])
	}
	return l
}

// written is the text of picks, by each word alone.
func written(l []api.Pick) string {
	var s []string
	for _, p := range l {
		switch {
		case p.Kind == api.PkTick:
			s = append(s, "t")
		case p.Kind == api.PkSpur:
			s = append(s, fmt.Sprintf("s%d", p.Thread))
		case p.Draw == 0:
			s = append(s, fmt.Sprintf("%d", p.Thread))
		default:
			s = append(s, fmt.Sprintf("%d.%d", p.Thread, p.Draw))
		}
	}
	return strings.Join(s, " ")
}

// TestThereAndBack: P16.1, P16.2, P16.4, of any picks.
func TestThereAndBack(t *testing.T) {
	for seed := range uint64(20000) {
		l := anyPicks(rand.New(rand.NewPCG(seed, 161)))
		if wantPut(t, written(l), l...); t.Failed() {
			t.Fatal("seed", seed)
		}
	}
}

// TestParseChanged: P16.2, of texts of picks in which a byte or two are left out, put in, or others.
func TestParseChanged(t *testing.T) {
	told := map[bool]int{}
	for seed := range uint64(20000) {
		c := rand.New(rand.NewPCG(seed, 162))
		s := []byte(written(anyPicks(c)) + " ")
		for range 1 + c.IntN(2) {
			at := c.IntN(len(s))
			b := "  ..sst-+0123456789\n"[c.IntN(20)]
			switch c.IntN(3) {
			case 0:
				s = append(slices.Delete(s, at, at+1), '0')
			case 1:
				s = slices.Insert(s, at, b)
			default:
				s[at] = b
			}
		}
		if told[wantTold(t, strings.TrimSuffix(string(s), " "))]++; t.Failed() {
			t.Fatal("seed", seed)
		}
	}
	if told[true] < 3000 || told[false] < 3000 {
		t.Error(told)
	}
}

// TestParseApart: what Parse told once is not changed by what is done with what it tells later.
func TestParseApart(t *testing.T) {
	l, _ := script.Parse("3 0.1 s2 t")
	again, _ := script.Parse("3 0.1 s2 t")
	for i := range again {
		again[i] = spur(70)
	}
	wantPut(t, "3 0.1 s2 t", l...)
	// Picks that are put stay as they are, the room behind them too.
	l = roomyList(l, spur(71))
	before := slices.Clone(l[:cap(l)])
	if script.Put(l); !slices.Equal(l[:cap(l)], before) {
		t.Error(l[:cap(l)])
	}
}
