package world_test

import (
	"math"
	"math/rand/v2"
	"regexp"
	"slices"
	"strconv"
	"strings"
	"testing"

	"vigil/api"
	"vigil/world"
)

// TestText: P14.5, and what Parse tells of it.
func TestText(t *testing.T) {
	for want, w := range map[string]api.World{
		"/ /":                  {},
		"0:0:0:0:0 / -1:0 / 5": {Threads: make([]api.Thread, 1), Locks: []api.Lock{{Owner: -1}}, Vals: []int64{5}}, // the chapter's example
		"1:2:3:4:5 / /":        {Threads: []api.Thread{{Role: 1, Loc: 2, State: 3, Left: 4, Depth: 5}}},
		"/ 6:7 /":              {Locks: []api.Lock{{Owner: 6, Depth: 7}}},
		"/ / 8":                {Vals: []int64{8}},
		"0:0:0:0:0 / / 0":      {Threads: make([]api.Thread, 1), Vals: make([]int64, 1)},
		"/ 0:0 / 0":            {Locks: make([]api.Lock, 1), Vals: make([]int64, 1)},
		"0:0:0:0:0 / 0:0 /":    {Threads: make([]api.Thread, 1), Locks: make([]api.Lock, 1)},
		"10:0:0:0:0 0:10:0:0:0 0:0:10:0:0 0:0:0:10:0 0:0:0:0:10 / 10:0 0:10 / 10 0": {
			Threads: []api.Thread{{Role: 10}, {Loc: 10}, {State: 10}, {Left: 10}, {Depth: 10}}, Locks: []api.Lock{{Owner: 10}, {Depth: 10}}, Vals: []int64{10, 0}},
		"-1:-2:-3:-4:-5 / -6:-7 / -8 -90": {Threads: []api.Thread{{Role: -1, Loc: -2, State: -3, Left: -4, Depth: -5}}, Locks: []api.Lock{{Owner: -6, Depth: -7}}, Vals: []int64{-8, -90}},
		"9223372036854775807:-9223372036854775808:9223372036854775807:-9223372036854775808:9223372036854775807 / -9223372036854775808:9223372036854775807 / 9223372036854775807 -9223372036854775808": {
			Threads: []api.Thread{{Role: math.MaxInt, Loc: math.MinInt, State: math.MaxInt, Left: least, Depth: math.MaxInt}}, Locks: []api.Lock{{Owner: math.MinInt, Depth: math.MaxInt}}, Vals: []int64{most, least}},
		"0:1:1:1099511627776:2 / 3:100 / 1000 -1000": {Threads: []api.Thread{{Loc: 1, State: 1, Left: 1 << 40, Depth: 2}}, Locks: []api.Lock{{Owner: 3, Depth: 100}}, Vals: []int64{1000, -1000}},
	} {
		w = roomy(w)
		before := copied(whole(w))
		if got := world.Text(w); got != want {
			t.Errorf("%q, want %q", got, want)
		}
		if !alike(whole(w), before) {
			t.Errorf("%q: %+v, before %+v", want, whole(w), before)
		}
		if got, ok := world.Parse(want); !ok || !alike(got, w) {
			t.Errorf("%q: %v, %+v, want %+v", want, ok, got, w)
		}
	}
}

// TestTextFirst: P14.5, of worlds in which systems begin.
func TestTextFirst(t *testing.T) {
	for _, c := range []struct {
		text   string
		counts []int
		want   string
	}{
		{"monitor a { var n : int = 5; } thread r * { skip; }", []int{1}, "0:0:0:0:0 / -1:0 / 5"},
		{busy, []int{1, 2}, "0:0:0:0:0 1:0:0:0:0 2:0:0:0:0 3:0:3:0:0 4:0:0:0:0 4:0:0:0:0 / -1:0 -1:0 / 1 1 -7"},
	} {
		if got := world.Text(firstOf(t, systemOf(t, c.text), c.counts...)); got != c.want {
			t.Errorf("%s: %q, want %q", c.text, got, c.want)
		}
	}
}

// wantParsed holds Parse of a text against whether it is a world's Text.
func wantParsed(t testing.TB, s string, want bool) {
	t.Helper()
	w, ok := world.Parse(s)
	if ok != want {
		t.Errorf("%q: %v, %+v, want %v", s, ok, w, want)
	}
	if ok && written(w) != s || !ok && (w.Threads != nil || w.Locks != nil || w.Vals != nil) {
		t.Errorf("%q: %v, %+v", s, ok, w)
	}
}

// TestParseNone: P14.5: false of what is no world's Text.
func TestParseNone(t *testing.T) {
	for _, s := range []string{
		"", " ", "/", "//", " /", "/ ", " / ", "/ / ", " / /", "/  /", "/ /\n", "/\t/", "/ / /", "/ / / /", "/ / 0 /", "/ 0:0 / /", "0 / /", "0", "0:0:0:0:0", "0:0:0:0:0 /", "-1:0", "\\ \\",
		// Too few numbers, or too many.
		"0:0 / /", "0:0:0:0 / /", "0:0:0:0:0:0 / /", "0:0:0:0: / /", ":0:0:0:0 / /", "0:0:0:0:0: / /", ":0:0:0:0:0 / /", "0::0:0:0 / /", ": / /", ":::: / /", "/ 0 /", "/ 0: /", "/ :0 /", "/ : /", "/ 0:0: /", "/ 0:0:0 /", "/ 0:0:0:0:0 /",
		"/ / 0:0", "/ / 0:", "/ / :0", "/ / :", "/ / 0:0:0:0:0", "0:0:0:0:0 0:0 / /", "0:0 0:0:0:0:0 / /", "/ 0:0 0 /", "/ 0 0:0 /", "/ / 0 0:0",
		// Numbers that are not written so.
		"/ / 00", "/ / 01", "/ / -0", "/ / -01", "/ / +1", "/ / --1", "/ / -", "/ / 1-", "/ / 1_0", "/ / 0x1", "/ / 1e1", "/ / 1.0", "/ / a", "/ / \u0661", "/ / 1,", "/ / 1;", "/ / \x00", "/ / \xff", "/ / 0/", "/ /0", "/ // 0",
		"/ 00:0 /", "/ 0:00 /", "/ -0:0 /", "/ 0:-0 /", "/ +1:0 /", "/ 0:0/", "/0:0 /", "/ 0 :0 /", "/ 0: 0 /", "/ -1: 0 /",
		"00:0:0:0:0 / /", "0:00:0:0:0 / /", "0:0:-0:0:0 / /", "0:0:0:+0:0 / /", "0:0:0:0:07 / /", "0:0:0:0:0/ /", "0:0:0:0:0  / /", " 0:0:0:0:0 / /", "0:0:0:0:0 0:0:0:0:0/ /",
		"/ / 9223372036854775808", "/ / -9223372036854775809", "/ / 18446744073709551616", "/ / 99999999999999999999", "/ 9223372036854775808:0 /", "/ 0:-9223372036854775809 /",
		"9223372036854775808:0:0:0:0 / /", "0:18446744073709551616:0:0:0 / /", "0:0:18446744073709551617:0:0 / /", "0:0:0:9223372036854775808:0 / /", "0:0:0:0:-9223372036854775809 / /",
		// Blanks in excess.
		"/ / 0 ", "/ /  0", "/ / 0  0", " / / 0", "/  / 0", "/ 0:0  /", "/  0:0 /", "/ 0:0  0:0 /", "0:0:0:0:0\t/ /", "0:0:0:0:0 / / 0\n", "0:0:0:0:0 /\u00a0/",
		strings.Repeat("/", 5000), strings.Repeat("/ ", 5000), strings.Repeat(" ", 5000), strings.Repeat(":", 5000), "/ / " + strings.Repeat("9", 5000), "/ / " + strings.Repeat("0", 5000),
	} {
		wantParsed(t, s, false)
	}
}

// form is the form of all texts, but for the bounds of numbers.
var form = regexp.MustCompile(strings.ReplaceAll("^(N:N:N:N:N )*/ (N:N )*/( N)*$", "N", "(0|-?[1-9][0-9]*)"))

// isText tells whether s is the Text of a world, by its form and its numbers.
func isText(s string) bool {
	for _, digits := range strings.FieldsFunc(s, func(r rune) bool { return r != '-' && (r < '0' || r > '9') }) {
		if _, err := strconv.ParseInt(digits, 10, 64); err != nil {
			return false
		}
	}
	return form.MatchString(s)
}

// TestParseShort: P14.5, of all short texts of a few bytes.
func TestParseShort(t *testing.T) {
	const bytes = "/ :-01"
	texts, right := []string{""}, 0
	for len(texts[0]) < 7 {
		var longer []string
		for _, s := range texts {
			wantParsed(t, s, isText(s))
			right += btoi(isText(s))
			for _, b := range bytes {
				longer = append(longer, s+string(b))
			}
		}
		texts = longer
		if t.Failed() {
			return
		}
	}
	for _, s := range texts {
		// Of the longest ones there are too many to be tried all.
		if strings.HasPrefix(s, "/ ") {
			wantParsed(t, s, isText(s))
			right += btoi(isText(s))
		}
	}
	if right < 10 {
		t.Error(right)
	}
}

// anyWorld is a world of any numbers, which no system need have.
func anyWorld(c chance) api.World {
	var w api.World
	number := func() int { return int(c.number()) }
	for range c.IntN(4) {
		w.Threads = append(w.Threads, api.Thread{Role: number(), Loc: number(), State: number(), Left: c.number(), Depth: number()})
	}
	for range c.IntN(4) {
		w.Locks = append(w.Locks, api.Lock{Owner: number(), Depth: number()})
	}
	for range c.IntN(4) {
		w.Vals = append(w.Vals, c.number())
	}
	return w
}

// TestParseChanged: P14.5, of texts of worlds in which a byte or two are left out, put in, or others.
func TestParseChanged(t *testing.T) {
	told := map[bool]int{}
	for seed := range uint64(30000) {
		c := chance{Rand: rand.New(rand.NewPCG(seed, 41))}
		s := []byte(world.Text(anyWorld(c)))
		for range 1 + c.IntN(2) {
			at := c.IntN(len(s))
			b := "/ :-+0123456789\n"[c.IntN(16)]
			switch c.IntN(3) {
			case 0:
				s = slices.Delete(s, at, at+1)
			case 1:
				s = slices.Insert(s, at, b)
			default:
				s[at] = b
			}
		}
		want := isText(string(s))
		told[want]++
		if wantParsed(t, string(s), want); t.Failed() {
			t.Fatal("seed", seed)
		}
	}
	if told[true] < 2000 || told[false] < 10000 {
		t.Error(told)
	}
}

// TestThereAndBack: P14.5, P14.6, of worlds of any numbers: each is found in its text again.
func TestThereAndBack(t *testing.T) {
	for seed := range uint64(30000) {
		w := anyWorld(chance{Rand: rand.New(rand.NewPCG(seed, 6))})
		s := world.Text(w)
		if s != written(w) {
			t.Fatalf("seed %d: %q, want %q", seed, s, written(w))
		}
		got, ok := world.Parse(s)
		if !ok || !world.Same(got, w) || !alike(got, w) {
			t.Fatalf("seed %d: %q: %v, %+v", seed, s, ok, got)
		}
	}
}

// TestUnlike: P14.6, of every two worlds of a few: those that are not the same have unlike texts, those that are have the same one.
func TestUnlike(t *testing.T) {
	threads := [][]api.Thread{nil, {}, {{}}, {{Role: 1}}, {{Loc: 1}}, {{State: 1}}, {{Left: 1}}, {{Depth: 1}}, {{Depth: -1}}, {{Depth: 11}}, {{Role: 11}}, {{Role: 1, Loc: 1}}, {{}, {}}, {{Role: 1}, {}}, {{}, {Role: 1}}}
	locks := [][]api.Lock{nil, {}, {{}}, {{Owner: 1}}, {{Owner: -1}}, {{Depth: 1}}, {{Owner: 1, Depth: 1}}, {{Owner: 11}}, {{}, {}}, {{}, {Owner: 1}}, {{Depth: 1}, {}}}
	vals := [][]int64{nil, {}, {0}, {1}, {-1}, {11}, {1, 1}, {0, 1}, {1, 0}, {0, 0}, {1, 11}, {11, 1}, {0, 0, 0}}
	texts := map[string]api.World{}
	for _, a := range threads {
		for _, b := range locks {
			for _, c := range vals {
				w := api.World{Threads: a, Locks: b, Vals: c}
				s := world.Text(w)
				if other, is := texts[s]; is && (!world.Same(w, other) || !alike(w, other)) {
					t.Errorf("%q is the text of %+v and of %+v", s, w, other)
				}
				texts[s] = w
			}
		}
	}
	// Of each list none and an empty one are the same.
	if want := (len(threads) - 1) * (len(locks) - 1) * (len(vals) - 1); len(texts) != want {
		t.Errorf("%d texts, want %d", len(texts), want)
	}
	for s, w := range texts {
		for other, v := range texts {
			if world.Same(w, v) != (s == other) {
				t.Fatalf("%q and %q: %v", s, other, s != other)
			}
		}
	}
}

// TestParseApart: what Parse told once is not changed by what is done with what it tells later, and no two of its lists share anything.
func TestParseApart(t *testing.T) {
	s := "1:2:1:4:5 6:7:8:9:10 / 0:3 -1:0 / 4 5 6"
	w, _ := world.Parse(s)
	again, _ := world.Parse(s)
	again.Threads[1].Loc, again.Locks[0].Owner, again.Vals[2] = 70, 71, 72
	_, _, _ = append(w.Threads[:1], api.Thread{}), append(w.Locks, api.Lock{Owner: 73}), append(w.Vals, 74)
	if got := world.Text(w); got != "1:2:1:4:5 0:0:0:0:0 / 0:3 -1:0 / 4 5 6" {
		t.Error(got)
	}
	wantParsed(t, s, true)
}
