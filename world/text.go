package world

import (
	"strconv"
	"strings"

	"vigil/api"
)

// Text writes all numbers of w: its threads, its locks, its values, a / between.
func Text(w api.World) string {
	var text []byte
	for _, t := range w.Threads {
		text = word(text, int64(t.Role), int64(t.Loc), int64(t.State), t.Left, int64(t.Depth))
	}
	text = append(text, "/ "...)
	for _, l := range w.Locks {
		text = word(text, int64(l.Owner), int64(l.Depth))
	}
	text = append(text, "/ "...)
	for _, n := range w.Vals {
		text = word(text, n)
	}
	return string(text[:len(text)-1])
}

// word adds numbers, colons between them and a blank behind.
func word(text []byte, numbers ...int64) []byte {
	for i, n := range numbers {
		if i > 0 {
			text = append(text, ':')
		}
		text = strconv.AppendInt(text, n, 10)
	}
	return append(text, ' ')
}

// Parse tells the world whose Text s is, and whether there is one.
func Parse(s string) (api.World, bool) {
	var w api.World
	var ok bool
	// So the last list has a / behind it, as the others have.
	words := append(strings.Split(s, " "), "/")
	w.Threads, words, _ = list(words, thread)
	w.Locks, words, _ = list(words, lock)
	w.Vals, words, ok = list(words, func(next func() int64) int64 { return next() })
	if !ok || len(words) > 0 {
		return api.World{}, false
	}
	return w, true
}

// list reads words up to a /, each by the numbers that are split off it, and tells the words behind. Where it cannot there are none behind, so that no list can be read there.
func list[T any](words []string, read func(next func() int64) T) (all []T, behind []string, ok bool) {
	for i, s := range words {
		if s == "/" {
			return all, words[i+1:], true
		}
		next, whole := splitter(s)
		one := read(next)
		if !whole() {
			break
		}
		all = append(all, one)
	}
	return nil, nil, false
}

// splitter tells who splits off a word's numbers, one behind the other, and who tells whether these were all that it has, each written as Text writes it.
func splitter(s string) (next func() int64, whole func() bool) {
	right, more := true, true
	next = func() int64 {
		var digits string
		digits, s, more = strings.Cut(s, ":")
		n, err := strconv.ParseInt(digits, 10, 64)
		right = right && err == nil && strconv.FormatInt(n, 10) == digits
		return n
	}
	return next, func() bool { return right && !more }
}

// thread takes the numbers of a thread in the order in which they stand.
func thread(next func() int64) api.Thread {
	return api.Thread{Role: int(next()), Loc: int(next()), State: int(next()), Left: next(), Depth: int(next())}
}

func lock(next func() int64) api.Lock {
	return api.Lock{Owner: int(next()), Depth: int(next())}
}
