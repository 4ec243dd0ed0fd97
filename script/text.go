package script

import (
	"strconv"
	"strings"

	"vigil/api"
)

// maxNumber is the greatest Thread or Draw that a text has.
const maxNumber = 999999

// Put writes the picks, a blank between two.
func Put(l []api.Pick) (string, api.Errno) {
	if len(l) > api.MaxPicks {
		return "", api.ErrMany
	}
	var words []string
	for _, p := range l {
		word, ok := text(p)
		if !ok {
			return "", api.ErrArg
		}
		words = append(words, word)
	}
	return strings.Join(words, " "), api.OK
}

// Parse tells the picks whose Put s is.
func Parse(s string) ([]api.Pick, api.Errno) {
	if s == "" {
		return nil, api.OK
	}
	var l []api.Pick
	for word := range strings.SplitSeq(s, " ") {
		p, ok := pick(word)
		// No list that is longer has a Put.
		if !ok || len(l) == api.MaxPicks {
			return nil, api.ErrArg
		}
		l = append(l, p)
	}
	return l, api.OK
}

// text is a pick's text, and whether it has one.
func text(p api.Pick) (string, bool) {
	word := strconv.Itoa(p.Thread)
	switch {
	case p.Kind == api.PkTick:
		word = "t"
	case p.Kind == api.PkSpur:
		word = "s" + word
	case p.Draw != 0:
		word += "." + strconv.Itoa(p.Draw)
	}
	// A pick has a text just if it can be read from it again.
	again, ok := pick(word)
	return word, ok && again == p
}

// pick is the pick whose text a word is, and whether there is one.
func pick(word string) (api.Pick, bool) {
	if word == "t" {
		return api.Pick{Kind: api.PkTick}, true
	}
	if digits, ok := strings.CutPrefix(word, "s"); ok {
		thread, ok := number(digits)
		return api.Pick{Kind: api.PkSpur, Thread: thread}, ok
	}
	digits, drawn, ok := strings.Cut(word, ".")
	if !ok {
		thread, ok := number(digits)
		return api.Pick{Thread: thread}, ok
	}
	thread, right := number(digits)
	draw, ok := number(drawn)
	return api.Pick{Thread: thread, Draw: draw}, right && ok && draw != 0
}

// number is the number that stands there, and whether it stands there as it is written, and is not too great.
func number(digits string) (int, bool) {
	n, err := strconv.Atoi(digits)
	return n, err == nil && 0 <= n && n <= maxNumber && strconv.Itoa(n) == digits
}
