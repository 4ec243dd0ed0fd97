package lex_test

import (
	"regexp"
	"strconv"
	"strings"
	"testing"

	"vigil/api"
	"vigil/lex"
)

// texts are ordinary ones, edges and wrong ones, on which what follows is held against Scan.
func texts() []string {
	return []string{
		"", " ", "#", "#\n", "a.b=7;", "a.b=7;# x\n", "x & y", "007", "$", "a 9223372036854775808", "9223372036854775807",
		"monitor m { var b : bool = false; var n : -3..3 = -1; method get { while !m.b && m.n <= 0 { wait m 10; } m.b = false; notifyall m; } }",
		"thread t * { loop { choose { call m.get; } or { sync m { notify m; } } } }\nthread u 2 { if m.n == 2 * (m.n + 1) || true { skip; } else { } }",
		"1a 2.3..4...5", "a#b\nc#d", "===!==<=>=&&||", "0 00", "a\x00b", "é", "a\r\n\tb\v", strings.Repeat("n", api.MaxName) + " x", strings.Repeat("n", api.MaxName+1),
		strings.Repeat("ab ; ", 100), strings.Repeat(";", api.MaxText), strings.Repeat("#", api.MaxText+1),
	}
}

// sameButPlaces: whether two lists are the same, but for their places.
func sameButPlaces(a, b []api.Token) bool {
	if len(a) != len(b) {
		return false
	}
	for i := range a {
		x, y := a[i], b[i]
		x.At, y.At = 0, 0
		if x != y {
			return false
		}
	}
	return true
}

// checkAgain: P1.5's first half. (A text of one byte a token, near MaxText, is joined to one that is too long.)
func checkAgain(t *testing.T, s string, l []api.Token) {
	t.Helper()
	joined := lex.Join(l...)
	again, err, at := lex.Scan(joined)
	if len(joined) > api.MaxText {
		if err != api.ErrLong || at != api.MaxText {
			t.Fatalf("%.60q: joined: %d, %d", s, err, at)
		}
		return
	}
	if err != api.OK || !sameButPlaces(l, again) {
		t.Fatalf("%.60q: joined: %v, %d; wanted %v", s, again, err, l)
	}
}

// checkBetween: P1.5's second half: at each place between two tokens, right behind the one and right ahead of the other.
func checkBetween(t *testing.T, s string, l []api.Token) {
	t.Helper()
	for i := 0; i+1 < len(l); i++ {
		for _, at := range []int{l[i].At + len(l[i].Text), l[i+1].At} {
			for _, gap := range []string{" ", "\t", "\r", "\n", "#\n", "# $ & 007 \"\n"} {
				moved := s[:at] + gap + s[at:]
				if len(moved) > api.MaxText {
					continue
				}
				got, err, _ := lex.Scan(moved)
				if err != api.OK || !sameButPlaces(l, got) || got[i].At != l[i].At || got[i+1].At != l[i+1].At+len(gap) {
					t.Fatalf("%q: %v, %d; wanted %v", moved, got, err, l)
				}
			}
		}
	}
}

// onlyBlanks: whether there is nothing but blanks and notes in a piece of a text.
var onlyBlanks = regexp.MustCompile(`^(?:[ \t\r\n]|#[^\n]*(?:\n|$))*$`)

// checkPlaces: P1.6.
func checkPlaces(t *testing.T, s string, l []api.Token) {
	t.Helper()
	end := 0
	for i, x := range l {
		if x.At < end || i > 0 && x.At <= l[i-1].At || !strings.HasPrefix(s[x.At:], x.Text) || !onlyBlanks.MatchString(s[end:x.At]) {
			t.Fatalf("%.60q: token %d of %v", s, i, l)
		}
		if last := i == len(l)-1; last != (x.Kind == api.TkEnd) || last != (x.Text == "") {
			t.Fatalf("%.60q: the end: %v", s, l)
		}
		end = x.At + len(x.Text)
	}
	if end != len(s) {
		t.Fatalf("%.60q: ends at %d", s, end)
	}
}

// checkFollows: P1.5, P1.6, and that there is nothing beside an error.
func checkFollows(t *testing.T, s string) {
	t.Helper()
	l, err, at := lex.Scan(s)
	if err != api.OK {
		if len(l) != 0 || at < 0 || at > len(s) {
			t.Fatalf("%.60q: %v, %d, %d", s, l, err, at)
		}
		return
	}
	checkAgain(t, s, l)
	checkPlaces(t, s, l)
	if len(s) < 300 {
		checkBetween(t, s, l)
	}
}

// TestFollows: P1.5 and P1.6.
func TestFollows(t *testing.T) {
	for _, s := range texts() {
		checkFollows(t, s)
		for i := range min(len(s), 80) { // each beginning is a text, too
			checkFollows(t, s[:i])
		}
	}
}

var piece = regexp.MustCompile(`^(?:([ \t\r\n]+|#[^\n]*)|([a-zA-Z][a-zA-Z0-9_]*)|([0-9]+)|(\.\.|==|!=|<=|>=|&&|\|\||[{}();:=<>+\-*!.]))`)

// plainScan is P1.3 again, by other means than the program's.
func plainScan(s string) ([]api.Token, api.Errno, int) {
	var l []api.Token
	at := 0
	for at < len(s) {
		m := piece.FindStringSubmatch(s[at:])
		if m == nil {
			return nil, api.ErrByte, at
		}
		x := api.Token{Text: m[0], At: at}
		switch {
		case m[2] != "":
			x.Kind = api.TkName
			if strings.Contains(" "+words+" ", " "+m[2]+" ") {
				x.Kind = api.TkWord
			} else if len(m[2]) > api.MaxName {
				return nil, api.ErrName, at
			}
		case m[3] != "":
			n, err := strconv.ParseUint(m[3], 10, 63)
			if err != nil || strconv.FormatUint(n, 10) != m[3] {
				return nil, api.ErrNum, at
			}
			x.Kind, x.N = api.TkNum, int64(n)
		case m[4] != "":
			x.Kind = api.TkSign
		}
		if x.Kind != 0 {
			l = append(l, x)
		}
		at += len(m[0])
	}
	return append(l, api.Token{Kind: api.TkEnd, At: len(s)}), api.OK, 0
}

func checkPlain(t *testing.T, s string) {
	t.Helper()
	if len(s) > api.MaxText {
		return
	}
	want, wantErr, wantAt := plainScan(s)
	got, err, at := lex.Scan(s)
	same := sameButPlaces(got, want) && err == wantErr && at == wantAt
	for i := 0; same && i < len(got); i++ {
		same = got[i] == want[i]
	}
	if !same {
		t.Fatalf("Scan(%.60q) = %v, %d, %d; wanted %v, %d, %d", s, got, err, at, want, wantErr, wantAt)
	}
}

// TestAllShort: P1.3, P1.5 and P1.6, of all texts of at most four of these pieces.
func TestAllShort(t *testing.T) {
	pieces := []string{" ", "\n", "#", "a", "if", "_", "0", "7", ".", "=", "!", "<", "&", "|", ";", "$"}
	short := []string{""}
	for range 4 {
		var longer []string
		for _, s := range short {
			checkPlain(t, s)
			checkFollows(t, s)
			for _, p := range pieces {
				longer = append(longer, s+p)
			}
		}
		short = longer
	}
	for _, s := range short {
		checkPlain(t, s)
	}
}

// FuzzScan: the same, of any text.
func FuzzScan(f *testing.F) {
	for _, s := range texts() {
		f.Add(s)
	}
	f.Fuzz(func(t *testing.T, s string) {
		checkPlain(t, s)
		checkFollows(t, s)
	})
}
