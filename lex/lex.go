// Package lex is layer 1: it takes a program's text apart into tokens.
package lex

import (
	"strconv"
	"strings"

	"vigil/api"
)

// Word tells whether s is a word of the language.
func Word(s string) bool {
	switch s {
	case "monitor", "var", "method", "thread", "bool", "int", "true", "false",
		"skip", "if", "else", "while", "loop", "choose", "or", "sync", "call",
		"wait", "notify", "notifyall":
		return true
	}
	return false
}

// Name tells whether s is a name: as long as one may be, and no word.
func Name(s string) bool {
	if len(s) == 0 || len(s) > api.MaxName || !isLetter(s[0]) {
		return false
	}
	return nameEnd(s, 0) == len(s) && !Word(s)
}

// Scan takes s apart into its tokens, or tells the first error from the front and its place.
func Scan(s string) ([]api.Token, api.Errno, int) {
	if len(s) > api.MaxText {
		return nil, api.ErrLong, api.MaxText
	}
	var tokens []api.Token
	for at := passBlanks(s, 0); at < len(s); {
		t, err := tokenAt(s, at)
		if err != api.OK {
			return nil, err, at
		}
		tokens = append(tokens, t)
		at = passBlanks(s, at+len(t.Text))
	}
	return append(tokens, api.Token{Kind: api.TkEnd, At: len(s)}), api.OK, 0
}

// Join lays the Texts of l one behind the other, a blank between two.
func Join(l ...api.Token) string {
	var b strings.Builder
	for i, t := range l {
		if i > 0 {
			b.WriteByte(' ')
		}
		b.WriteString(t.Text)
	}
	return b.String()
}

// tokenAt takes the token that begins at a byte that is neither a blank nor in a note.
// Every error it tells has its place at that byte.
func tokenAt(s string, at int) (api.Token, api.Errno) {
	switch c := s[at]; {
	case isLetter(c):
		return nameAt(s, at)
	case isDigit(c):
		return numberAt(s, at)
	}
	return signAt(s, at)
}

func nameAt(s string, at int) (api.Token, api.Errno) {
	t := tokenOf(api.TkName, s, at, nameEnd(s, at))
	switch {
	case Word(t.Text):
		t.Kind = api.TkWord
	case len(t.Text) > api.MaxName:
		return api.Token{}, api.ErrName
	}
	return t, api.OK
}

func numberAt(s string, at int) (api.Token, api.Errno) {
	t := tokenOf(api.TkNum, s, at, numberEnd(s, at))
	if len(t.Text) > 1 && t.Text[0] == '0' {
		return api.Token{}, api.ErrNum
	}
	n, err := strconv.ParseInt(t.Text, 10, 64)
	if err != nil { // of digits alone, only a value that is too great is refused
		return api.Token{}, api.ErrNum
	}
	t.N = n
	return t, api.OK
}

func signAt(s string, at int) (api.Token, api.Errno) {
	n := signLength(s, at)
	if n == 0 {
		return api.Token{}, api.ErrByte
	}
	return tokenOf(api.TkSign, s, at, at+n), api.OK
}

// signLength is how many bytes the longest sign at that place has; 0 if there is none.
func signLength(s string, at int) int {
	first, second := s[at], byte(0) // no sign has a byte 0: it stands for the end
	if at+1 < len(s) {
		second = s[at+1]
	}
	switch first {
	case '&', '|':
		if second == first {
			return 2
		}
		return 0
	case '.':
		if second == '.' {
			return 2
		}
		return 1
	case '=', '!', '<', '>':
		if second == '=' {
			return 2
		}
		fallthrough // alone, it is a sign as those below are
	case '{', '}', '(', ')', ';', ':', '+', '-', '*':
		return 1
	}
	return 0
}

// tokenOf is the token from one place to another. Its Text is a copy, for a piece of s would keep all of s.
func tokenOf(kind int, s string, from, to int) api.Token {
	return api.Token{Kind: kind, Text: strings.Clone(s[from:to]), At: from}
}

// passBlanks is the first place from there on where a token begins, or the end.
func passBlanks(s string, at int) int {
	for at < len(s) {
		switch s[at] {
		case '#':
			at = noteEnd(s, at)
		case ' ', '\t', '\r', '\n':
			at++
		default:
			return at
		}
	}
	return at
}

// noteEnd is the place of the line feed behind a note, or the end.
func noteEnd(s string, at int) int {
	for at < len(s) && s[at] != '\n' {
		at++
	}
	return at
}

func nameEnd(s string, at int) int {
	for at < len(s) && (isLetter(s[at]) || isDigit(s[at]) || s[at] == '_') {
		at++
	}
	return at
}

func numberEnd(s string, at int) int {
	for at < len(s) && isDigit(s[at]) {
		at++
	}
	return at
}

func isLetter(c byte) bool {
	return 'a' <= c && c <= 'z' || 'A' <= c && c <= 'Z'
}

func isDigit(c byte) bool {
	return '0' <= c && c <= '9'
}
