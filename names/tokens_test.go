package names_test

import (
	"slices"
	"testing"

	"vigil/api"
	"vigil/lex"
)

// What Check must tell, once more, by the tokens of a text that is a program: the words ahead of a name, and the signs behind it, tell what it is; tokens stand in the order in which names are looked at.

// named is a name in a text: what it must be the name of, in which monitor, and the place that is told of it.
type named struct {
	what string
	mon  string
	name string
	at   int
}

// parts are a text's monitors and threads, one behind the other, the monitors ahead of the threads.
func parts(t testing.TB, s string) [][]api.Token {
	t.Helper()
	l, err, at := lex.Scan(s)
	if err != api.OK {
		t.Fatalf("%.300q: error %d at %d", s, err, at)
	}
	var mons, roles [][]api.Token
	for i, token := range l {
		if token.Text != "monitor" && token.Text != "thread" {
			continue
		}
		end := slices.IndexFunc(l[i+1:], func(x api.Token) bool {
			return x.Text == "monitor" || x.Text == "thread" || x.Kind == api.TkEnd
		})
		part := l[i : i+1+end]
		if token.Text == "monitor" {
			mons = append(mons, part)
		} else {
			roles = append(roles, part)
		}
	}
	return append(mons, roles...)
}

// declared are the names that a part declares.
func declared(part []api.Token) []named {
	var all []named
	mon := ""
	for i, token := range part {
		switch token.Text {
		case "monitor":
			mon = part[i+1].Text
			all = append(all, named{"monitor", "", mon, part[i+1].At})
		case "thread", "var", "method":
			all = append(all, named{token.Text, mon, part[i+1].Text, part[i+1].At})
		}
	}
	return all
}

// used are the names that a part's statements have.
func used(part []api.Token) []named {
	var all []named
	for i, token := range part {
		switch token.Text {
		case "sync", "wait", "notify", "notifyall":
			all = append(all, named{"monitor", "", part[i+1].Text, token.At})
		case "call":
			all = append(all, named{"method", part[i+1].Text, part[i+3].Text, token.At})
		case ".":
			if part[i-2].Text != "call" {
				all = append(all, named{"var", part[i-1].Text, part[i+1].Text, part[i-1].At})
			}
		}
	}
	return all
}

// twice tells whether two names may not both be there.
func (n named) twice(m named) bool {
	return n.name == m.name && n.mon == m.mon && n.isMember() == m.isMember() && (n.isMember() || n.what == m.what)
}

func (n named) isMember() bool { return n.what == "var" || n.what == "method" }

// checked is what Check must tell of a text.
func checked(t testing.TB, s string) (api.Errno, int) {
	t.Helper()
	var ahead []named
	for _, part := range parts(t, s) {
		for _, n := range declared(part) {
			if slices.ContainsFunc(ahead, n.twice) {
				return api.ErrTwice, n.at
			}
			ahead = append(ahead, n)
		}
		if count := part[2]; part[0].Text == "thread" && count.Text != "*" && (count.N < 1 || count.N > 8) {
			return api.ErrMany, part[1].At
		}
	}
	for _, part := range parts(t, s) {
		for _, n := range used(part) {
			same := func(m named) bool { return n.what == m.what && n.mon == m.mon && n.name == m.name }
			if !slices.ContainsFunc(ahead, same) {
				return api.ErrUnknown, n.at
			}
		}
	}
	return api.OK, 0
}
