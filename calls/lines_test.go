package calls_test

import (
	"slices"
	"strings"
	"testing"

	"vigil/api"
	"vigil/print"
	"vigil/types"
)

// What Count, Inline and Check must tell, once more, by other means: statements are laid as lines of text, in which a line that calls gives way to those of its method, one by one, till none calls; who leads to whom is a table of all pairs.

// line is one of a text: a statement's first one, with its place, or one that ends a block.
type line struct {
	text string
	stmt bool
	at   int
}

// lines lays statements down.
func lines(t testing.TB, l []api.Stmt) []line {
	t.Helper()
	text, err := print.Text(api.Program{Roles: []api.Role{{Name: "r", Body: l}}})
	if err != api.OK {
		t.Fatal(err)
	}
	var all []line
	open := ordered(l)
	rows := strings.Split(strings.TrimSpace(text), "\n")
	for _, row := range rows[1 : len(rows)-1] {
		x := line{text: strings.TrimSpace(row)}
		if x.text[0] != '}' {
			x.stmt, x.at, open = true, open[0].At, open[1:]
		}
		all = append(all, x)
	}
	return all
}

// calling tells which method a line calls, if it does.
func (x line) calling() (api.Ref, bool) {
	rest, ok := strings.CutPrefix(x.text, "call ")
	mon, name, _ := strings.Cut(strings.TrimSuffix(rest, ";"), ".")
	return api.Ref{Mon: mon, Name: name}, ok
}

// methods has each method's lines: those of the first one of its names.
func methods(t testing.TB, p api.Program) map[api.Ref][]line {
	t.Helper()
	all := map[api.Ref][]line{}
	for _, m := range slices.Backward(p.Mons) {
		for r := range all {
			if r.Mon == m.Name {
				delete(all, r)
			}
		}
		for _, f := range slices.Backward(m.Methods) {
			all[api.Ref{Mon: m.Name, Name: f.Name}] = append([]line{}, lines(t, f.Body)...)
		}
	}
	return all
}

// table tells of any two methods whether the first one leads to the second one.
func table(bodies map[api.Ref][]line) map[[2]api.Ref]bool {
	leads := map[[2]api.Ref]bool{}
	all := map[api.Ref]bool{}
	for r, body := range bodies {
		for _, x := range body {
			if next, ok := x.calling(); ok {
				leads[[2]api.Ref{r, next}], all[r], all[next] = true, true, true
			}
		}
	}
	for via := range all {
		for from := range all {
			for to := range all {
				if leads[[2]api.Ref{from, via}] && leads[[2]api.Ref{via, to}] {
					leads[[2]api.Ref{from, to}] = true
				}
			}
		}
	}
	return leads
}

// counted is what Count must tell, and the lines of what is inlined.
func counted(t testing.TB, p api.Program, l []api.Stmt) ([]line, int, api.Errno) {
	t.Helper()
	bodies := methods(t, p)
	known := len(bodies)
	begin := api.Ref{}
	bodies[begin] = lines(t, l)
	if len(bodies) != known+1 {
		t.Fatal("a method without a name")
	}
	leads := table(bodies)
	err := api.OK
	for pair := range leads {
		to := pair[1]
		switch {
		case pair[0] != begin:
		case bodies[to] == nil:
			err = api.ErrUnknown
		case leads[[2]api.Ref{to, to}] && err == api.OK:
			err = api.ErrCycle
		}
	}
	if err != api.OK {
		return nil, 0, err
	}
	return grown(bodies, bodies[begin])
}

// grown puts methods in the place of calls, from the first one on.
func grown(bodies map[api.Ref][]line, l []line) ([]line, int, api.Errno) {
	l = slices.Clone(l)
	for {
		n, at := 0, -1
		for i, x := range l {
			if x.stmt {
				n++
			}
			if _, ok := x.calling(); ok && at < 0 {
				at = i
			}
		}
		if n > 400 {
			return nil, 0, api.ErrBig
		}
		if at < 0 {
			return l, n, api.OK
		}
		r, _ := l[at].calling()
		put := append([]line{{"sync " + r.Mon + " {", true, l[at].at}}, bodies[r]...)
		l = slices.Replace(l, at, at+1, append(put, line{text: "}"})...)
	}
}

// checked is what Check must tell.
func checked(t testing.TB, p api.Program) (api.Errno, int) {
	t.Helper()
	if err, at := types.Check(p); err != api.OK {
		return err, at
	}
	leads := table(methods(t, p))
	for _, m := range p.Mons {
		for _, f := range m.Methods {
			r := api.Ref{Mon: m.Name, Name: f.Name}
			if leads[[2]api.Ref{r, r}] {
				return api.ErrCycle, f.At
			}
		}
	}
	for _, r := range p.Roles {
		if _, _, err := counted(t, p, r.Body); err != api.OK {
			return err, r.At
		}
	}
	return api.OK, 0
}
