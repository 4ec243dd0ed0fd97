// Package sample makes programs, and worlds of them, by numbers that are drawn: what the tests of layers try.
package sample

import (
	"slices"
	"strconv"
	"strings"

	"vigil/api"
	"vigil/parse"
	"vigil/world"
)

// Draw tells a number from 0 on that is below n.
type Draw func(n int) int

// One is one of l.
func One[T any](d Draw, l ...T) T { return l[d(len(l))] }

// Number is a value of an int, often one near a bound.
func (d Draw) Number() int64 {
	return One[int64](d, 0, 1, -1, 2, 3, 1<<61, 1<<62, -1<<62, 1<<63-1, 1<<63-2, -1<<63, -1<<63+1)
}

// Program is the text of a program that is right, unless it is too big: of one to three monitors, each with the bool b, the range n and the int x, and of one to three roles.
func (d Draw) Program() string {
	w := writer{Draw: d, mons: []string{"a", "c", "d"}[:1+d(3)]}
	return w.program()
}

// System is one that world.Make takes, and its program's text.
func (d Draw) System() (api.System, string) {
	for {
		text := d.Program()
		p, _, _ := parse.Parse(text)
		if s, err, _ := world.Make(p); err == api.OK {
			return s, text
		}
	}
}

// writer writes a program.
type writer struct {
	Draw
	mons  []string
	meths []string
}

// program declares monitors whose methods call those behind them alone, and roles.
func (w *writer) program() string {
	for _, m := range w.mons {
		for k := range w.Draw(3) {
			w.meths = append(w.meths, m+".f"+strconv.Itoa(k))
		}
	}
	var s strings.Builder
	from := 0
	for _, m := range w.mons {
		s.WriteString("monitor " + m + " { " + w.variables())
		for from < len(w.meths) && strings.HasPrefix(w.meths[from], m) {
			from++
			s.WriteString("method " + w.meths[from-1][2:] + " { " + w.block([]string{m}, m, from, 2) + "} ")
		}
		s.WriteString("} ")
	}
	for i := range 1 + w.Draw(3) {
		s.WriteString("thread r" + strconv.Itoa(i) + " " + One(w.Draw, "1", "2", "*") + " { ")
		s.WriteString("sync " + w.mons[0] + " { " + w.block(w.mons[:1], w.mons[0], 0, 3) + "} " + w.block(nil, "", 0, 3) + "} ")
	}
	return s.String()
}

// variables declares those that each monitor has.
func (w *writer) variables() string {
	// The least number of 64 bits cannot be written.
	x := max(w.Number(), -1<<63+1)
	return "var b : bool = " + One(w.Draw, "true", "false") + "; var n : 0..3 = " + strconv.Itoa(w.Draw(4)) + "; var x : int = " + strconv.FormatInt(x, 10) + "; "
}

// block is a few statements, where these monitors are owned. What waits there waits at the monitor that is asked around it; methods are called from a place on.
func (w *writer) block(owned []string, waits string, from, depth int) string {
	s := ""
	for range w.Draw(4) {
		switch k := w.Draw(5); {
		case k < 2 && depth > 0:
			s += w.part(owned, from, depth-1)
		case k < 4 && waits != "":
			s += "wait " + waits + One(w.Draw, "; ", " 1; ", " 2; ", " 3; ")
		default:
			s += w.act(owned, from)
		}
	}
	return s
}

// act is a statement without blocks.
func (w *writer) act(owned []string, from int) string {
	if k := w.Draw(5); k == 0 && from < len(w.meths) {
		return "call " + w.meths[from+w.Draw(len(w.meths)-from)] + "; "
	} else if k > 0 && len(owned) > 0 {
		s := One(w.Draw, "m.n = m.n + 1; ", "m.n = 3 - m.n; ", "m.b = !m.b; ", "m.b = o.n > 1; ", "m.x = m.x + o.n; ", "m.x = 4 * m.x; ", "notify m; ", "notify m; ", "notifyall m; ", "notifyall m; ")
		return strings.NewReplacer("m.", One(w.Draw, owned...)+".", "o.", One(w.Draw, owned...)+".", " m;", " "+One(w.Draw, owned...)+";").Replace(s)
	}
	return "skip; "
}

// part is a statement with blocks.
func (w *writer) part(owned []string, from, depth int) string {
	mon, guard := "", "true"
	if len(owned) > 0 {
		mon = One(w.Draw, owned...)
		guard = w.guard(mon)
	}
	block := func(mon string) string { return "{ " + w.block(owned, mon, from, depth) + "} " }
	switch w.Draw(9) {
	case 0:
		return "if " + guard + " " + block(mon)
	case 1:
		return "if " + guard + " " + block(mon) + "else " + block(mon)
	case 2, 3:
		return "while " + guard + " " + block(mon)
	case 4:
		return "loop " + block(mon)
	case 5:
		return "choose " + block(mon) + strings.Repeat("or "+block(""), w.Draw(3))
	}
	enters := One(w.Draw, w.mons...)
	return "sync " + enters + " { " + w.block(append(slices.Clone(owned), enters), enters, from, depth) + "} "
}

// guard is a bool expression that reads no other variable than those of a monitor.
func (w *writer) guard(mon string) string {
	return strings.ReplaceAll(One(w.Draw, "true", "m.b", "!m.b", "m.n > 1 && m.b", "m.n != 2", "m.x + 1 > 0", "m.x + 1 > 0", "m.b || m.x - 1 < 3"), "m", mon)
}
