package print

import (
	"strconv"
	"strings"

	"vigil/api"
)

// sheet is a text that is laid piece by piece, each one behind what is there.
type sheet struct {
	strings.Builder
	signs
	open int // how many { are open
}

// full tells whether the text is too long already: whatever is laid then is in vain.
func (s *sheet) full() bool { return s.Len() > api.MaxText }

// told is the text, if it is not too long.
func (s *sheet) told() (string, api.Errno) {
	if s.full() {
		return "", api.ErrLong
	}
	return s.String(), api.OK
}

func (s *sheet) lay(pieces ...string) {
	for _, piece := range pieces {
		s.WriteString(piece)
	}
}

// begin lays the beginning of a line.
func (s *sheet) begin(pieces ...string) {
	for range s.open {
		s.WriteString("  ")
	}
	s.lay(pieces...)
}

// end lays the end of a line.
func (s *sheet) end(piece string) {
	s.lay(piece, "\n")
}

func (s *sheet) line(pieces ...string) {
	s.begin(pieces...)
	s.end("")
}

// body opens what stands in braces, lets it be laid, and closes it; the end of the line at which it is closed is left to the caller.
func (s *sheet) body(inside func()) {
	s.end(" {")
	s.open++
	inside()
	s.open--
	s.begin("}")
}

func (s *sheet) program(p api.Program) {
	for _, m := range p.Mons {
		s.monitor(m)
	}
	for _, r := range p.Roles {
		count := "*"
		if !r.Star {
			count = number(r.Count)
		}
		s.begin("thread ", r.Name, " ", count)
		s.blocks("", r.Body)
	}
}

func (s *sheet) monitor(m api.Monitor) {
	s.begin("monitor ", m.Name)
	s.body(func() {
		for _, v := range m.Vars {
			s.variable(v)
		}
		for _, method := range m.Methods {
			s.begin("method ", method.Name)
			s.blocks("", method.Body)
		}
	})
	s.end("")
}

func (s *sheet) variable(v api.Var) {
	kind, first := "int", number(v.Init)
	switch v.Type {
	case api.TyBool:
		kind, first = "bool", "false"
		if v.Init == 1 {
			first = "true"
		}
	case api.TyRange:
		kind = number(v.Lo) + ".." + number(v.Hi)
	}
	s.line("var ", v.Name, " : ", kind, " = ", first, ";")
}

// blocks lays one block behind the other, with a word between two.
func (s *sheet) blocks(word string, list ...[]api.Stmt) {
	for i, block := range list {
		if i > 0 {
			s.lay(" ", word)
		}
		s.body(func() { s.block(block) })
	}
	s.end("")
}

func (s *sheet) block(block []api.Stmt) {
	for _, st := range block {
		if s.full() {
			return
		}
		s.stmt(st)
	}
}

func (s *sheet) stmt(st api.Stmt) {
	switch st.Kind {
	case api.StSkip:
		s.line("skip;")
	case api.StSet:
		s.begin(st.Mon, ".", st.Name, " = ")
		s.expr(st.E, outermost)
		s.end(";")
	case api.StIf:
		s.begin("if ")
		s.expr(st.E, outermost)
		s.blocks("else", st.Blocks...)
	case api.StWhile:
		s.begin("while ")
		s.expr(st.E, outermost)
		s.blocks("", st.Blocks...)
	case api.StLoop:
		s.begin("loop")
		s.blocks("", st.Blocks...)
	case api.StChoose:
		s.begin("choose")
		s.blocks("or", st.Blocks...)
	case api.StSync:
		s.begin("sync ", st.Mon)
		s.blocks("", st.Blocks...)
	case api.StCall:
		s.line("call ", st.Mon, ".", st.Name, ";")
	case api.StWait:
		s.begin("wait ", st.Mon)
		if st.N > 0 {
			s.lay(" ", number(st.N))
		}
		s.end(";")
	case api.StNotify:
		s.line("notify ", st.Mon, ";")
	case api.StAll:
		s.line("notifyall ", st.Mon, ";")
	}
}

// expr lays e, written at a level.
func (s *sheet) expr(e api.Expr, level int) {
	if s.full() {
		return
	}
	enclosed := s.enclosed(e.Op, level)
	if enclosed {
		s.lay("(")
	}
	s.bare(e)
	if enclosed {
		s.lay(")")
	}
}

// bare lays e without parentheses of its own.
func (s *sheet) bare(e api.Expr) {
	mark := s.signs[e.Op]
	switch e.Op {
	case api.OpNum:
		s.lay(number(e.N))
	case api.OpTrue:
		s.lay("true")
	case api.OpFalse:
		s.lay("false")
	case api.OpVar:
		s.lay(e.Mon, ".", e.Name)
	case api.OpNot, api.OpNeg:
		s.lay(mark.text)
		s.expr(e.Kids[0], mark.last)
	case api.OpMul:
		s.lay(number(e.N), mark.text)
		s.expr(e.Kids[0], mark.last)
	default:
		s.expr(e.Kids[0], mark.first)
		s.lay(mark.text)
		s.expr(e.Kids[1], mark.last)
	}
}

func number(n int64) string { return strconv.FormatInt(n, 10) }
