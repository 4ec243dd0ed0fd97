package print_test

import (
	"strconv"
	"strings"

	"vigil/api"
	"vigil/lex"
)

// The texts once more, by other means than the program's: expressions by a table, programs as one line that is laid out afterwards; and a reader, to come back from a text to its tree.

// written has of each Op its level and its text: N is its number, M and V its names, a digit the next kid at that level, _ a blank.
var written = strings.Fields(`
	6:N 6:true 6:false 6:M.V 3:!3 6:-6 6:N_*_6
	5:5_+_6 5:5_-_6
	4:5_==_5 4:5_!=_5 4:5_<_5 4:5_<=_5 4:5_>_5 4:5_>=_5
	2:2_&&_3 1:1_||_2`)

// plainExpr is an expression's text at a level, and its nest there.
func plainExpr(e api.Expr, level int) (string, int) {
	form := written[e.Op-1]
	text, nest, kids := "", 0, e.Kids
	for _, c := range form[2:] {
		switch {
		case c == 'N':
			text += strconv.FormatInt(e.N, 10)
		case c == 'M':
			text += e.Mon
		case c == 'V':
			text += e.Name
		case c == '_':
			text += " "
		case '1' <= c && c <= '6':
			inner, n := plainExpr(kids[0], int(c-'0'))
			text, nest, kids = text+inner, max(nest, n), kids[1:]
		default:
			text += string(c)
		}
	}
	if len(e.Kids) == 1 {
		nest++
	}
	if int(form[0]-'0') < level {
		return "(" + text + ")", nest + 1
	}
	return text, nest
}

func plainAlone(e api.Expr) string {
	s, _ := plainExpr(e, 1)
	return s
}

// flatStmts is a block on one line.
func flatStmts(list []api.Stmt) string {
	out := "{ "
	for _, s := range list {
		var blocks []string
		for _, b := range s.Blocks {
			blocks = append(blocks, flatStmts(b))
		}
		switch s.Kind {
		case api.StSkip:
			out += "skip;"
		case api.StSet:
			out += s.Mon + "." + s.Name + " = " + plainAlone(s.E) + ";"
		case api.StIf:
			out += "if " + plainAlone(s.E) + " " + strings.Join(blocks, " else ")
		case api.StWhile:
			out += "while " + plainAlone(s.E) + " " + blocks[0]
		case api.StLoop:
			out += "loop " + blocks[0]
		case api.StChoose:
			out += "choose " + strings.Join(blocks, " or ")
		case api.StSync:
			out += "sync " + s.Mon + " " + blocks[0]
		case api.StCall:
			out += "call " + s.Mon + "." + s.Name + ";"
		case api.StWait:
			out += "wait " + s.Mon + strings.TrimSuffix(" "+strconv.FormatInt(s.N, 10), " 0") + ";"
		case api.StNotify:
			out += "notify " + s.Mon + ";"
		case api.StAll:
			out += "notifyall " + s.Mon + ";"
		}
		out += " "
	}
	return out + "}"
}

func flatVar(v api.Var) string {
	n := func(x int64) string { return strconv.FormatInt(x, 10) }
	kind := map[int]string{api.TyBool: "bool", api.TyInt: "int", api.TyRange: n(v.Lo) + ".." + n(v.Hi)}[v.Type]
	first := n(v.Init)
	if v.Type == api.TyBool {
		first = strconv.FormatBool(v.Init == 1)
	}
	return "var " + v.Name + " : " + kind + " = " + first + ";"
}

// plainText is a program's text.
func plainText(p api.Program) string {
	var out []string
	for _, m := range p.Mons {
		flat := "monitor " + m.Name + " { "
		for _, v := range m.Vars {
			flat += flatVar(v) + " "
		}
		for _, f := range m.Methods {
			flat += "method " + f.Name + " " + flatStmts(f.Body) + " "
		}
		out = append(out, flat+"}")
	}
	for _, r := range p.Roles {
		count := strconv.FormatInt(r.Count, 10)
		if r.Star {
			count = "*"
		}
		out = append(out, "thread "+r.Name+" "+count+" "+flatStmts(r.Body))
	}
	return laidOut(strings.Join(out, " "))
}

// laidOut breaks a text behind each { and ; and }, unless an else or an or follows, and moves each line in as far as it is inside.
func laidOut(flat string) string {
	out := ""
	words := strings.Fields(flat)
	open, first := 0, true
	for i, w := range words {
		if w == "}" {
			open--
		}
		if first {
			out += strings.Repeat("  ", open)
		} else {
			out += " "
		}
		out += w
		if w == "{" {
			open++
		}
		joins := w == "}" && i+1 < len(words) && (words[i+1] == "else" || words[i+1] == "or")
		first = !joins && (w == "{" || w == "}" || strings.HasSuffix(w, ";"))
		if first {
			out += "\n"
		}
	}
	return out
}

// reader comes back from a text to its tree, and counts what is open. It is for texts that are right: others end in a panic, or in another tree.
type reader struct {
	tokens []api.Token
	open   int
	most   int
}

func newReader(text string) *reader {
	tokens, _, _ := lex.Scan(text)
	return &reader{tokens: tokens}
}

func (r *reader) at(text string) bool { return r.tokens[0].Text == text }

func (r *reader) next() api.Token {
	t := r.tokens[0]
	r.tokens = r.tokens[1:]
	return t
}

func (r *reader) skip(texts ...string) {
	for _, text := range texts {
		if got := r.next(); got.Text != text {
			panic("want " + text + ", got " + got.Text)
		}
	}
}

func (r *reader) inside(read func()) {
	r.open++
	r.most = max(r.most, r.open)
	read()
	r.open--
}

func (r *reader) opOf(ops map[string]int) int { return ops[r.tokens[0].Text] }

// chain reads operands with signs between them, the first ones innermost.
func (r *reader) chain(ops map[string]int, operand func() api.Expr) api.Expr {
	e := operand()
	for r.opOf(ops) != 0 {
		op := r.opOf(ops)
		r.next()
		e = of(op, e, operand())
	}
	return e
}

func (r *reader) expr() api.Expr { return r.chain(map[string]int{"||": api.OpOr}, r.conj) }
func (r *reader) conj() api.Expr { return r.chain(map[string]int{"&&": api.OpAnd}, r.neg) }

func (r *reader) neg() (e api.Expr) {
	if !r.at("!") {
		return r.rel()
	}
	r.next()
	r.inside(func() { e = of(api.OpNot, r.neg()) })
	return e
}

func (r *reader) rel() api.Expr {
	e := r.sum()
	op := r.opOf(map[string]int{"==": api.OpEq, "!=": api.OpNe, "<": api.OpLt, "<=": api.OpLe, ">": api.OpGt, ">=": api.OpGe})
	if op == 0 {
		return e
	}
	r.next()
	return of(op, e, r.sum())
}

func (r *reader) sum() api.Expr {
	return r.chain(map[string]int{"+": api.OpAdd, "-": api.OpSub}, r.term)
}

func (r *reader) term() (e api.Expr) {
	t := r.next()
	switch {
	case t.Text == "true":
		return of(api.OpTrue)
	case t.Text == "false":
		return of(api.OpFalse)
	case t.Text == "-":
		r.inside(func() { e = of(api.OpNeg, r.term()) })
		return e
	case t.Text == "(":
		r.inside(func() { e = r.expr() })
		r.skip(")")
		return e
	case t.Kind == api.TkNum && r.at("*"):
		r.next()
		r.inside(func() { e = times(t.N, r.term()) })
		return e
	case t.Kind == api.TkNum:
		return number(t.N)
	}
	r.skip(".")
	return variable(t.Text, r.next().Text)
}

func (r *reader) whole() int64 {
	if r.at("-") {
		r.next()
		return -r.next().N
	}
	return r.next().N
}

func (r *reader) blocks(word string) (list [][]api.Stmt) {
	for {
		r.skip("{")
		var block []api.Stmt
		r.inside(func() {
			for !r.at("}") {
				block = append(block, r.stmt())
			}
		})
		r.skip("}")
		list = append(list, block)
		if !r.at(word) {
			return list
		}
		r.next()
	}
}

func (r *reader) stmt() api.Stmt {
	kinds := map[string]int{"skip": api.StSkip, "if": api.StIf, "while": api.StWhile, "loop": api.StLoop, "choose": api.StChoose, "sync": api.StSync, "call": api.StCall, "wait": api.StWait, "notify": api.StNotify, "notifyall": api.StAll}
	s := api.Stmt{Kind: r.opOf(kinds)}
	if s.Kind != 0 {
		r.next()
	}
	switch s.Kind {
	case 0:
		s.Kind, s.Mon = api.StSet, r.next().Text
		r.skip(".")
		s.Name = r.next().Text
		r.skip("=")
		s.E = r.expr()
	case api.StIf, api.StWhile:
		s.E = r.expr()
		s.Blocks = r.blocks("else")
		return s
	case api.StLoop:
		s.Blocks = r.blocks("?")
		return s
	case api.StChoose:
		s.Blocks = r.blocks("or")
		return s
	case api.StSync:
		s.Mon = r.next().Text
		s.Blocks = r.blocks("?")
		return s
	case api.StCall:
		s.Mon = r.next().Text
		r.skip(".")
		s.Name = r.next().Text
	case api.StWait:
		s.Mon = r.next().Text
		if !r.at(";") {
			s.N = r.next().N
		}
	case api.StNotify, api.StAll:
		s.Mon = r.next().Text
	}
	r.skip(";")
	return s
}

func (r *reader) variable() api.Var {
	v := api.Var{Name: r.next().Text}
	r.skip(":")
	switch {
	case r.at("bool"):
		r.skip("bool", "=")
		v.Type = api.TyBool
		if r.next().Text == "true" {
			v.Init = 1
		}
	case r.at("int"):
		r.skip("int", "=")
		v.Type, v.Init = api.TyInt, r.whole()
	default:
		v.Type, v.Lo = api.TyRange, r.whole()
		r.skip("..")
		v.Hi = r.whole()
		r.skip("=")
		v.Init = r.whole()
	}
	r.skip(";")
	return v
}

func (r *reader) monitor() api.Monitor {
	m := api.Monitor{Name: r.next().Text}
	r.skip("{")
	r.inside(func() {
		for r.at("var") {
			r.next()
			m.Vars = append(m.Vars, r.variable())
		}
		for r.at("method") {
			r.next()
			m.Methods = append(m.Methods, api.Method{Name: r.next().Text, Body: r.blocks("?")[0]})
		}
	})
	r.skip("}")
	return m
}

func (r *reader) program() api.Program {
	p := api.Program{}
	for r.tokens[0].Kind != api.TkEnd {
		if r.next().Text == "monitor" {
			p.Mons = append(p.Mons, r.monitor())
			continue
		}
		role := api.Role{Name: r.next().Text}
		count := r.next()
		role.Star, role.Count = count.Text == "*", count.N
		role.Body = r.blocks("?")[0]
		p.Roles = append(p.Roles, role)
	}
	return p
}
