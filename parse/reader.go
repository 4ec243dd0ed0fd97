package parse

import (
	"vigil/api"
	"vigil/lex"
)

// reader goes over a text's tokens. Its first error sticks: from then on it stands at the end, where nothing begins, so that whoever reads on comes back soon, and nobody has to ask.
type reader struct {
	tokens []api.Token
	next   int
	open   int // how many levels are open within one another
	err    api.Errno
	at     int
}

func newReader(s string) *reader {
	tokens, err, at := lex.Scan(s)
	if err != api.OK {
		tokens = []api.Token{{Kind: api.TkEnd}}
	}
	return &reader{tokens: tokens, err: err, at: at}
}

// fail tells an error and its place, unless there is one already.
func (r *reader) fail(err api.Errno, at int) {
	if r.err != api.OK {
		return
	}
	r.err, r.at = err, at
	r.next = len(r.tokens) - 1
}

// refuse tells an error at the next token.
func (r *reader) refuse(err api.Errno) { r.fail(err, r.token().At) }

// token is the next one.
func (r *reader) token() api.Token { return r.tokens[r.next] }

// sees tells whether the next token is that word or sign: names, numbers and the end have other texts than these.
func (r *reader) sees(text string) bool { return r.token().Text == text }

// pass goes on behind the next token, but never beyond the end.
func (r *reader) pass() {
	if r.token().Kind != api.TkEnd {
		r.next++
	}
}

// want passes over a word or a sign that must be there.
func (r *reader) want(text string) {
	if !r.sees(text) {
		r.refuse(api.ErrSyntax)
	}
	r.pass()
}

// take is the next token, which must be of that kind.
func (r *reader) take(kind int) api.Token {
	t := r.token()
	if t.Kind != kind {
		r.refuse(api.ErrSyntax)
		return api.Token{}
	}
	r.pass()
	return t
}

func (r *reader) name() string { return r.take(api.TkName).Text }

func (r *reader) number() int64 { return r.take(api.TkNum).N }

// declared is a name and its place.
func (r *reader) declared() (string, int) {
	t := r.take(api.TkName)
	return t.Text, t.At
}

// path is two names with a point between them.
func (r *reader) path() (string, string) {
	mon := r.name()
	r.want(".")
	return mon, r.name()
}

// within reads what is one level deeper, behind the sign that opens it.
func within[T any](r *reader, sign string, read func() T) T {
	if r.sees(sign) && r.open == api.MaxDepth {
		r.refuse(api.ErrDeep)
	}
	r.want(sign)
	r.open++
	x := read()
	r.open--
	return x
}

// enclosed reads what stands between a sign and its counterpart.
func enclosed[T any](r *reader, first string, read func() T, last string) T {
	x := within(r, first, read)
	r.want(last)
	return x
}

// oneMore reads one more for a list, behind the next token, a word; with that word begins one too many, if the list is full.
func oneMore[T any](r *reader, list []T, most int, read func() T) []T {
	if len(list) >= most {
		r.refuse(api.ErrMany)
	}
	r.pass()
	return append(list, read())
}

// several reads more for a list, as long as there is that word ahead of one.
func several[T any](r *reader, list []T, word string, most int, read func() T) []T {
	for r.sees(word) {
		list = oneMore(r, list, most, read)
	}
	return list
}
