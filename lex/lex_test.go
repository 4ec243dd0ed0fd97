package lex_test

import (
	"slices"
	"strings"
	"testing"

	"vigil/api"
	"vigil/lex"
)

// words are those of P1.1, in its order.
const words = "monitor var method thread bool int true false skip if else while loop choose or sync call wait notify notifyall"

// TestWord: P1.1.
func TestWord(t *testing.T) {
	all := strings.Fields(words)
	if len(all) != 20 {
		t.Fatal(len(all))
	}
	for _, w := range all {
		if !lex.Word(w) {
			t.Errorf("%q is a word", w)
		}
		for _, s := range []string{w + "s", w + "1", w + "_", w + " ", " " + w, w + "\n", strings.ToUpper(w), strings.ToUpper(w[:1]) + w[1:], w[1:] + w[:1]} {
			if lex.Word(s) {
				t.Errorf("%q is no word", s)
			}
		}
	}
	for _, s := range []string{"", " ", "a", "o", "i", "notif", "all", "end", "name", "num", "star", "not", "and", "for", "range", "true false", "\x00", "="} {
		if lex.Word(s) {
			t.Errorf("%q is no word", s)
		}
	}
}

// TestName: P1.2.
func TestName(t *testing.T) {
	for _, s := range []string{"a", "z", "A", "Z", "a_", "a__b", "x9", "B0_9z", "If", "iff", "loop_", "monitors", "notifyal", "TRUE", strings.Repeat("n", api.MaxName), "Z" + strings.Repeat("_", api.MaxName-1)} {
		if !lex.Name(s) {
			t.Errorf("%q is a name", s)
		}
	}
	for _, s := range []string{"", " ", "_", "_a", "0", "9a", "a b", "a ", " a", "a\n", "a.b", "a-b", "a#", "é", "aé", "a\x00", "\x00", "a\xff", "@", "[", "`", "{", strings.Repeat("n", api.MaxName+1), strings.Repeat("n", api.MaxText+1)} {
		if lex.Name(s) {
			t.Errorf("%q is no name", s)
		}
	}
	for _, w := range strings.Fields(words) {
		if lex.Name(w) {
			t.Errorf("%q is a word, and no name", w)
		}
	}
}

// TestNameBytes: P1.2, of each byte as the first one and as a later one.
func TestNameBytes(t *testing.T) {
	const letters = "abcdefghijklmnopqrstuvwxyzABCDEFGHIJKLMNOPQRSTUVWXYZ"
	for i := range 256 {
		c := string([]byte{byte(i)})
		if got, want := lex.Name(c), strings.Contains(letters, c); got != want {
			t.Errorf("Name(%q) = %v", c, got)
		}
		for _, s := range []string{"q" + c, "q" + c + "q"} {
			if got, want := lex.Name(s), strings.Contains(letters+"0123456789_", c); got != want {
				t.Errorf("Name(%q) = %v", s, got)
			}
		}
	}
}

// tokens makes a list of a kind and a text each; where they stand is found from the front, in order.
func tokens(s string, l ...api.Token) []api.Token {
	at := 0
	for i := range l {
		at += strings.Index(s[at:], l[i].Text)
		l[i].At = at
		at += len(l[i].Text)
	}
	return append(l, api.Token{Kind: api.TkEnd, At: len(s)})
}

func name(s string) api.Token { return api.Token{Kind: api.TkName, Text: s} }
func word(s string) api.Token { return api.Token{Kind: api.TkWord, Text: s} }
func sign(s string) api.Token { return api.Token{Kind: api.TkSign, Text: s} }
func number(s string, n int64) api.Token {
	return api.Token{Kind: api.TkNum, Text: s, N: n}
}

func wantTokens(t *testing.T, s string, want []api.Token) {
	t.Helper()
	got, err, at := lex.Scan(s)
	if err != api.OK || at != 0 || !slices.Equal(got, want) {
		t.Errorf("Scan(%.60q) = %v, %d, %d; wanted %v", s, got, err, at, want)
	}
}

func wantError(t *testing.T, s string, want api.Errno, place int) {
	t.Helper()
	got, err, at := lex.Scan(s)
	if err != want || at != place || len(got) != 0 {
		t.Errorf("Scan(%.60q) = %v, %d, %d; wanted %d, %d", s, got, err, at, want, place)
	}
}

// TestScanExamples: P1.3, as the document has it, with the places written out.
func TestScanExamples(t *testing.T) {
	wantTokens(t, "a.b=7;", []api.Token{
		{Kind: api.TkName, Text: "a", At: 0},
		{Kind: api.TkSign, Text: ".", At: 1},
		{Kind: api.TkName, Text: "b", At: 2},
		{Kind: api.TkSign, Text: "=", At: 3},
		{Kind: api.TkNum, Text: "7", N: 7, At: 4},
		{Kind: api.TkSign, Text: ";", At: 5},
		{Kind: api.TkEnd, At: 6},
	})
	wantError(t, "x & y", api.ErrByte, 2)
	wantError(t, "007", api.ErrNum, 0)
}

// TestScanProgram: P1.3, of a text with all that there is.
func TestScanProgram(t *testing.T) {
	s := "monitor m {\n\tvar n : -2..10 = 0; # a note\r\n}\nthread T9 * { while !(m.n <= 3) { wait m 5; } }"
	wantTokens(t, s, tokens(s,
		word("monitor"), name("m"), sign("{"),
		word("var"), name("n"), sign(":"), sign("-"), number("2", 2), sign(".."), number("10", 10), sign("="), number("0", 0), sign(";"),
		sign("}"),
		word("thread"), name("T9"), sign("*"), sign("{"),
		word("while"), sign("!"), sign("("), name("m"), sign("."), name("n"), sign("<="), number("3", 3), sign(")"), sign("{"),
		word("wait"), name("m"), number("5", 5), sign(";"), sign("}"), sign("}"),
	))
}

// TestScanEmpty: P1.3, of texts in which no token begins.
func TestScanEmpty(t *testing.T) {
	for _, s := range []string{"", " ", "\t\r\n ", "#", "# a note", "#\n", "## $ & 007\n#", " #\x00\xff\r\n\n"} {
		wantTokens(t, s, []api.Token{{Kind: api.TkEnd, At: len(s)}})
	}
}

// TestScanWords: P1.3, words and names, each as long as it can be.
func TestScanWords(t *testing.T) {
	for _, w := range strings.Fields(words) {
		wantTokens(t, w, tokens(w, word(w)))
		for _, s := range []string{w + "x", w + "_", w + "0", strings.ToUpper(w)} {
			wantTokens(t, s, tokens(s, name(s)))
		}
		s := w + " " + w + ";" + w
		wantTokens(t, s, tokens(s, word(w), word(w), sign(";"), word(w)))
	}
	s := "a_B9.c__"
	wantTokens(t, s, tokens(s, name("a_B9"), sign("."), name("c__")))
	wantError(t, "_a", api.ErrByte, 0)
	wantError(t, "a _", api.ErrByte, 2)
}

// TestScanLongNames: P1.3, names of MaxName bytes and of one more.
func TestScanLongNames(t *testing.T) {
	for _, c := range []string{"n", "Z", "a_", "q7", "notifyall", "if"} {
		long := strings.Repeat(c, api.MaxName+1)
		s := ";" + long[:api.MaxName] + ";"
		wantTokens(t, s, tokens(s, sign(";"), name(long[:api.MaxName]), sign(";")))
		wantError(t, long[:api.MaxName+1], api.ErrName, 0)
		wantError(t, "ab  "+long[:api.MaxName+1]+" $", api.ErrName, 4)
	}
	wantError(t, strings.Repeat("n", api.MaxText), api.ErrName, 0)
}

// TestScanNumbers: P1.3, numbers and their values.
func TestScanNumbers(t *testing.T) {
	for _, c := range []struct {
		s string
		n int64
	}{{"0", 0}, {"1", 1}, {"9", 9}, {"10", 10}, {"90", 90}, {"1234567890", 1234567890}, {"9223372036854775806", 1<<63 - 2}, {"9223372036854775807", 1<<63 - 1}} {
		wantTokens(t, c.s, tokens(c.s, number(c.s, c.n)))
		s := "-" + c.s + ".." + c.s + "x_" + " " + c.s
		wantTokens(t, s, tokens(s, sign("-"), number(c.s, c.n), sign(".."), number(c.s, c.n), name("x_"), number(c.s, c.n)))
	}
	for _, s := range []string{"00", "01", "007", "0123456789", "09223372036854775807", "9223372036854775808", "9223372036854775810", "9223372036854775817", "10000000000000000000", "18446744073709551615", "18446744073709551616", "18446744073709551617", "99999999999999999999", strings.Repeat("9", 5000), strings.Repeat("0", api.MaxText-4)} {
		wantError(t, s, api.ErrNum, 0)
		wantError(t, "a=\n-"+s, api.ErrNum, 4)
	}
	wantTokens(t, "0 0", tokens("0 0", number("0", 0), number("0", 0)))
	wantTokens(t, "0x1", tokens("0x1", number("0", 0), name("x1")))
	wantError(t, "1_0", api.ErrByte, 1)
}

// TestScanSigns: P1.3, signs, the longer ones first.
func TestScanSigns(t *testing.T) {
	for _, c := range strings.Fields(".. == != <= >= && || { } ( ) ; : = < > + - * ! .") {
		wantTokens(t, c, tokens(c, sign(c)))
		s := "a" + c + "b"
		wantTokens(t, s, tokens(s, name("a"), sign(c), name("b")))
	}
	for _, c := range []struct{ s, apart string }{
		{"===", "== ="}, {"====", "== =="}, {"=!=", "= !="}, {"!==", "!= ="}, {"!!=", "! !="}, {"!!", "! !"},
		{"<==", "<= ="}, {"<<=", "< <="}, {">==", ">= ="}, {"<>", "< >"}, {"=<", "= <"}, {"=>", "= >"},
		{"...", ".. ."}, {"....", ".. .."}, {".=", ". ="}, {"=.", "= ."}, {"!.", "! ."}, {"..=", ".. ="},
		{"&&&&", "&& &&"}, {"||&&", "|| &&"}, {"++", "+ +"}, {"--", "- -"}, {"**", "* *"}, {"::", ": :"},
		{"{}();:", "{ } ( ) ; :"}, {"+=", "+ ="}, {"*=", "* ="}, {":=", ": ="},
	} {
		var want []api.Token
		for _, f := range strings.Fields(c.apart) {
			want = append(want, sign(f))
		}
		wantTokens(t, c.s, tokens(c.s, want...))
	}
}

// TestScanSingles: P1.3, a single & or | is no sign, wherever it stands.
func TestScanSingles(t *testing.T) {
	for _, c := range []string{"&", "|"} {
		wantError(t, c, api.ErrByte, 0)
		wantError(t, c+" "+c, api.ErrByte, 0)
		wantError(t, c+"="+c, api.ErrByte, 0)
		wantError(t, c+c+c, api.ErrByte, 2)
		wantError(t, "a.x "+c+" a.y", api.ErrByte, 4)
	}
	wantError(t, "&|", api.ErrByte, 0)
	wantError(t, "|&", api.ErrByte, 0)
	wantError(t, "&&|", api.ErrByte, 2)
}

// TestScanBytes: P1.3, of each byte alone: a blank, a note, a token's first byte, or ErrByte.
func TestScanBytes(t *testing.T) {
	for i := range 256 {
		c := string([]byte{byte(i)})
		s := " " + c
		switch {
		case strings.Contains(" \t\r\n#", c):
			wantTokens(t, s, tokens(s))
		case strings.Contains("{}();:=<>+-*!.", c):
			wantTokens(t, s, tokens(s, sign(c)))
		case i >= '0' && i <= '9':
			wantTokens(t, s, tokens(s, number(c, int64(i-'0'))))
		case i >= 'a' && i <= 'z' || i >= 'A' && i <= 'Z':
			wantTokens(t, s, tokens(s, name(c)))
		default:
			wantError(t, s, api.ErrByte, 1)
		}
	}
}

// TestScanNotes: P1.3, a note lasts up to the next line feed, or to the end, and hides all in it.
func TestScanNotes(t *testing.T) {
	for _, s := range []string{"a#\nb", "a#b\nb", "a # $ & 007\n\tb # the last one", "a##\r#\n#\nb#", "a#" + strings.Repeat("n", 40) + "\n b"} {
		l, err, _ := lex.Scan(s)
		if err != api.OK || lex.Join(l...) != "a b " || l[2].At != len(s) {
			t.Errorf("Scan(%q) = %v, %d", s, l, err)
		}
	}
	wantTokens(t, "=#\n=", []api.Token{{Kind: api.TkSign, Text: "=", At: 0}, {Kind: api.TkSign, Text: "=", At: 3}, {Kind: api.TkEnd, At: 4}})
	wantTokens(t, "7# 8\r9", []api.Token{{Kind: api.TkNum, Text: "7", N: 7}, {Kind: api.TkEnd, At: 6}})
	wantError(t, "# $\n$", api.ErrByte, 4)
}

// TestScanLong: P1.3, texts of MaxText bytes and of one more; that they are too long comes ahead of all else.
func TestScanLong(t *testing.T) {
	for _, c := range []string{" ", ";", "#", "\n"} {
		if l, err, at := lex.Scan(strings.Repeat(c, api.MaxText)); err != api.OK || at != 0 || l[len(l)-1] != (api.Token{Kind: api.TkEnd, At: api.MaxText}) {
			t.Errorf("%q: %d, %d", c, err, at)
		}
		wantError(t, strings.Repeat(c, api.MaxText+1), api.ErrLong, api.MaxText)
	}
	if l, _, _ := lex.Scan(strings.Repeat(";", api.MaxText)); len(l) != api.MaxText+1 || l[api.MaxText-1] != (api.Token{Kind: api.TkSign, Text: ";", At: api.MaxText - 1}) {
		t.Error(len(l))
	}
	wantError(t, strings.Repeat(" ", api.MaxText-1)+"$", api.ErrByte, api.MaxText-1)
	wantError(t, "$"+strings.Repeat(" ", api.MaxText), api.ErrLong, api.MaxText)
	wantError(t, strings.Repeat("0", api.MaxText+1), api.ErrLong, api.MaxText)
	wantError(t, strings.Repeat("n", 5*api.MaxText), api.ErrLong, api.MaxText)
}

// TestScanFirstError: P1.3, of several errors the first one from the front.
func TestScanFirstError(t *testing.T) {
	long := strings.Repeat("n", api.MaxName+1)
	wantError(t, "$ 007 "+long, api.ErrByte, 0)
	wantError(t, "007 $ "+long, api.ErrNum, 0)
	wantError(t, long+" 007 $", api.ErrName, 0)
	wantError(t, "; 007"+long+"$", api.ErrNum, 2)
	wantError(t, "a.b = 1 &"+long, api.ErrByte, 8)
	wantError(t, "1"+long, api.ErrName, 1)
	wantError(t, long+"$", api.ErrName, 0)
}

// TestJoin: P1.4.
func TestJoin(t *testing.T) {
	end := api.Token{Kind: api.TkEnd, At: 3}
	for _, c := range []struct {
		l    []api.Token
		want string
	}{
		{nil, ""},
		{[]api.Token{}, ""},
		{[]api.Token{end}, ""},
		{[]api.Token{name("a")}, "a"},
		{[]api.Token{name("a"), end}, "a "},
		{[]api.Token{end, end, end}, "  "},
		{[]api.Token{name("a"), sign("."), name("b"), sign("="), number("7", 7), sign(";")}, "a . b = 7 ;"},
		{[]api.Token{{Kind: 99, Text: "any text", N: -1, At: -5}, {Text: " "}, {Text: "#\n"}}, "any text   #\n"},
	} {
		if got := lex.Join(c.l...); got != c.want {
			t.Errorf("Join(%v) = %q; wanted %q", c.l, got, c.want)
		}
	}
	if got := lex.Join(); got != "" {
		t.Errorf("Join() = %q", got)
	}
	if got := lex.Join(word("if"), sign("!")); got != "if !" {
		t.Errorf("%q", got)
	}
}

// TestPure: what is handed in stays as it is, its spare room too; what is answered stays as it was.
func TestPure(t *testing.T) {
	l := []api.Token{name("a"), sign("."), name("b"), name("spare")}
	if lex.Join(l[:2]...) != "a ." || !slices.Equal(l, []api.Token{name("a"), sign("."), name("b"), name("spare")}) {
		t.Error(l)
	}
	first, _, _ := lex.Scan("a.b=7;")
	kept := slices.Clone(first)
	again, _, _ := lex.Scan("a.b=7;")
	for i := range again {
		again[i] = api.Token{}
	}
	lex.Scan("monitor m { }")
	if !slices.Equal(first, kept) {
		t.Error(first, kept)
	}
}
