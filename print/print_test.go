package print_test

import (
	"reflect"
	"strings"
	"testing"

	"vigil/api"
	"vigil/print"
	"vigil/tree"
)

func wantExpr(t *testing.T, e api.Expr, text string, nest int) {
	t.Helper()
	got, err := print.Expr(e)
	if got != text || err != api.OK {
		t.Errorf("%.80q, %d; want %.80q", got, err, text)
	}
	if n := print.NestExpr(e); n != nest {
		t.Errorf("%.80q: nest %d, want %d", text, n, nest)
	}
}

func wantText(t *testing.T, p api.Program, text string, nest int) {
	t.Helper()
	got, err := print.Text(p)
	if got != text || err != api.OK {
		t.Errorf("error %d, text:\n%.600s\nwant:\n%.600s", err, got, text)
	}
	if n := print.Nest(p); n != nest {
		t.Errorf("nest %d, want %d, of\n%.600s", n, nest, text)
	}
}

// wantNone: an error of an expression, alone and in a program, and no text beside it.
func wantNone(t *testing.T, what string, e api.Expr, want api.Errno) {
	t.Helper()
	if s, err := print.Expr(e); s != "" || err != want {
		t.Errorf("%s: %.80q, %d; want error %d", what, s, err, want)
	}
	for _, p := range []api.Program{role(set(e)), method(around(set(e))[2])} {
		wantNoText(t, what, p, want)
	}
}

func wantNoText(t *testing.T, what string, p api.Program, want api.Errno) {
	t.Helper()
	if s, err := print.Text(p); s != "" || err != want {
		t.Errorf("%s: %.80q, %d; want error %d", what, s, err, want)
	}
}

var x, y, z = variable("a", "x"), variable("a", "y"), variable("b", "z")

// TestExprTexts: P3.1 and P3.2, texts and nests.
func TestExprTexts(t *testing.T) {
	for _, c := range []struct {
		e    api.Expr
		text string
		nest int
	}{
		{number(0), "0", 0},
		{number(10), "10", 0},
		{number(most), "9223372036854775807", 0},
		{of(api.OpTrue), "true", 0},
		{of(api.OpFalse), "false", 0},
		{z, "b.z", 0},
		{of(api.OpNot, x), "!a.x", 1},
		{of(api.OpNot, of(api.OpNot, x)), "!!a.x", 2},
		{of(api.OpNeg, x), "-a.x", 1},
		{of(api.OpNeg, number(3)), "-3", 1},
		{of(api.OpNeg, of(api.OpNeg, number(0))), "--0", 2},
		{times(2, of(api.OpNeg, x)), "2 * -a.x", 2},
		{times(0, times(12, number(3))), "0 * 12 * 3", 2},
		{of(api.OpNeg, times(2, x)), "-2 * a.x", 2},
		{times(2, of(api.OpAdd, x, y)), "2 * (a.x + a.y)", 2},
		{of(api.OpNeg, of(api.OpSub, x, y)), "-(a.x - a.y)", 2},
		{of(api.OpNeg, of(api.OpNot, x)), "-(!a.x)", 3},
		{times(1, of(api.OpNot, of(api.OpEq, x, y))), "1 * (!a.x == a.y)", 3},
		{of(api.OpNot, of(api.OpEq, x, y)), "!a.x == a.y", 1},
		{of(api.OpEq, of(api.OpNot, x), y), "(!a.x) == a.y", 2},
		{of(api.OpNot, of(api.OpAnd, x, y)), "!(a.x && a.y)", 2},
		{of(api.OpAdd, x, of(api.OpAdd, y, z)), "a.x + (a.y + b.z)", 1},
		{of(api.OpAdd, of(api.OpAdd, x, y), z), "a.x + a.y + b.z", 0},
		{of(api.OpSub, of(api.OpSub, x, y), of(api.OpSub, x, of(api.OpNeg, y))), "a.x - a.y - (a.x - -a.y)", 2},
		{of(api.OpSub, number(1), of(api.OpNeg, number(1))), "1 - -1", 1},
		{of(api.OpLt, of(api.OpAdd, x, y), of(api.OpSub, x, y)), "a.x + a.y < a.x - a.y", 0},
		{of(api.OpEq, of(api.OpEq, x, y), of(api.OpNe, x, y)), "(a.x == a.y) == (a.x != a.y)", 1},
		{of(api.OpAnd, of(api.OpAnd, x, y), of(api.OpAnd, y, z)), "a.x && a.y && (a.y && b.z)", 1},
		{of(api.OpAnd, of(api.OpOr, x, y), of(api.OpNot, z)), "(a.x || a.y) && !b.z", 1},
		{of(api.OpOr, of(api.OpOr, x, y), of(api.OpOr, y, z)), "a.x || a.y || (a.y || b.z)", 1},
		{of(api.OpOr, of(api.OpAnd, x, y), of(api.OpAnd, y, z)), "a.x && a.y || a.y && b.z", 0},
		{of(api.OpOr, of(api.OpGe, x, y), of(api.OpLe, number(1), y)), "a.x >= a.y || 1 <= a.y", 0},
		{of(api.OpAdd, of(api.OpGt, x, y), of(api.OpOr, x, y)), "(a.x > a.y) + (a.x || a.y)", 1},
		{of(api.OpSub, times(2, number(3)), times(4, of(api.OpTrue))), "2 * 3 - 4 * true", 1},
	} {
		wantExpr(t, c.e, c.text, c.nest)
	}
}

// TestAllExprs: P3.1 and P3.2 of each Op with kids of each Op, which have kids of each Op, against the texts made by other means; and P3.4: no two have one text, and each is read back.
func TestAllExprs(t *testing.T) {
	one := exprs()
	var two []api.Expr
	for op := api.OpNum; op <= api.OpOr; op++ {
		for _, a := range one {
			for _, b := range one {
				two = append(two, with(op, a, b))
			}
		}
	}
	texts := map[string]api.Expr{}
	check := func(e api.Expr) {
		t.Helper()
		checkExpr(t, e)
		s, _ := print.Expr(e)
		if other, ok := texts[s]; ok && !tree.SameExpr(e, other) {
			t.Fatalf("%q is the text of two", s)
		}
		texts[s] = e
	}
	for _, e := range two {
		check(e)
		for op := api.OpNot; op <= api.OpOr; op++ {
			check(with(op, e, x))
			check(with(op, y, e))
		}
	}
}

// checkExpr holds an expression's text and nest against those made by other means, and reads it back.
func checkExpr(t *testing.T, e api.Expr) {
	t.Helper()
	text, nest := plainExpr(e, 1)
	if s, err := print.Expr(e); s != text || err != api.OK || print.NestExpr(e) != nest {
		t.Fatalf("%q, %d, nest %d; want %q, nest %d", s, err, print.NestExpr(e), text, nest)
	}
	r := newReader(text)
	if back := r.expr(); !tree.SameExpr(e, back) || len(r.tokens) != 1 || r.most != nest {
		t.Fatalf("%q is read otherwise, with %d open", text, r.most)
	}
}

// TestSomeExprs: the same of deeper ones.
func TestSomeExprs(t *testing.T) {
	c := newChance(1)
	for range 20000 {
		checkExpr(t, c.expr(6))
	}
}

// TestTextOrdinary: P3.3, each kind of line.
func TestTextOrdinary(t *testing.T) {
	wantText(t, api.Program{}, "", 0)
	wantText(t, api.Program{Mons: []api.Monitor{{Name: "m"}}}, "monitor m {\n}\n", 1)
	wantText(t, api.Program{Roles: []api.Role{{Name: "r"}}}, "thread r 0 {\n}\n", 1)
	wantText(t, api.Program{Roles: []api.Role{{Name: "r", Star: true}}}, "thread r * {\n}\n", 1)
	wantText(t, api.Program{Roles: []api.Role{{Name: "r", Count: most}, {Name: "r", Count: 12}}}, "thread r 9223372036854775807 {\n}\nthread r 12 {\n}\n", 1)
	wantText(t, method(), "monitor m {\n  method f {\n  }\n}\n", 2)
	wantText(t, api.Program{
		Mons: []api.Monitor{
			{Name: "a", Vars: []api.Var{
				{Name: "b", Type: api.TyBool},
				{Name: "c", Type: api.TyBool, Init: 1},
				{Name: "d", Type: api.TyInt},
				{Name: "e", Type: api.TyInt, Init: 1},
				{Name: "f", Type: api.TyInt, Init: -most},
				{Name: "g", Type: api.TyRange},
				{Name: "h", Type: api.TyRange, Lo: -7, Hi: -2, Init: -5},
				{Name: "i", Type: api.TyRange, Lo: -most, Hi: most, Init: most},
				{Name: "j", Type: api.TyRange, Lo: 1, Hi: 3}, // a first value that its range has not is no matter of texts
			}, Methods: []api.Method{
				{Name: "get", Body: []api.Stmt{{Kind: api.StWait, Mon: "a"}, {Kind: api.StWait, Mon: "a", N: most}}},
				{Name: "put", Body: []api.Stmt{{Kind: api.StNotify, Mon: "a"}, {Kind: api.StAll, Mon: "a"}}},
			}},
			{Name: "n"},
		},
		Roles: []api.Role{
			{Name: "one", Count: 1, Body: []api.Stmt{
				{Kind: api.StSkip},
				{Kind: api.StSet, Mon: "a", Name: "d", E: of(api.OpOr, of(api.OpAdd, x, y), z)},
				{Kind: api.StCall, Mon: "a", Name: "put"},
			}},
			{Name: "any", Star: true, Body: []api.Stmt{{Kind: api.StSync, Mon: "n", Blocks: [][]api.Stmt{{{Kind: api.StSkip}}}}}},
		},
	}, `monitor a {
  var b : bool = false;
  var c : bool = true;
  var d : int = 0;
  var e : int = 1;
  var f : int = -9223372036854775807;
  var g : 0..0 = 0;
  var h : -7..-2 = -5;
  var i : -9223372036854775807..9223372036854775807 = 9223372036854775807;
  var j : 1..3 = 0;
  method get {
    wait a;
    wait a 9223372036854775807;
  }
  method put {
    notify a;
    notifyall a;
  }
}
monitor n {
}
thread one 1 {
  skip;
  a.d = a.x + a.y || b.z;
  call a.put;
}
thread any * {
  sync n {
    skip;
  }
}
`, 2)
}

// TestTextBlocks: P3.3, what has blocks: if with an else and without, choose with one branch and more, empty ones.
func TestTextBlocks(t *testing.T) {
	skip := []api.Stmt{{Kind: api.StSkip}}
	wantText(t, role(
		api.Stmt{Kind: api.StIf, E: x, Blocks: [][]api.Stmt{skip}},
		api.Stmt{Kind: api.StIf, E: x, Blocks: [][]api.Stmt{nil, nil}},
		api.Stmt{Kind: api.StIf, E: x, Blocks: [][]api.Stmt{nil, skip}},
		api.Stmt{Kind: api.StWhile, E: of(api.OpNot, x), Blocks: [][]api.Stmt{{
			{Kind: api.StLoop, Blocks: [][]api.Stmt{nil}},
			{Kind: api.StChoose, Blocks: [][]api.Stmt{skip}},
			{Kind: api.StChoose, Blocks: [][]api.Stmt{nil, skip, around(skip...)}},
		}}},
	), `thread r 1 {
  if a.x {
    skip;
  }
  if a.x {
  } else {
  }
  if a.x {
  } else {
    skip;
  }
  while !a.x {
    loop {
    }
    choose {
      skip;
    }
    choose {
    } or {
      skip;
    } or {
      if true {
        skip;
      }
      if true {
      } else {
        skip;
      }
      while true {
        skip;
      }
      loop {
        skip;
      }
      choose {
        skip;
      }
      choose {
      } or {
      } or {
        skip;
      }
      sync m {
        skip;
      }
    }
  }
}
`, 4)
}

// checkText holds a program's text and nest against those made by other means, and reads it back (P3.4).
func checkText(t *testing.T, p api.Program) {
	t.Helper()
	text := plainText(p)
	if len(text) > api.MaxText {
		wantNoText(t, "a long one", p, api.ErrLong)
		return
	}
	s, err := print.Text(p)
	if s != text || err != api.OK {
		t.Fatalf("error %d, text:\n%.600s\nwant:\n%.600s", err, s, text)
	}
	r := newReader(text)
	if back := r.program(); !tree.Same(p, back) || r.most != print.Nest(p) {
		t.Fatalf("nest %d, read back %d open, of\n%.600s", print.Nest(p), r.most, text)
	}
}

// TestSomeTexts: P3.3 and P3.4, of many programs.
func TestSomeTexts(t *testing.T) {
	checkText(t, program())
	for _, s := range stmts() {
		checkText(t, role(s))
		checkText(t, method(s, s))
	}
	c := newChance(2)
	for range 6000 {
		checkText(t, c.program())
	}
}

// TestNestProgram: P3.3, the nest of braces and of what is in them.
func TestNestProgram(t *testing.T) {
	deep := of(api.OpNot, of(api.OpNeg, of(api.OpOr, x, y))) // !-(a.x || a.y)
	for _, c := range []struct {
		what string
		p    api.Program
		nest int
	}{
		{"a variable", api.Program{Mons: []api.Monitor{{Name: "m", Vars: []api.Var{{Name: "v", Type: api.TyInt, Init: -1}}}}}, 1},
		{"a statement", role(api.Stmt{Kind: api.StSkip}), 1},
		{"an expression", role(set(x)), 1},
		{"a deep expression", role(set(deep)), 4},
		{"a deep expression ahead", role(set(deep), set(x)), 4},
		{"a deep expression behind", role(set(x), set(deep)), 4},
		{"of a method", method(set(deep)), 5},
		{"of an if, as deep as its block", role(api.Stmt{Kind: api.StIf, E: of(api.OpNot, x), Blocks: [][]api.Stmt{nil}}), 2},
		{"of an if, deeper than its block", role(api.Stmt{Kind: api.StIf, E: deep, Blocks: [][]api.Stmt{{set(x)}, nil}}), 4},
		{"of a while, less deep than its block", method(api.Stmt{Kind: api.StWhile, E: of(api.OpNot, x), Blocks: [][]api.Stmt{{set(deep)}}}), 6},
		{"of the first branch", role(api.Stmt{Kind: api.StChoose, Blocks: [][]api.Stmt{{set(deep)}, nil, {set(x)}}}), 5},
		{"of the last branch", role(api.Stmt{Kind: api.StChoose, Blocks: [][]api.Stmt{{set(x)}, nil, {set(deep)}}}), 5},
		{"of the first role", api.Program{Roles: []api.Role{{Name: "a", Body: around()}, {Name: "b"}}}, 2},
		{"of the last method", api.Program{Mons: []api.Monitor{{Name: "a", Methods: []api.Method{{Name: "f"}, {Name: "g", Body: around()}}}, {Name: "b"}}, Roles: []api.Role{{Name: "r"}}}, 3},
	} {
		if got := print.Nest(c.p); got != c.nest {
			t.Errorf("%s: %d, want %d", c.what, got, c.nest)
		}
	}
}

// deeper has, of each way in which an expression nests, one that is so many levels deep.
func deeper(n int) map[string]api.Expr {
	out := map[string]api.Expr{"!": x, "-": x, "*": x, "(": of(api.OpAdd, x, y), "-*": x}
	for i := range n {
		out["!"] = of(api.OpNot, out["!"])
		out["-"] = of(api.OpNeg, out["-"])
		out["*"] = times(2, out["*"])
		out["("] = of(api.OpAdd, x, out["("])
		if i%2 == 0 {
			out["-*"] = of(api.OpNeg, out["-*"])
		} else {
			out["-*"] = times(9, out["-*"])
		}
	}
	return out
}

// TestDeepExpr: P3.2, MaxDepth levels and one more.
func TestDeepExpr(t *testing.T) {
	if api.MaxDepth != 64 || api.ErrDeep != 41 {
		t.Fatal("limits")
	}
	for n := range api.MaxDepth + 1 {
		for _, e := range deeper(n) {
			text, _ := plainExpr(e, 1)
			wantExpr(t, e, text, n)
		}
	}
	for _, n := range []int{api.MaxDepth + 1, api.MaxDepth + 2, 1000} {
		for way, e := range deeper(n) {
			if s, err := print.Expr(e); s != "" || err != api.ErrDeep || print.NestExpr(e) != n {
				t.Errorf("%d levels of %s: %.80q, %d, nest %d", n, way, s, err, print.NestExpr(e))
			}
		}
	}
}

// TestDeepText: P3.3, the same of braces, and of expressions in braces.
func TestDeepText(t *testing.T) {
	for kind := range around() {
		var body []api.Stmt
		for n := 1; n <= api.MaxDepth+10; n++ { // n of them are open in a role, n + 1 in a method
			for open, p := range map[int]api.Program{n: role(body...), n + 1: method(body...)} {
				if print.Nest(p) != open {
					t.Fatalf("%d open: nest %d", open, print.Nest(p))
				}
				if open > api.MaxDepth {
					wantNoText(t, "open", p, api.ErrDeep)
				} else {
					checkText(t, p)
				}
			}
			body = []api.Stmt{around(body...)[kind]}
		}
	}
	for n := range api.MaxDepth + 10 {
		for way, e := range deeper(n) {
			for _, s := range []api.Stmt{set(e), {Kind: api.StIf, E: e, Blocks: [][]api.Stmt{nil, nil}}, {Kind: api.StWhile, E: e, Blocks: [][]api.Stmt{nil}}} {
				p := role(around(s)[3])
				nest := n + 2
				if s.Kind != api.StSet {
					nest = max(nest, 3)
				}
				if print.Nest(p) != nest {
					t.Fatalf("%d of %s: nest %d", n, way, print.Nest(p))
				}
				if nest > api.MaxDepth {
					wantNoText(t, way, p, api.ErrDeep)
				} else {
					checkText(t, p)
				}
			}
		}
	}
}

// sized is an expression whose text has so many bytes (from 3 on).
func sized(n int) api.Expr {
	e := variable("a", "v"+strings.Repeat("v", (n-3)%6))
	for range (n - 3) / 6 {
		e = of(api.OpAdd, e, x)
	}
	return e
}

// filled is a program whose text has so many bytes (from 15 on).
func filled(n int) api.Program {
	p := role()
	p.Roles[0].Name += strings.Repeat("r", (n-15)%8)
	for range (n - 15) / 8 {
		p.Roles[0].Body = append(p.Roles[0].Body, api.Stmt{Kind: api.StSkip})
	}
	return p
}

// TestLong: P3.2 and P3.3, MaxText bytes and one more.
func TestLong(t *testing.T) {
	if api.MaxText != 20000 || api.ErrLong != 1 {
		t.Fatal("limits")
	}
	for n := api.MaxText - 8; n <= api.MaxText+8; n++ {
		s, err := print.Expr(sized(n))
		u, wrong := print.Text(filled(n))
		if n > api.MaxText {
			if s != "" || err != api.ErrLong || u != "" || wrong != api.ErrLong {
				t.Errorf("%d bytes: %d and %d of them, errors %d and %d", n, len(s), len(u), err, wrong)
			}
		} else if len(s) != n || err != api.OK || s != plainAlone(sized(n)) || len(u) != n || wrong != api.OK || u != plainText(filled(n)) {
			t.Errorf("%d bytes: %d and %d of them, errors %d and %d", n, len(s), len(u), err, wrong)
		}
	}
	frame := len("thread r 1 {\n  m.x = ;\n}\n")
	for over, want := range []api.Errno{api.OK, api.ErrLong} {
		if s, err := print.Text(role(set(sized(api.MaxText - frame + over)))); err != want || (len(s) != 0) != (want == api.OK) {
			t.Errorf("an expression in a program: %d bytes, error %d", len(s), err)
		}
	}
	// What is too long by its last piece alone.
	for _, e := range []api.Expr{of(api.OpAdd, sized(api.MaxText-5), x), of(api.OpSub, sized(api.MaxText-6), of(api.OpNeg, x)), of(api.OpAdd, sized(api.MaxText-11), of(api.OpAdd, x, number(1)))} {
		if s, err := print.Expr(e); s != "" || err != api.ErrLong {
			t.Errorf("%d bytes, error %d, want %d", len(s), err, api.ErrLong)
		}
	}
}

// TestLongDeclarations: P3.3, as much as can be declared, without a statement: too long with long names, and with shorter ones not.
func TestLongDeclarations(t *testing.T) {
	for _, length := range []int{api.MaxName, 30} {
		wantNoText(t, "long names", declared(strings.Repeat("n", length)), api.ErrLong)
	}
	for _, length := range []int{29, 1} {
		p := declared(strings.Repeat("n", length))
		wantText(t, p, plainText(p), 2)
	}
}

// declared has as many monitors, variables, methods and roles as there may be, all of that name, and the longest numbers.
func declared(name string) api.Program {
	p := api.Program{}
	for range api.MaxMons {
		m := api.Monitor{Name: name}
		for range api.MaxVars {
			m.Vars = append(m.Vars, api.Var{Name: name, Type: api.TyRange, Lo: -most, Hi: most, Init: -most})
		}
		for range api.MaxMeths {
			m.Methods = append(m.Methods, api.Method{Name: name})
		}
		p.Mons = append(p.Mons, m)
	}
	for range api.MaxRoles {
		p.Roles = append(p.Roles, api.Role{Name: name, Count: most})
	}
	return p
}

// TestShape: P3.2 and P3.3, what is of no shape.
func TestShape(t *testing.T) {
	for _, e := range []api.Expr{{}, {Op: -1}, {Op: 18}, {Op: most}, number(-1), times(-1, x), variable("a", "if"), variable("", "x"), of(api.OpNot), of(api.OpNot, x, y), of(api.OpAdd, x), of(api.OpOr, x, y, z), of(api.OpTrue, x), {Op: api.OpVar, Mon: "a", Name: "x", N: 1}} {
		for _, bad := range []api.Expr{e, of(api.OpNot, e), of(api.OpAdd, e, x), of(api.OpAdd, x, e)} {
			wantNone(t, "no shape", bad, api.ErrShape)
			if print.NestExpr(bad) != 0 || print.Nest(role(set(bad))) != 0 {
				t.Errorf("%+v has a nest", bad)
			}
		}
	}
	nine := make([]api.Monitor, api.MaxMons+1)
	for i := range nine {
		nine[i].Name = "m"
	}
	for what, p := range map[string]api.Program{
		"monitors":    {Mons: nine},
		"a name":      {Mons: []api.Monitor{{Name: "if"}}},
		"a type":      {Mons: []api.Monitor{{Name: "m", Vars: []api.Var{{Name: "x"}}}}},
		"a bool":      {Mons: []api.Monitor{{Name: "m", Vars: []api.Var{{Name: "x", Type: api.TyBool, Init: 2}}}}},
		"a range":     {Mons: []api.Monitor{{Name: "m", Vars: []api.Var{{Name: "x", Type: api.TyRange, Lo: 1}}}}},
		"a number":    {Mons: []api.Monitor{{Name: "m", Vars: []api.Var{{Name: "x", Type: api.TyInt, Init: -most - 1}}}}},
		"a star":      {Roles: []api.Role{{Name: "r", Star: true, Count: 1}}},
		"a count":     {Roles: []api.Role{{Name: "r", Count: -1}}},
		"a kind":      role(api.Stmt{}),
		"no block":    role(api.Stmt{Kind: api.StLoop}),
		"two blocks":  role(api.Stmt{Kind: api.StLoop, Blocks: [][]api.Stmt{nil, nil}}),
		"a wait":      role(api.Stmt{Kind: api.StWait, Mon: "m", N: -1}),
		"deep inside": method(around(around(api.Stmt{Kind: api.StSkip, N: 1})...)...),
	} {
		wantNoText(t, what, p, api.ErrShape)
		if print.Nest(p) != 0 {
			t.Errorf("%s: nest %d", what, print.Nest(p))
		}
	}
}

// TestFirstError: P3.2 and P3.3, where several errors apply.
func TestFirstError(t *testing.T) {
	deep := deeper(api.MaxDepth + 1)["!"]
	long := sized(api.MaxText + 1)
	wantNone(t, "deep", deep, api.ErrDeep)
	wantNone(t, "long", long, api.ErrLong)
	wantNone(t, "long and deep", of(api.OpAnd, long, deep), api.ErrDeep)
	wantNone(t, "deep and long", of(api.OpAnd, deep, long), api.ErrDeep)
	wantNone(t, "deep, long, and of no shape", of(api.OpAnd, of(api.OpAnd, deep, long), api.Expr{}), api.ErrShape)
	wantNone(t, "of no shape and long", of(api.OpAnd, number(-1), long), api.ErrShape)
	wantNone(t, "of no shape and deep", of(api.OpAnd, deep, number(-1)), api.ErrShape)
	wantNoText(t, "long, then deep", role(set(long), set(deep)), api.ErrDeep)
	wantNoText(t, "long, deep, then of no shape", role(set(long), set(deep), api.Stmt{}), api.ErrShape)
	if s, err := print.Expr(of(api.OpAnd, long, x)); s != "" || err != api.ErrLong {
		t.Error(len(s), err)
	}
}

// TestOneText: P3.4: a program of which any one field is another one has another text, or none; places alone change nothing.
func TestOneText(t *testing.T) {
	p, q := program(), program()
	text, err := print.Text(p)
	if err != api.OK {
		t.Fatal(err)
	}
	texts := map[string]api.Program{text: p}
	places, others, tried := 0, 0, 0
	eachField(reflect.ValueOf(&q).Elem(), "", func(where string, f reflect.Value) {
		before := reflect.New(f.Type()).Elem()
		before.Set(f)
		for i := range 20 {
			change(f, before, i)
			tried++
			s, err := print.Text(q)
			switch {
			case strings.HasSuffix(where, ".At"):
				places++
				if s != text || err != api.OK {
					t.Fatalf("%s: another place, another text", where)
				}
			case err == api.OK:
				if same := tree.Same(texts[s], q); !same && len(texts[s].Mons) != 0 {
					t.Fatalf("%s: two programs with one text", where)
				}
				if !tree.Same(p, q) {
					others++
				}
				texts[s] = copied(q)
			case err != api.ErrShape || s != "":
				t.Fatalf("%s: error %d, %d bytes", where, err, len(s))
			}
		}
		f.Set(before)
	})
	if places < 1000 || others < 1000 || others < len(texts)-1 {
		t.Error(places, others, tried, len(texts))
	}
}

// change makes of a field the i-th other thing that it may be.
func change(f, before reflect.Value, i int) {
	switch f.Kind() {
	case reflect.String:
		f.SetString([]string{"q", "m", "x", "b", "put", "get", "if", "Z9_", before.String() + "x", ""}[i%10])
	case reflect.Bool:
		f.SetBool(i%2 == 0)
	default:
		f.SetInt(int64(i - 2))
	}
}

// eachField calls do for every number, text and bool in v, at any depth, with where it is.
func eachField(v reflect.Value, where string, do func(where string, field reflect.Value)) {
	switch v.Kind() {
	case reflect.Struct:
		for i := range v.NumField() {
			eachField(v.Field(i), where+"."+v.Type().Field(i).Name, do)
		}
	case reflect.Slice:
		for i := range v.Len() {
			eachField(v.Index(i), where, do)
		}
	default:
		do(where, v)
	}
}

// copied is what v is, in memory of its own; lists are copied with their spare room.
func copied[T any](v T) T {
	return copyOf(reflect.ValueOf(v)).Interface().(T)
}

func copyOf(v reflect.Value) reflect.Value {
	out := reflect.New(v.Type()).Elem()
	switch v.Kind() {
	case reflect.Struct:
		for i := range v.NumField() {
			out.Field(i).Set(copyOf(v.Field(i)))
		}
	case reflect.Slice:
		if v.IsNil() {
			return out
		}
		all := v.Slice(0, v.Cap())
		list := reflect.MakeSlice(v.Type(), v.Cap(), v.Cap())
		for i := range v.Cap() {
			list.Index(i).Set(copyOf(all.Index(i)))
		}
		out.Set(list.Slice(0, v.Len()))
	default:
		out.Set(v)
	}
	return out
}

// roomy is v with spare room in every list that is not empty, and an empty list in the place of none.
func roomy(v reflect.Value) reflect.Value {
	out := reflect.New(v.Type()).Elem()
	switch v.Kind() {
	case reflect.Struct:
		for i := range v.NumField() {
			out.Field(i).Set(roomy(v.Field(i)))
		}
	case reflect.Slice:
		list := reflect.MakeSlice(v.Type(), v.Len(), v.Len()+2)
		for i := range v.Len() {
			list.Index(i).Set(roomy(v.Index(i)))
		}
		out.Set(list)
	default:
		out.Set(v)
	}
	return out
}

// bare is v without spare room, so that what stood there is laid open.
func bare(v reflect.Value) reflect.Value {
	out := reflect.New(v.Type()).Elem()
	switch v.Kind() {
	case reflect.Struct:
		for i := range v.NumField() {
			out.Field(i).Set(bare(v.Field(i)))
		}
	case reflect.Slice:
		all := v.Slice(0, v.Cap())
		list := reflect.MakeSlice(v.Type(), v.Cap(), v.Cap())
		for i := range v.Cap() {
			list.Index(i).Set(bare(all.Index(i)))
		}
		out.Set(list)
	default:
		out.Set(v)
	}
	return out
}

// TestLeavesAlone: what is handed in is not changed, its spare room neither; an empty list is like none.
func TestLeavesAlone(t *testing.T) {
	p := roomy(reflect.ValueOf(program())).Interface().(api.Program)
	before := copied(p)
	text, err := print.Text(p)
	if err != api.OK || text != plainText(program()) || print.Nest(p) != print.Nest(program()) {
		t.Error(err, "with empty lists in the place of none")
	}
	for _, s := range p.Mons[0].Methods[0].Body {
		if s.E.Op != 0 {
			print.Expr(s.E)
			print.NestExpr(s.E)
		}
	}
	same := reflect.DeepEqual(bare(reflect.ValueOf(p)).Interface(), bare(reflect.ValueOf(before)).Interface())
	if !same {
		t.Error("changed")
	}
	if again, err := print.Text(p); again != text || err != api.OK {
		t.Error("another text the second time")
	}
}

// TestVeryDeep: as many parts within one another as there may be: no panic, and no time that grows beyond their number.
func TestVeryDeep(t *testing.T) {
	const parts = 1 << 16
	for way, e := range deeper(parts) {
		if s, err := print.Expr(e); s != "" || err != api.ErrDeep || print.NestExpr(e) != parts {
			t.Errorf("%s: %d bytes, error %d, nest %d", way, len(s), err, print.NestExpr(e))
		}
	}
	for op := api.OpAdd; op <= api.OpOr; op++ {
		e := x
		for range parts {
			e = of(op, e, y)
		}
		want, nest := api.ErrLong, 0
		if op >= api.OpEq && op <= api.OpGe { // of these the first kid has parentheses
			want, nest = api.ErrDeep, parts-1
		}
		if s, err := print.Expr(e); s != "" || err != want || print.NestExpr(e) != nest {
			t.Errorf("op %d: %d bytes, error %d, nest %d", op, len(s), err, print.NestExpr(e))
		}
	}
	for kind := range around() {
		var body []api.Stmt
		for range parts {
			body = []api.Stmt{around(body...)[kind]}
		}
		wantNoText(t, "very deep", role(body...), api.ErrDeep)
		if n := print.Nest(role(body...)); n != parts+1 {
			t.Error(n)
		}
	}
}

// TestVeryLong: a text that would have millions of bytes.
func TestVeryLong(t *testing.T) {
	body := []api.Stmt{{Kind: api.StSkip}, {Kind: api.StWait, Mon: "m"}}
	for range 6 {
		body = []api.Stmt{{Kind: api.StChoose, Blocks: [][]api.Stmt{body, body, body, body, body, body, body}}}
	}
	wantNoText(t, "choices", role(body...), api.ErrLong)
	e := x
	for range 16 {
		e = of(api.OpAnd, e, of(api.OpNot, e))
	}
	wantNone(t, "an expression", e, api.ErrLong)
}
