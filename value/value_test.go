package value_test

import (
	"fmt"
	"slices"
	"testing"

	"vigil/api"
	"vigil/value"
)

// TestNumbers: the errors' numbers that the chapter tells.
func TestNumbers(t *testing.T) {
	if api.ErrFault != 110 || api.ErrArg != 2 || api.ErrUnknown != 61 || api.ErrType != 70 || api.ErrShape != 20 {
		t.Error("other numbers")
	}
}

// TestFirst: P11.1.
func TestFirst(t *testing.T) {
	for s, want := range map[string][]int64{
		"":                         nil,
		"monitor a { }":            nil,
		"thread t 1 { skip; }":     nil,
		declares:                   {4, 1, 1, -7, 0},
		declares + "monitor z { }": {4, 1, 1, -7, 0},
		"monitor a { var x : int = 3; var x : bool = false; } monitor a { var x : -5..-2 = -4; }":                          {3, 0, -4},
		"monitor a { var x : int = 9223372036854775807; var y : int = -9223372036854775807; method f { } } thread t * { }": {most, -most},
	} {
		if got := value.First(parsed(t, s)); !slices.Equal(got, want) {
			t.Errorf("%q: %d, want %d", s, got, want)
		}
	}
	// Of what is no program, too: the Init, whatever it is.
	p := api.Program{Mons: []api.Monitor{{Vars: []api.Var{{Init: 9}, {Type: api.TyBool, Init: -3}, {Type: api.TyRange, Lo: 2, Hi: 1, Init: least}}}, {}, {Vars: []api.Var{{Type: 77, Init: most}}}}}
	if got := value.First(p); !slices.Equal(got, []int64{9, -3, least, most}) {
		t.Errorf("%d", got)
	}
}

// TestEvalOrdinary: P11.2, of a.n 4, a.b true, a.r 1, c.x -7, c.b false.
func TestEvalOrdinary(t *testing.T) {
	vals := []int64{4, 1, 1, -7, 0}
	for s, want := range map[string]int64{
		"0": 0, "7": 7, "9223372036854775807": most, "true": 1, "false": 0, "a.n": 4, "a.b": 1, "a.r": 1, "c.x": -7, "c.b": 0,
		"!true": 0, "!false": 1, "!a.b": 0, "!c.b": 1, "!!a.b": 1, "-3": -3, "-c.x": 7, "--a.n": 4, "-0": 0, "3 * a.n": 12, "3 * c.x": -21, "0 * c.x": 0, "2 * 3 * -c.x": 42,
		"a.n + c.x": -3, "c.x + a.n": -3, "a.n - c.x": 11, "c.x - a.n": -11, "1 - 2 - 3": -4, "1 - (2 - 3)": 2, "2 * a.n - a.r": 7,
		"a.n == 4": 1, "a.n == 5": 0, "a.n != 4": 0, "a.n != 5": 1, "a.b == c.b": 0, "a.b != c.b": 1, "a.b == true": 1, "c.b == false": 1, "(a.n < 5) == a.b": 1,
		"c.x < a.n": 1, "a.n < c.x": 0, "a.n < 4": 0, "a.n <= 4": 1, "a.n <= 3": 0, "a.n > 4": 0, "a.n > 3": 1, "a.n >= 4": 1, "a.n >= 5": 0, "c.x >= a.n": 0, "c.x <= -7": 1,
		"a.b && a.b": 1, "a.b && c.b": 0, "c.b && a.b": 0, "c.b && c.b": 0, "a.b || a.b": 1, "a.b || c.b": 1, "c.b || a.b": 1, "c.b || c.b": 0,
		"a.b && a.n > 1 || c.x > 0": 1, "c.x > 0 || a.n > 1 && c.b": 0, "!(a.b && c.b)": 1,
	} {
		wantText(t, s, vals, want, api.OK)
	}
	wantEval(t, "without variables", api.Program{}, parsedExpr(t, "1 + 2 == 3"), nil, 1, api.OK)
	wantEval(t, "an empty list", api.Program{}, parsedExpr(t, "1 + 2"), []int64{}, 3, api.OK)
}

// TestEvalBounds: P11.2: ErrFault where 64 bits are not enough, and only there.
func TestEvalBounds(t *testing.T) {
	for _, c := range []struct {
		s    string
		x    int64
		want int64
		err  api.Errno
	}{
		{"a.n + 1", most, 0, api.ErrFault}, {"a.n + 1", most - 1, most, api.OK}, {"1 + a.n", most, 0, api.ErrFault}, {"a.n + -1", least, 0, api.ErrFault},
		{"a.n - 1", least, 0, api.ErrFault}, {"a.n - 1", least + 1, least, api.OK}, {"0 - a.n", least, 0, api.ErrFault}, {"-1 - a.n", least, most, api.OK}, {"-1 - a.n", most, least, api.OK}, {"-2 - a.n", most, 0, api.ErrFault},
		{"-a.n", least, 0, api.ErrFault}, {"-a.n", most, -most, api.OK}, {"--a.n", least, 0, api.ErrFault}, {"-(a.n + 1)", least, most, api.OK},
		{"2 * a.n", 1 << 62, 0, api.ErrFault}, {"2 * a.n", -1 << 62, least, api.OK}, {"2 * a.n", 1<<62 - 1, most - 1, api.OK}, {"1 * a.n", least, least, api.OK}, {"0 * a.n", least, 0, api.OK},
		{"9223372036854775807 * a.n", -1, -most, api.OK}, {"9223372036854775807 * a.n", 2, 0, api.ErrFault}, {"9223372036854775807 * a.n", 0, 0, api.OK},
		// What comes back within the bounds has been beyond them.
		{"a.n + 1 - 1", most, 0, api.ErrFault}, {"a.n + (1 - 1)", most, most, api.OK}, {"0 * (a.n + 1)", most, 0, api.ErrFault}, {"a.n + 1 == a.n + 1", most, 0, api.ErrFault},
		{"a.n + 1 > a.n", most, 0, api.ErrFault}, {"a.n > a.n - 1", least, 0, api.ErrFault}, {"!(a.n + 1 > 0)", most, 0, api.ErrFault}, {"(a.n + 1 > 0) == false", most, 0, api.ErrFault}, {"false != (a.n + 1 > 0)", most, 0, api.ErrFault},
		// Values of 64 bits are told as they are.
		{"a.n", least, least, api.OK}, {"a.n", most, most, api.OK}, {"a.n < 0", least, 1, api.OK}, {"a.n <= c.x", least, 1, api.OK}, {"a.n > c.x", most, 1, api.OK}, {"a.n == -9223372036854775807 - 1", least, 1, api.OK},
	} {
		wantText(t, c.s, []int64{c.x, 1, 1, -7, 0}, c.want, c.err)
	}
}

// TestEvalPerhaps: P11.2: the second kid of an and, or of an or, is reckoned just where the first one leaves it open.
func TestEvalPerhaps(t *testing.T) {
	vals := []int64{most, 1, 1, -7, 0}
	fault := "a.n + 1 > 0"
	for s, want := range map[string]int64{
		"false && " + fault: 0, "c.b && " + fault: 0, "true || " + fault: 1, "a.b || " + fault: 1,
		"(false && " + fault + ") || a.b": 1, "!(false && " + fault + ")": 1, "(true || " + fault + ") && a.b": 1,
		"false && (" + fault + " || true)": 0, "true || (" + fault + " && true)": 1, "false && " + fault + " && " + fault: 0, "true || " + fault + " || " + fault: 1,
		"a.n == 0 && 2 * a.n > 0": 0, "a.n != 0 || 2 * a.n > 0": 1,
		"(false && " + fault + ") == (false && " + fault + ")": 1,
	} {
		wantText(t, s, vals, want, api.OK)
	}
	for _, s := range []string{
		"true && " + fault, "a.b && " + fault, "false || " + fault, "c.b || " + fault,
		fault + " && false", fault + " || true", "(" + fault + " && false) || true", "(false && " + fault + ") || " + fault, "(true || " + fault + ") && " + fault,
		"a.b && c.b || " + fault, "false == (" + fault + ")", "true != (" + fault + ")",
	} {
		wantText(t, s, vals, 0, api.ErrFault)
	}
}

// TestEvalOps: P11.2, of every Op that joins two numbers, at every two of the edges, against the second reckoning.
func TestEvalOps(t *testing.T) {
	p := parsed(t, "monitor a { var x : int = 0; var y : int = 0; }")
	x, y := variable("a", "x"), variable("a", "y")
	for _, a := range edges() {
		for _, b := range edges() {
			vals := []int64{a, b}
			for op := api.OpAdd; op <= api.OpGe; op++ {
				e := two(op, x, y)
				n, err := reckoned(p, e, vals)
				wantEval(t, fmt.Sprintf("Op %d", op), p, e, vals, n, err)
			}
			if a >= 0 {
				e := api.Expr{Op: api.OpMul, N: a, Kids: []api.Expr{y}}
				n, err := reckoned(p, e, vals)
				wantEval(t, fmt.Sprint(a, " times"), p, e, vals, n, err)
			}
		}
		n, err := reckoned(p, one(api.OpNeg, x), []int64{a, 0})
		wantEval(t, "the other sign", p, one(api.OpNeg, x), []int64{a, 0}, n, err)
	}
}

// TestEvalErrors: P11.2: types.Type's error comes ahead of ErrArg, and ErrArg ahead of ErrFault.
func TestEvalErrors(t *testing.T) {
	p := parsed(t, declares)
	full := []int64{most, 1, 1, -7, 0}
	for n := range 9 {
		vals := append(slices.Clone(full), 1, 2, 3, 4)[:n]
		for s, err := range map[string]api.Errno{
			"a.y": api.ErrUnknown, "e.n": api.ErrUnknown, "t.n": api.ErrUnknown, "A.n": api.ErrUnknown, "a.x": api.ErrUnknown, "false && a.y": api.ErrUnknown, "1 && a.y": api.ErrUnknown,
			"1 && true": api.ErrType, "false && 1": api.ErrType, "true || a.n": api.ErrType, "!1": api.ErrType, "-true": api.ErrType, "a.b + 1": api.ErrType, "a.b < c.b": api.ErrType, "a.n == a.b": api.ErrType,
		} {
			wantText(t, s, vals, 0, err)
		}
		for _, e := range []api.Expr{
			{}, {Op: 18}, {Op: -1}, {Op: api.OpNum, N: -1}, {Op: api.OpNot}, {Op: api.OpAnd, Kids: []api.Expr{leaf(api.OpFalse)}}, two(api.OpAnd, leaf(api.OpFalse), api.Expr{}),
			two(api.OpOr, variable("a", "y"), api.Expr{Op: api.OpNeg}), {Op: api.OpTrue, N: 1}, {Op: api.OpVar, Mon: "a"}, {Op: api.OpMul, N: -1, Kids: []api.Expr{number(1)}},
		} {
			wantEval(t, fmt.Sprintf("%+v", e), p, e, vals, 0, api.ErrShape)
		}
		for _, s := range []string{"a.n", "1", "true", "false && a.b", "a.n + 1", "9223372036854775807 + 1"} {
			if n != len(full) {
				wantText(t, s, vals, 0, api.ErrArg)
			}
		}
	}
	wantText(t, "a.n + 1", full, 0, api.ErrFault)
	wantEval(t, "no variables, one value", api.Program{}, number(1), []int64{0}, 0, api.ErrArg)
	wantEval(t, "no values", p, number(1), nil, 0, api.ErrArg)
}

// TestEvalAsTheyAre: P11.2: a variable comes to its value, also to one that it may not have; all else by the chapter's words.
func TestEvalAsTheyAre(t *testing.T) {
	for _, b := range []int64{least, -1, 2, 5, most} {
		vals := []int64{0, b, b, 0, 0}
		for s, want := range map[string]int64{
			"a.b": b, "a.r": b, "!a.b": 0, "!!a.b": 1, "a.b == true": 0, "a.b != true": 1, "a.b == a.b": 1, "a.b == false": 0,
			"a.b && true": 1, "true && a.b": b, "a.b && c.b": 0, "c.b && a.b": 0, "a.b || c.b": 1, "c.b || a.b": b, "a.b || a.b": 1, "a.b && a.b": b,
		} {
			wantText(t, s, vals, want, api.OK)
		}
	}
	wantText(t, "a.r > 100", []int64{0, 0, 101, 0, 0}, 1, api.OK)
	// Of what is no program, too: a variable of no type is a bool (P7.1).
	p := api.Program{Mons: []api.Monitor{{Name: "if"}, {Name: "a", Vars: []api.Var{{Name: "x", Type: 9}, {Name: "y", Type: api.TyRange, Lo: 5, Hi: 4}}}}}
	wantEval(t, "no type", p, one(api.OpNot, variable("a", "x")), []int64{7, 3}, 0, api.OK)
	wantEval(t, "a range of nothing", p, one(api.OpNeg, variable("a", "y")), []int64{7, 3}, -3, api.OK)
}

// TestEvalNames: P11.2: which variable it is, of names that are there several times.
func TestEvalNames(t *testing.T) {
	p := parsed(t, `monitor e { } monitor a { var x : int = 0; var y : bool = true; var x : int = 0; } monitor b { var x : int = 0; }
monitor a { var x : int = 0; var z : int = 0; }`)
	vals := []int64{10, 1, 30, 40, 50, 60}
	wantEval(t, "a.x", p, variable("a", "x"), vals, 10, api.OK)
	wantEval(t, "b.x", p, variable("b", "x"), vals, 40, api.OK)
	wantEval(t, "a.z", p, variable("a", "z"), vals, 0, api.ErrUnknown)
	wantSet(t, p, api.Ref{Mon: "a", Name: "x"}, 7, vals, []int64{7, 1, 30, 40, 50, 60}, api.OK)
	wantSet(t, p, api.Ref{Mon: "b", Name: "x"}, 7, vals, []int64{10, 1, 30, 7, 50, 60}, api.OK)
	wantSet(t, p, api.Ref{Mon: "a", Name: "z"}, 7, vals, nil, api.ErrUnknown)
}

// TestEvalDeep: P11.2, of what is nested as deeply as may be, on either side.
func TestEvalDeep(t *testing.T) {
	p := parsed(t, declares)
	vals := []int64{4, 1, 1, -7, 0}
	sum, difference, minus := variable("a", "n"), variable("a", "n"), variable("a", "n")
	and, or, not := variable("a", "b"), variable("c", "b"), variable("a", "b")
	for range deep {
		sum = two(api.OpAdd, sum, number(1))
		difference = two(api.OpSub, number(1), difference)
		minus = one(api.OpNeg, minus)
		and = two(api.OpAnd, leaf(api.OpTrue), and)
		or = two(api.OpOr, or, variable("c", "b"))
		not = one(api.OpNot, not)
	}
	wantEval(t, "sum", p, sum, vals, 4+deep, api.OK)
	wantEval(t, "difference", p, difference, vals, 4, api.OK)
	wantEval(t, "minus", p, minus, vals, 4, api.OK)
	wantEval(t, "and", p, and, vals, 1, api.OK)
	wantEval(t, "or", p, or, vals, 0, api.OK)
	wantEval(t, "not", p, not, vals, 1, api.OK)
	wantEval(t, "sum beyond", p, sum, []int64{most - deep + 1, 1, 1, -7, 0}, 0, api.ErrFault)
	wantEval(t, "sum at the bound", p, sum, []int64{most - deep, 1, 1, -7, 0}, most, api.OK)
}

// TestTrue: P11.3: of numbers, too; of no error.
func TestTrue(t *testing.T) {
	p := parsed(t, declares)
	vals := []int64{most, 1, 1, -7, 0}
	for s, want := range map[string]bool{
		"true": true, "false": false, "a.b": true, "c.b": false, "0": false, "1": true, "c.x": true, "a.n": true, "a.r - 1": false, "-3": true,
		"a.n + 1 > 0": false, "!(a.n + 1 > 0)": false, "a.n + 1": false, "true || a.n + 1 > 0": true, "a.y": false, "!a.y": false, "1 && true": false,
	} {
		if got := value.True(p, parsedExpr(t, s), vals); got != want {
			t.Errorf("%s: %t, want %t", s, got, want)
		}
	}
	if value.True(p, leaf(api.OpTrue), nil) || value.True(p, leaf(api.OpTrue), vals[:4]) || value.True(p, api.Expr{}, vals) {
		t.Error("true of what is an error")
	}
}

// TestSet: P11.4, of every type at its bounds.
func TestSet(t *testing.T) {
	p := parsed(t, declares)
	vals := []int64{4, 1, 1, -7, 0}
	type bounds struct {
		ref    api.Ref
		lo, hi int64
	}
	for slot, b := range []bounds{
		{api.Ref{Mon: "a", Name: "n"}, least, most}, {api.Ref{Mon: "a", Name: "b"}, 0, 1}, {api.Ref{Mon: "a", Name: "r"}, -2, 3},
		{api.Ref{Mon: "c", Name: "x"}, least, most}, {api.Ref{Mon: "c", Name: "b"}, 0, 1},
	} {
		for _, n := range append(edges(), 3, 4, -3, -4, 5) {
			if n < b.lo || n > b.hi {
				wantSet(t, p, b.ref, n, vals, nil, api.ErrFault)
				continue
			}
			want := slices.Clone(vals)
			want[slot] = n
			wantSet(t, p, b.ref, n, vals, want, api.OK)
		}
	}
	// What the others are is not asked.
	wantSet(t, p, api.Ref{Mon: "a", Name: "r"}, 0, []int64{least, 9, 77, most, -9}, []int64{least, 9, 0, most, -9}, api.OK)
}

// TestSetErrors: P11.4: ErrUnknown ahead of ErrArg, ErrArg ahead of ErrFault.
func TestSetErrors(t *testing.T) {
	p := parsed(t, declares+"monitor z { method n { } } thread t 1 { }")
	full := []int64{4, 1, 1, -7, 0, 8, 9}
	for n := range len(full) + 1 {
		for _, ref := range []api.Ref{{}, {Mon: "a"}, {Name: "n"}, {Mon: "a", Name: "x"}, {Mon: "e", Name: "n"}, {Mon: "z", Name: "n"}, {Mon: "t", Name: "n"}, {Mon: "A", Name: "n"}, {Mon: "c", Name: "n"}, {Mon: "a.n", Name: ""}} {
			wantSet(t, p, ref, 1, full[:n], nil, api.ErrUnknown)
			wantSet(t, api.Program{}, ref, 1, full[:n], nil, api.ErrUnknown)
		}
		if n == 5 {
			wantSet(t, p, api.Ref{Mon: "a", Name: "r"}, 4, full[:n], nil, api.ErrFault)
			continue
		}
		for _, value := range []int64{1, 4, -3} {
			wantSet(t, p, api.Ref{Mon: "a", Name: "r"}, value, full[:n], nil, api.ErrArg)
			wantSet(t, p, api.Ref{Mon: "c", Name: "b"}, value, full[:n], nil, api.ErrArg)
		}
	}
	wantSet(t, p, api.Ref{Mon: "a", Name: "n"}, 4, nil, nil, api.ErrArg)
	// Of what is no program, too: a variable of no type may have nothing, nor may a range that ends below its beginning; a name is just a text.
	odd := api.Program{Mons: []api.Monitor{{Vars: []api.Var{{}, {Name: "x", Type: 9}, {Name: "y", Type: api.TyRange, Lo: 1, Hi: 0}, {Name: "if", Type: api.TyInt}}}}}
	vals := []int64{0, 0, 0, 0}
	for _, name := range []string{"", "x", "y"} {
		wantSet(t, odd, api.Ref{Name: name}, 0, vals, nil, api.ErrFault)
		wantSet(t, odd, api.Ref{Name: name}, 1, vals, nil, api.ErrFault)
	}
	wantSet(t, odd, api.Ref{Name: "if"}, 6, vals, []int64{0, 0, 0, 6}, api.OK)
}

// TestExamples: those of the chapter.
func TestExamples(t *testing.T) {
	vals := []int64{most, 1, 1, -7, 0}
	wantText(t, "a.n + 1", vals, 0, api.ErrFault)
	wantText(t, "false && a.n + 1 > 0", vals, 0, api.OK)
}
