package types_test

import (
	"fmt"
	"reflect"
	"testing"

	"vigil/api"
	"vigil/types"
)

// TestNumbers: the errors' numbers that the chapter tells.
func TestNumbers(t *testing.T) {
	if api.ErrType != 70 || api.ErrRange != 71 || api.ErrUnknown != 61 || api.ErrShape != 20 {
		t.Error("other numbers")
	}
}

// TestTypeOrdinary: P7.1, of expressions that have a type.
func TestTypeOrdinary(t *testing.T) {
	for _, s := range []string{"7", "a.n", "c.x", "-1", "-c.x", "3 * a.n", "2 * -3 * c.x", "1 + 2", "a.n - c.x", "0 - 1 - 2 * (a.n + c.x)"} {
		wantExpr(t, s, api.TyInt, api.OK)
	}
	for _, s := range []string{
		"true", "false", "a.b", "a.x", "!true", "!a.b", "!!(a.n < 1)", "a.b && a.x", "a.b || false || a.x",
		"1 < 2", "a.n <= c.x", "c.x > 1", "a.n >= -a.n", "a.n == 1", "a.n != c.x", "a.b == true", "a.b != a.x",
		"(1 < 2) == a.b", "a.b == (1 == 2)", "(a.b == true) == (1 != 2)", "a.b && a.n > 1 || !(c.x + 1 == 2 * a.n)",
	} {
		wantExpr(t, s, api.TyBool, api.OK)
	}
}

// TestTypeKids: P7.1, of every Op with kids of every type.
func TestTypeKids(t *testing.T) {
	p := parsed(t, declares)
	bools := []string{"true", "false", "a.b", "!a.b", "1 == 2", "true != false", "1 < 2", "1 <= 2", "1 > 2", "1 >= 2", "a.b && a.b", "a.b || a.b"}
	numbers := []string{"1", "a.n", "c.x", "-1", "2 * a.n", "1 + 2", "1 - 2"}
	var kids []api.Expr
	for _, s := range append(bools, numbers...) {
		kids = append(kids, parsedExpr(t, s))
	}
	isBool := func(i int) bool { return i < len(bools) }
	for op := api.OpNot; op <= api.OpOr; op++ {
		is := api.TyBool
		if op >= api.OpNeg && op <= api.OpSub {
			is = api.TyInt
		}
		for i, left := range kids {
			left.At = 11
			if op <= api.OpMul {
				want(t, p, api.Expr{Op: op, Kids: []api.Expr{left}, At: 5}, is, isBool(i) == (op == api.OpNot), 11)
				continue
			}
			for k, right := range kids {
				right.At = 12
				e := api.Expr{Op: op, Kids: []api.Expr{left, right}, At: 5}
				switch {
				case op == api.OpEq || op == api.OpNe:
					want(t, p, e, is, isBool(i) == isBool(k), 12)
				case isBool(i) == (op >= api.OpAnd):
					want(t, p, e, is, isBool(k) == (op >= api.OpAnd), 12)
				default:
					want(t, p, e, is, false, 11)
				}
			}
		}
	}
}

// want holds Type against a type, or else against ErrType at a place.
func want(t *testing.T, p api.Program, e api.Expr, is int, ok bool, at int) {
	t.Helper()
	what := fmt.Sprintf("%+v", e)
	if ok {
		wantType(t, what, p, e, is, api.OK, 0)
	} else {
		wantType(t, what, p, e, 0, api.ErrType, at)
	}
}

// TestTypeWrong: P7.1: ErrType, at the first kid that is not what it must be.
func TestTypeWrong(t *testing.T) {
	for _, s := range []string{
		"a.b && @1", "@1 && a.b", "@1 && 2", "@1 || 2", "a.b || @a.n", "!@1", "!(@1 + 2)", "-@true", "2 * @a.b", "@true + 1", "1 + @true", "@true - false",
		"@true < false", "1 <= @a.b", "@a.b > 1", "@a.x >= a.b", "1 == @true", "true == @1", "a.b != @c.x", "c.x != @a.b", "a.x == @c.x",
		// A comparison is a bool, whatever is compared.
		"(@1 < 2) + 3", "(@1 < 2) < 3", "(1 < 2) == @3", "-(@1 == 2)", "!(@1 - 2)",
		// What is an expression's place, parentheses or not.
		"a.b && (@1)", "((@1 + 2)) && a.b", "a.b && @1 + 2 + 3", "!(@1 * 2)", "1 + (@!a.b)", "1 + -(@a.b && a.b)",
		// Kids come ahead of what they are kids of, and from the left.
		"(@a.b + 1) && (2 && a.b)", "1 && (a.b && (!@2))", "(@1 && a.b) + (!3)", "!1 == (@2 && a.b)", "1 && (a.b && @2)",
	} {
		wantExpr(t, s, 0, api.ErrType)
	}
}

// TestTypeUnknown: P7.1: ErrUnknown, at a variable that there is not.
func TestTypeUnknown(t *testing.T) {
	for _, s := range []string{
		"@a.y", "@A.b", "@c.b", "@b.a", "@a.f", "@a.a", "@t.b", "!@a.y", "-@a.y", "3 * @a.y", "@a.y + a.z", "1 + @a.z",
		"a.b && (@a.y)", "(@x.x) == 1",
		// All kids come ahead of what they are kids of: an unknown one on the right, too, ahead of a wrong one on the left.
		"1 && @a.y", "1 && (a.b || !@a.y)", "true + @a.y", "1 == @a.y", "(true == a.x) < @a.y",
	} {
		wantExpr(t, s, 0, api.ErrUnknown)
	}
	for _, s := range []string{"(@1 && a.b) || a.y", "!@1 && a.y", "-@a.b == a.y", "(1 == @true) == a.y"} {
		wantExpr(t, s, 0, api.ErrType)
	}
}

// TestTypeVariables: P7.1: which variable it is, of several monitors, and of names that are there several times.
func TestTypeVariables(t *testing.T) {
	p := parsed(t, `monitor e { } monitor a { var x : int = 0; var y : bool = true; var x : bool = true; } monitor o { }
monitor a { var y : int = 0; var z : int = 0; } monitor b { var y : 0..1 = 0; var x : bool = true; } thread c 1 { }`)
	for s, is := range map[string]int{"a.x": api.TyInt, "a.y": api.TyBool, "b.y": api.TyInt, "b.x": api.TyBool} {
		wantType(t, s, p, parsedExpr(t, s), is, api.OK, 0)
	}
	for _, s := range []string{"a.z", "e.x", "o.x", "c.x", "b.z"} {
		wantType(t, s, p, parsedExpr(t, s), 0, api.ErrUnknown, 0)
		wantType(t, s, api.Program{}, parsedExpr(t, s), 0, api.ErrUnknown, 0)
	}
	// Of what is no program, too: whatever is no TyInt and no TyRange is TyBool.
	for _, v := range []int{-1 << 62, -1, 0, api.TyBool, api.TyInt, api.TyRange, 4, 1 << 62} {
		p := api.Program{Mons: []api.Monitor{{}, {Name: "a", Vars: []api.Var{{Name: "if"}, {Name: "x", Type: v, Lo: 5, Hi: 4}}}, {Name: "a"}}, Roles: make([]api.Role, 9)}
		is := api.TyBool
		if v == api.TyInt || v == api.TyRange {
			is = api.TyInt
		}
		wantType(t, fmt.Sprint("type ", v), p, parsedExpr(t, "a.x"), is, api.OK, 0)
	}
}

// TestTypeShape: P7.1: ErrShape and 0, ahead of all else.
func TestTypeShape(t *testing.T) {
	p := parsed(t, declares)
	unknown := api.Expr{Op: api.OpVar, Mon: "X", Name: "x", At: 3}
	number := api.Expr{Op: api.OpNum, At: 4}
	for _, e := range []api.Expr{
		{}, {At: 7}, {Op: -1, At: 7}, {Op: 18, At: 7}, {Op: api.OpNum, N: -1, At: 7}, {Op: api.OpTrue, N: 1, At: 7}, {Op: api.OpVar, At: 7},
		{Op: api.OpVar, Mon: "a", Name: "if", At: 7}, {Op: api.OpNum, Kids: []api.Expr{number}}, {Op: api.OpNot, At: 7},
		{Op: api.OpNot, Kids: []api.Expr{number, number}}, {Op: api.OpAnd, Kids: []api.Expr{number}},
		{Op: api.OpAnd, Kids: []api.Expr{number, number, number}}, {Op: api.OpAnd, Kids: []api.Expr{unknown, {At: 9}}},
		{Op: api.OpAnd, Kids: []api.Expr{number, {Op: api.OpNot, Kids: []api.Expr{{Op: api.OpMul, N: -2, Kids: []api.Expr{number}}}}}},
		{Op: api.OpVar, Mon: "a", Name: "b", Kids: []api.Expr{unknown}},
	} {
		wantType(t, fmt.Sprintf("%+v", e), p, e, 0, api.ErrShape, 0)
		wantType(t, fmt.Sprintf("%+v", e), api.Program{}, e, 0, api.ErrShape, 0)
	}
}

// TestTypePlaces: P7.1: the place is what At says, whatever it is; an error's own place may be 0.
func TestTypePlaces(t *testing.T) {
	for _, at := range []int{-1 << 62, -1, 0, 1, 1 << 62} {
		one := api.Expr{Op: api.OpNum, N: 1, At: at}
		wantType(t, "a number", api.Program{}, one, api.TyInt, api.OK, 0)
		wantType(t, "not 1", api.Program{}, api.Expr{Op: api.OpNot, Kids: []api.Expr{one}, At: 8}, 0, api.ErrType, at)
		wantType(t, "a variable", api.Program{}, api.Expr{Op: api.OpVar, Mon: "a", Name: "b", At: at}, 0, api.ErrUnknown, at)
	}
}

// TestTypeDeep: P7.1, of what is nested as deeply as may be, on either side.
func TestTypeDeep(t *testing.T) {
	p := parsed(t, declares)
	for _, name := range []string{"n", "b", "y"} {
		left := api.Expr{Op: api.OpVar, Mon: "a", Name: name, At: 3}
		right, minus := left, left
		one := api.Expr{Op: api.OpNum, N: 1, At: 9}
		for range deep {
			left = api.Expr{Op: api.OpAdd, Kids: []api.Expr{left, one}, At: 4}
			right = api.Expr{Op: api.OpSub, Kids: []api.Expr{one, right}, At: 4}
			minus = api.Expr{Op: api.OpNeg, Kids: []api.Expr{minus}, At: 4}
		}
		for i, e := range []api.Expr{left, right, minus} {
			what := fmt.Sprint(name, " deep ", i)
			switch name {
			case "n":
				wantType(t, what, p, e, api.TyInt, api.OK, 0)
			case "b":
				wantType(t, what, p, e, 0, api.ErrType, 3)
			case "y":
				wantType(t, what, p, e, 0, api.ErrUnknown, 3)
			}
		}
	}
}

// TestTypeByStack: P7.1, of expressions that were made at random, against what a stack tells.
func TestTypeByStack(t *testing.T) {
	told := map[[2]int]int{}
	for seed := range uint64(10000) {
		c := newChance(seed, []int{3, 10, 40, 200, 1 << 30}[seed%5])
		p := c.program()
		for _, must := range []int{api.TyBool, api.TyInt} {
			e := c.expr(must, 5)
			is, err, at := typed(p, e)
			wantType(t, fmt.Sprintf("seed %d: %+v", seed, e), p, e, is, err, at)
			told[[2]int{is, int(err)}]++
			if c.right == 1<<30 && is != must {
				t.Fatalf("seed %d: %d, %d at %d", seed, is, err, at)
			}
		}
	}
	for _, k := range [][2]int{{api.TyBool, 0}, {api.TyInt, 0}, {0, int(api.ErrType)}, {0, int(api.ErrUnknown)}} {
		if told[k] < 1000 {
			t.Errorf("type %d, error %d: %d times", k[0], k[1], told[k])
		}
	}
}

// replaced is e with another part in the place of that with a place.
func replaced(e api.Expr, at int, with api.Expr) api.Expr {
	if e.At == at {
		return with
	}
	var kids []api.Expr
	for _, kid := range e.Kids {
		kids = append(kids, replaced(kid, at, with))
	}
	e.Kids = kids
	return e
}

// TestParts: P7.3: a part is the same in any place: all parts of what has a type have one, and another part of the same type leaves the whole as it is.
func TestParts(t *testing.T) {
	for seed := range uint64(3000) {
		c := newChance(seed, 1<<30)
		p := c.program()
		e := c.expr([]int{api.TyBool, api.TyInt}[seed%2], 4)
		whole, err, _ := types.Type(p, e)
		if err != api.OK {
			t.Fatalf("seed %d: %d", seed, err)
		}
		for _, x := range row(e) {
			is, err, _ := types.Type(p, x)
			if err != api.OK {
				t.Fatalf("seed %d: %d of a part %+v", seed, err, x)
			}
			other := c.expr(is, 2)
			wantType(t, fmt.Sprintf("seed %d: another part", seed), p, replaced(e, x.At, other), whole, api.OK, 0)
			twice := api.Expr{Op: api.OpEq, Kids: []api.Expr{x, other}}
			wantType(t, fmt.Sprintf("seed %d: held against another part", seed), p, twice, api.TyBool, api.OK, 0)
		}
	}
}

// TestOneBroken: P7.1, P7.3: of an expression in which all is right, one part is made another thing. The error is told there, or, if it is the first one of two that must be the same, at the second one.
func TestOneBroken(t *testing.T) {
	for seed := range uint64(3000) {
		c := newChance(seed, 1<<30)
		p := c.program()
		e := c.expr([]int{api.TyBool, api.TyInt}[seed%2], 4)
		for _, parent := range row(e) {
			for i, kid := range parent.Kids {
				is, _, _ := types.Type(p, kid)
				other := c.expr(api.TyBool+api.TyInt-is, 2)
				at := other.At
				if (parent.Op == api.OpEq || parent.Op == api.OpNe) && i == 0 {
					at = parent.Kids[1].At
				}
				wantType(t, fmt.Sprintf("seed %d: one broken", seed), p, replaced(e, kid.At, other), 0, api.ErrType, at)
			}
		}
	}
}

// TestSameVariables: P7.3: what has a type has it in every program with the same variables, whatever else there is.
func TestSameVariables(t *testing.T) {
	for seed := range uint64(2000) {
		c := newChance(seed, 20)
		p := c.program()
		e := c.expr([]int{api.TyBool, api.TyInt}[seed%2], 4)
		is, err, at := types.Type(p, e)
		other := api.Program{Roles: []api.Role{{Name: "other", Count: 3}, {}}}
		for _, m := range p.Mons {
			m.Methods, m.At = []api.Method{{Name: "a", At: 5}, {Name: "nobody"}}, 99
			var vars []api.Var
			for _, v := range m.Vars {
				v.At, v.Init = -1, 77
				vars = append(vars, v)
			}
			m.Vars = vars
			other.Mons = append(other.Mons, m)
		}
		wantType(t, fmt.Sprintf("seed %d: another program", seed), other, e, is, err, at)
	}
}

// TestNothingChanges: what is handed in stays as it is, its spare room too; the same is told each time.
func TestNothingChanges(t *testing.T) {
	for seed := range uint64(300) {
		c, d := newChance(seed, 10), newChance(seed, 10)
		p, e := c.program(), c.expr(api.TyBool, 4)
		is, err, at := types.Type(p, e)
		checkErr, checkAt := types.Check(p)
		for range 3 {
			wantType(t, fmt.Sprint("seed ", seed), p, e, is, err, at)
			wantCheck(t, fmt.Sprint("seed ", seed), p, checkErr, checkAt)
		}
		if !reflect.DeepEqual(p, d.program()) || !reflect.DeepEqual(e, d.expr(api.TyBool, 4)) {
			t.Fatalf("seed %d: something has changed", seed)
		}
	}
	kids := []api.Expr{{Op: api.OpNum, N: 1}, {Op: api.OpNum, N: 2}, {Op: 77}}
	vars := []api.Var{{Name: "x", Type: api.TyInt}, {Name: "spare"}}
	set := api.Stmt{Kind: api.StSet, Mon: "m", Name: "x", E: api.Expr{Op: api.OpAdd, Kids: kids[:2]}}
	body := []api.Stmt{set, {Kind: 78}}
	p := api.Program{Mons: []api.Monitor{{Name: "m", Vars: vars[:1], Methods: []api.Method{{Name: "f", Body: body[:1]}}}}}
	wantCheck(t, "one monitor", p, api.OK, 0)
	wantType(t, "a sum", p, set.E, api.TyInt, api.OK, 0)
	if kids[2].Op != 77 || vars[1].Name != "spare" || body[1].Kind != 78 {
		t.Errorf("%+v, %+v, %+v", kids, vars, body)
	}
}
