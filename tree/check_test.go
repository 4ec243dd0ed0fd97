package tree_test

import (
	"strings"
	"testing"

	"vigil/api"
	"vigil/tree"
)

func wantExpr(t *testing.T, e api.Expr, want api.Errno) {
	t.Helper()
	if got := tree.CheckExpr(e); got != want {
		t.Errorf("CheckExpr(%+v) = %d, want %d", e, got, want)
	}
}

func want(t *testing.T, p api.Program, want api.Errno) {
	t.Helper()
	if got := tree.Check(p); got != want {
		t.Errorf("Check(%+v) = %d, want %d", p, got, want)
	}
}

// TestErrShape: the number that the chapter tells.
func TestErrShape(t *testing.T) {
	if api.ErrShape != 20 || tree.CheckExpr(api.Expr{}) != 20 || tree.Check(role(api.Stmt{})) != 20 {
		t.Error("ErrShape is 20")
	}
}

// TestCheckExprOrdinary: P2.1, of each Op.
func TestCheckExprOrdinary(t *testing.T) {
	list := exprs()
	if len(list) != api.OpOr {
		t.Fatal(len(list))
	}
	for i, e := range list {
		if e.Op != i+1 {
			t.Fatal(i, e)
		}
		wantExpr(t, e, api.OK)
		for _, f := range list {
			wantExpr(t, of(api.OpNot, e), api.OK) // what is a bool and what a number is no matter of shapes
			wantExpr(t, of(api.OpSub, e, f), api.OK)
		}
	}
}

// TestCheckExprNumbers: P2.1, N of OpNum and OpMul.
func TestCheckExprNumbers(t *testing.T) {
	for _, n := range []int64{0, 1, 2, 1<<63 - 1} {
		wantExpr(t, number(n), api.OK)
		wantExpr(t, times(n, number(n)), api.OK)
	}
	for _, n := range []int64{-1, -2, lowest, lowest + 1} {
		wantExpr(t, number(n), api.ErrShape)
		wantExpr(t, times(n, number(0)), api.ErrShape)
		wantExpr(t, times(0, number(n)), api.ErrShape)
	}
}

// none are texts that are no names, words among them.
var none = []string{"", " ", "9", "_x", "x y", "x.y", "é", "x\x00", "if", "true", "or", "notifyall", "monitor", strings.Repeat("x", api.MaxName+1)}

// TestCheckExprNames: P2.1, the names of OpVar.
func TestCheckExprNames(t *testing.T) {
	for _, s := range []string{"a", "Z", "x_9", "If", strings.Repeat("x", api.MaxName)} {
		wantExpr(t, variable(s, "x"), api.OK)
		wantExpr(t, variable("m", s), api.OK)
	}
	for _, s := range none {
		wantExpr(t, variable(s, "x"), api.ErrShape)
		wantExpr(t, variable("m", s), api.ErrShape)
	}
}

// TestCheckExprKids: P2.1, of each Op with no kid, one, two and three.
func TestCheckExprKids(t *testing.T) {
	wanted := map[int]int{api.OpNot: 1, api.OpNeg: 1, api.OpMul: 1}
	for op := api.OpAdd; op <= api.OpOr; op++ {
		wanted[op] = 2
	}
	for _, e := range exprs() {
		for n := range 4 {
			e.Kids = make([]api.Expr, n)
			for i := range e.Kids {
				e.Kids[i] = of(api.OpFalse)
			}
			err := api.ErrShape
			if n == wanted[e.Op] {
				err = api.OK
			}
			wantExpr(t, e, err)
		}
	}
}

// TestCheckExprZero: P2.1, of each Op a field that must be the zero value and isn't, one at a time.
func TestCheckExprZero(t *testing.T) {
	for _, e := range exprs() {
		if e.Op != api.OpVar {
			f := e
			f.Mon = "m"
			wantExpr(t, f, api.ErrShape)
			f = e
			f.Name = "x"
			wantExpr(t, f, api.ErrShape)
		}
		if e.Op != api.OpNum && e.Op != api.OpMul {
			for _, n := range []int64{1, -1, lowest} {
				f := e
				f.N = n
				wantExpr(t, f, api.ErrShape)
			}
		}
	}
}

// TestCheckExprUnknown: P2.1, Ops that there are not.
func TestCheckExprUnknown(t *testing.T) {
	for _, op := range []int{0, -1, api.OpOr + 1, 100, 1<<63 - 1, lowest} {
		for _, e := range exprs() {
			e.Op = op
			wantExpr(t, e, api.ErrShape)
		}
		wantExpr(t, of(op), api.ErrShape)
	}
}

// TestCheckExprDeep: P2.1, a wrong part deep inside, wherever it stands; and none.
func TestCheckExprDeep(t *testing.T) {
	for _, bad := range []api.Expr{{}, number(-1), variable("m", "if"), of(api.OpNot), of(api.OpAdd, number(1))} {
		for _, side := range []int{0, 1} {
			good, wrong := number(1), bad
			for depth := range 100 {
				pair := []api.Expr{number(2), number(3)}
				pair[side] = good
				good = of(api.OpAdd+depth%10, pair...)
				pair = []api.Expr{number(2), number(3)}
				pair[side] = wrong
				wrong = of(api.OpAdd+depth%10, pair...)
				wantExpr(t, good, api.OK)
				if tree.CheckExpr(wrong) != api.ErrShape {
					t.Fatalf("a wrong %+v %d deep", bad, depth)
				}
			}
		}
	}
}

// TestCheckOrdinary: P2.2, of each Kind, and the least programs.
func TestCheckOrdinary(t *testing.T) {
	want(t, api.Program{}, api.OK)
	want(t, role(), api.OK)
	want(t, program(), api.OK)
	for _, s := range stmts() {
		want(t, role(s), api.OK)
	}
	for _, e := range exprs() {
		want(t, role(api.Stmt{Kind: api.StSet, Mon: "m", Name: "x", E: e}), api.OK)
	}
}

// TestCheckLimits: P2.2, each limit and one more.
func TestCheckLimits(t *testing.T) {
	named := func(i int) string { return "n" + string(rune('a'+i)) }
	p := api.Program{}
	for i := range api.MaxMons + 1 {
		want(t, p, api.OK)
		p.Mons = append(p.Mons, api.Monitor{Name: named(i)})
	}
	want(t, p, api.ErrShape)
	p = api.Program{}
	for i := range api.MaxRoles + 1 {
		want(t, p, api.OK)
		p.Roles = append(p.Roles, api.Role{Name: named(i)})
	}
	want(t, p, api.ErrShape)
	for at := range api.MaxMons {
		p = api.Program{Mons: make([]api.Monitor, api.MaxMons)}
		for i := range p.Mons {
			p.Mons[i].Name = named(i)
		}
		m := &p.Mons[at]
		for i := range api.MaxVars + 1 {
			want(t, p, api.OK)
			m.Vars = append(m.Vars, api.Var{Name: named(i), Type: api.TyInt})
		}
		want(t, p, api.ErrShape)
		m.Vars = m.Vars[:api.MaxVars]
		for i := range api.MaxMeths + 1 {
			want(t, p, api.OK)
			m.Methods = append(m.Methods, api.Method{Name: named(i)})
		}
		want(t, p, api.ErrShape)
	}
	if api.MaxMons != 8 || api.MaxRoles != 8 || api.MaxVars != 16 || api.MaxMeths != 16 || api.MaxBranch != 8 {
		t.Error("limits")
	}
}

// TestCheckBlocks: P2.2, of each Kind every number of blocks, up to MaxBranch and one more.
func TestCheckBlocks(t *testing.T) {
	least := map[int]int{api.StIf: 1, api.StWhile: 1, api.StLoop: 1, api.StChoose: 1, api.StSync: 1}
	most := map[int]int{api.StIf: 2, api.StWhile: 1, api.StLoop: 1, api.StChoose: api.MaxBranch, api.StSync: 1}
	for _, s := range stmts() {
		for n := range api.MaxBranch + 3 {
			s.Blocks = make([][]api.Stmt, n)
			err := api.ErrShape
			if least[s.Kind] <= n && n <= most[s.Kind] {
				err = api.OK
			}
			want(t, role(s), err)
		}
	}
}

// TestCheckNames: P2.2, names of monitors, variables, methods and roles, and in statements.
func TestCheckNames(t *testing.T) {
	for _, s := range none {
		want(t, api.Program{Mons: []api.Monitor{{Name: s}}}, api.ErrShape)
		want(t, api.Program{Mons: []api.Monitor{{Name: "a"}, {Name: s}}}, api.ErrShape)
		want(t, api.Program{Mons: []api.Monitor{{Name: "a", Vars: []api.Var{{Name: s, Type: api.TyBool}}}}}, api.ErrShape)
		want(t, api.Program{Mons: []api.Monitor{{Name: "a", Methods: []api.Method{{Name: s}}}}}, api.ErrShape)
		want(t, api.Program{Roles: []api.Role{{Name: s}}}, api.ErrShape)
		want(t, api.Program{Roles: []api.Role{{Name: s, Star: true}}}, api.ErrShape)
		for _, st := range stmts() {
			if st.Mon != "" {
				bad := st
				bad.Mon = s
				want(t, role(bad), api.ErrShape)
			}
			if st.Name != "" {
				bad := st
				bad.Name = s
				want(t, role(bad), api.ErrShape)
			}
		}
	}
	// That a name is there twice, or that nobody has declared it, is no matter of shapes.
	want(t, api.Program{Mons: []api.Monitor{{Name: "a"}, {Name: "a"}}, Roles: []api.Role{{Name: "a"}, {Name: "a"}}}, api.OK)
}

// TestCheckVars: P2.2, variables of each type and none.
func TestCheckVars(t *testing.T) {
	const most = 1<<63 - 1
	check := func(v api.Var, err api.Errno) {
		t.Helper()
		v.Name = "x"
		want(t, api.Program{Mons: []api.Monitor{{Name: "m", Vars: []api.Var{{Name: "w", Type: api.TyBool}, v}}}}, err)
	}
	for _, n := range []int64{0, 1} {
		check(api.Var{Type: api.TyBool, Init: n}, api.OK)
	}
	for _, n := range []int64{2, -1, most, lowest, lowest + 1} {
		check(api.Var{Type: api.TyBool, Init: n}, api.ErrShape)
	}
	for _, n := range []int64{1, -1, most, lowest, lowest + 1} {
		for _, kind := range []int{api.TyBool, api.TyInt} {
			check(api.Var{Type: kind, Lo: n}, api.ErrShape)
			check(api.Var{Type: kind, Hi: n}, api.ErrShape)
			check(api.Var{Type: kind, Lo: n, Hi: n}, api.ErrShape)
		}
	}
	for _, n := range []int64{0, 2, -1, most, lowest + 1} {
		check(api.Var{Type: api.TyInt, Init: n}, api.OK)
		check(api.Var{Type: api.TyRange, Lo: n, Hi: n, Init: n}, api.OK)
		check(api.Var{Type: api.TyRange, Lo: n, Hi: most, Init: lowest + 1}, api.OK) // a first value beyond its range is no matter of shapes
		check(api.Var{Type: api.TyRange, Lo: lowest + 1, Hi: n, Init: most}, api.OK)
	}
	check(api.Var{Type: api.TyInt, Init: lowest}, api.ErrShape)
	check(api.Var{Type: api.TyRange, Lo: lowest, Hi: 0}, api.ErrShape)
	check(api.Var{Type: api.TyRange, Lo: lowest, Hi: lowest}, api.ErrShape)
	check(api.Var{Type: api.TyRange, Init: lowest}, api.ErrShape)
	check(api.Var{Type: api.TyRange, Lo: 1}, api.ErrShape)
	check(api.Var{Type: api.TyRange, Lo: most, Hi: most - 1}, api.ErrShape)
	check(api.Var{Type: api.TyRange, Lo: most, Hi: lowest + 1}, api.ErrShape)
	for _, kind := range []int{0, -1, 4, most, lowest} {
		check(api.Var{Type: kind}, api.ErrShape)
	}
}

// TestCheckRoles: P2.2, Star and Count.
func TestCheckRoles(t *testing.T) {
	check := func(star bool, count int64, err api.Errno) {
		t.Helper()
		want(t, api.Program{Roles: []api.Role{{Name: "q", Count: 3}, {Name: "r", Star: star, Count: count}}}, err)
	}
	for _, n := range []int64{0, 1, api.MaxCount, api.MaxCount + 1, 1<<63 - 1} { // how many there may be is no matter of shapes
		check(false, n, api.OK)
	}
	for _, n := range []int64{-1, lowest} {
		check(false, n, api.ErrShape)
	}
	check(true, 0, api.OK)
	for _, n := range []int64{1, -1, 1<<63 - 1, lowest} {
		check(true, n, api.ErrShape)
	}
}

// TestCheckWaits: P2.2, the number of a wait.
func TestCheckWaits(t *testing.T) {
	for _, n := range []int64{0, 1, api.MaxTime, api.MaxTime + 1, 1<<63 - 1} {
		want(t, role(api.Stmt{Kind: api.StWait, Mon: "m", N: n}), api.OK)
	}
	for _, n := range []int64{-1, lowest} {
		want(t, role(api.Stmt{Kind: api.StWait, Mon: "m", N: n}), api.ErrShape)
	}
}

// TestCheckZero: P2.2, of each Kind a field that must be the zero value and isn't, one at a time.
func TestCheckZero(t *testing.T) {
	for _, s := range stmts() {
		if s.Mon == "" {
			bad := s
			bad.Mon = "m"
			want(t, role(bad), api.ErrShape)
		}
		if s.Name == "" {
			bad := s
			bad.Name = "x"
			want(t, role(bad), api.ErrShape)
		}
		if s.Kind != api.StWait {
			for _, n := range []int64{1, -1} {
				bad := s
				bad.N = n
				want(t, role(bad), api.ErrShape)
			}
		}
		if s.E.Op == 0 {
			for _, e := range []api.Expr{number(1), of(api.OpTrue), {Mon: "m"}, {Name: "x"}, {N: 1}, {N: -1}, {Op: -1}, {Kids: make([]api.Expr, 1)}} {
				bad := s
				bad.E = e
				want(t, role(bad), api.ErrShape)
			}
			s.E = api.Expr{At: 9, Kids: []api.Expr{}}
			want(t, role(s), api.OK)
		} else {
			for _, e := range []api.Expr{{}, {At: 9}, number(-1), {Op: api.OpTrue, N: 1}, of(api.OpNot, of(api.OpNot))} {
				bad := s
				bad.E = e
				want(t, role(bad), api.ErrShape)
			}
		}
	}
}

// TestCheckUnknown: P2.2, Kinds that there are not.
func TestCheckUnknown(t *testing.T) {
	for _, kind := range []int{0, -1, api.StAll + 1, 100, 1<<63 - 1, lowest} {
		want(t, role(api.Stmt{Kind: kind}), api.ErrShape)
		for _, s := range stmts() {
			s.Kind = kind
			want(t, role(s), api.ErrShape)
		}
	}
}

// TestCheckDeep: P2.2, a wrong statement in each block of each Kind that has some, at any depth, in a method and in a role.
func TestCheckDeep(t *testing.T) {
	for _, bad := range []api.Stmt{{}, {Kind: api.StSkip, N: 1}, {Kind: api.StWait, Mon: "wait"}, {Kind: api.StLoop}} {
		for depth := range 4 {
			for _, body := range wraps(bad, depth) {
				p := program()
				p.Mons[0].Methods[0].Body = append(p.Mons[0].Methods[0].Body, body)
				want(t, p, api.ErrShape)
				p = program()
				p.Mons[0].Methods[1].Body = []api.Stmt{body}
				want(t, p, api.ErrShape)
				p = program()
				p.Roles[1].Body = append(p.Roles[1].Body, body)
				want(t, p, api.ErrShape)
				p = program()
				p.Roles[0].Body = append([]api.Stmt{body}, p.Roles[0].Body...)
				want(t, p, api.ErrShape)
			}
		}
		for _, good := range wraps(api.Stmt{Kind: api.StSkip}, 2) {
			want(t, role(good), api.OK)
		}
	}
}

// wraps is s so deep in others, in each block that they have.
func wraps(s api.Stmt, depth int) []api.Stmt {
	if depth == 0 {
		return []api.Stmt{s}
	}
	var list []api.Stmt
	for _, inner := range wraps(s, depth-1) {
		for _, outer := range stmts() {
			for i := range outer.Blocks {
				w := outer
				w.Blocks = append([][]api.Stmt(nil), outer.Blocks...)
				w.Blocks[i] = append(append([]api.Stmt(nil), w.Blocks[i]...), inner)
				list = append(list, w)
			}
		}
	}
	return list
}

// TestDeepest: all calls end at as many parts within one another as the document bounds them to.
func TestDeepest(t *testing.T) {
	const depth = 1<<16 - 2
	e, s := variable("m", "x"), api.Stmt{Kind: api.StSkip}
	for range depth {
		e = of(api.OpNot, e)
		s = api.Stmt{Kind: api.StLoop, Blocks: [][]api.Stmt{{s}}}
	}
	set := api.Stmt{Kind: api.StSet, Mon: "m", Name: "x", E: e}
	p := role(s, set)
	wantExpr(t, e, api.OK)
	if l := tree.Reads(e); len(l) != 1 || l[0] != "m.x" {
		t.Error(l)
	}
	if tree.Check(p) != api.OK || !tree.Same(p, p) || !tree.SameExpr(e, e) || tree.Size(p) != 2*depth+3 {
		t.Error("deep")
	}
}
