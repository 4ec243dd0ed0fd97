package tree_test

import (
	"reflect"
	"slices"
	"testing"

	"vigil/api"
	"vigil/tree"
)

// TestSameFields: P2.3, of every field of a program one that is changed, and that alone: the place of something changes nothing, all else does.
func TestSameFields(t *testing.T) {
	p, q := program(), program()
	places, others := 0, 0
	eachField(reflect.ValueOf(&q).Elem(), "p", func(where string, f reflect.Value) {
		before := reflect.New(f.Type()).Elem()
		before.Set(f)
		for _, v := range []int64{1, -1, 256, lowest} {
			spoil(f, v)
			if same := tree.Same(p, q); same != isPlace(where) || tree.Same(q, p) != same {
				t.Errorf("%s changed: %v", where, same)
			}
			f.Set(before)
		}
		if isPlace(where) {
			places++
		} else {
			others++
		}
	})
	if !tree.Same(p, q) || places < 100 || others < 400 {
		t.Error(places, others)
	}
}

// spoil makes another value of f.
func spoil(f reflect.Value, by int64) {
	switch f.Kind() {
	case reflect.Bool:
		f.SetBool(!f.Bool())
	case reflect.String:
		f.SetString(f.String() + string(rune('a'+by&7)))
	default:
		f.SetInt(f.Int() + by)
	}
}

// TestSameLists: P2.3, of every list of a program one that is shorter, longer, turned round, or none.
func TestSameLists(t *testing.T) {
	p, q := program(), program()
	eachList(reflect.ValueOf(&q).Elem(), "p", func(where string, list reflect.Value) {
		before := reflect.ValueOf(list.Interface())
		differs := func(what string, now reflect.Value) {
			list.Set(now)
			if tree.Same(p, q) || tree.Same(q, p) {
				t.Errorf("%s, %s", where, what)
			}
			list.Set(before)
		}
		zero := reflect.Zero(list.Type().Elem())
		differs("one more behind", reflect.Append(before.Slice3(0, before.Len(), before.Len()), zero))
		if n := before.Len(); n > 0 {
			differs("without the last", before.Slice(0, n-1))
			differs("without the first", before.Slice(1, n))
			differs("none", reflect.Zero(list.Type()))
			return
		}
		for _, empty := range []reflect.Value{reflect.Zero(list.Type()), reflect.MakeSlice(list.Type(), 0, 0), reflect.MakeSlice(list.Type(), 0, 3)} {
			list.Set(empty)
			if !tree.Same(p, q) || !tree.Same(q, p) {
				t.Errorf("%s: an empty list is like none", where)
			}
		}
		list.Set(before)
	})
	if !tree.Same(p, q) {
		t.Error("not put back")
	}
}

// TestEmptyLists: an empty list is like none to all calls.
func TestEmptyLists(t *testing.T) {
	p, q := program(), program()
	eachList(reflect.ValueOf(&q).Elem(), "p", func(_ string, list reflect.Value) {
		if list.Len() == 0 {
			list.Set(reflect.MakeSlice(list.Type(), 0, 2))
		}
	})
	if !tree.Same(p, q) || tree.Check(q) != api.OK || tree.Size(p) != tree.Size(q) {
		t.Error("empty lists of a program")
	}
	if !tree.Same(api.Program{}, api.Program{Mons: []api.Monitor{}, Roles: []api.Role{}}) {
		t.Error("empty programs")
	}
	if !tree.SameStmts(nil, []api.Stmt{}) || !tree.SameStmts([]api.Stmt{}, nil) || !tree.SameStmts(nil, nil) {
		t.Error("empty lists of statements")
	}
	loop, held := api.Stmt{Kind: api.StLoop, Blocks: [][]api.Stmt{nil}}, api.Stmt{Kind: api.StLoop, Blocks: [][]api.Stmt{{}}}
	if !tree.SameStmts([]api.Stmt{loop}, []api.Stmt{held}) {
		t.Error("empty blocks")
	}
	if tree.SameStmts([]api.Stmt{loop}, []api.Stmt{{Kind: api.StLoop}}) {
		t.Error("a block that is empty is a block")
	}
	a, b := number(1), number(1)
	b.Kids = []api.Expr{}
	if !tree.SameExpr(a, b) || !tree.SameExpr(b, a) || tree.CheckExpr(b) != api.OK {
		t.Error("empty kids")
	}
}

// TestSameExprs: P2.3, of any two expressions, and any two statements.
func TestSameExprs(t *testing.T) {
	list := exprs()
	for i, e := range list {
		for j, f := range exprs() {
			if tree.SameExpr(e, moved(t, f)) != (i == j) {
				t.Errorf("%+v, %+v", e, f)
			}
			if tree.SameExpr(of(api.OpAdd, e, f), of(api.OpAdd, f, e)) != (i == j) {
				t.Errorf("%+v, %+v turned round", e, f)
			}
			if !tree.SameExpr(of(api.OpEq, e, f), moved(t, of(api.OpEq, e, f))) {
				t.Errorf("%+v, %+v elsewhere", e, f)
			}
		}
	}
	all := stmts()
	for i, s := range all {
		for j, u := range stmts() {
			if tree.SameStmts([]api.Stmt{s}, moved(t, []api.Stmt{u})) != (i == j) {
				t.Errorf("%+v, %+v", s, u)
			}
			if tree.SameStmts([]api.Stmt{s, u}, []api.Stmt{u, s}) != (i == j) {
				t.Errorf("%+v, %+v turned round", s, u)
			}
		}
		if tree.SameStmts([]api.Stmt{s}, nil) || tree.SameStmts(nil, []api.Stmt{s}) || tree.SameStmts(all, all[:i]) {
			t.Errorf("%+v and nothing", s)
		}
	}
	if !tree.SameStmts(all, stmts()) {
		t.Error("all of them")
	}
	if tree.SameExpr(variable("ab", "c"), variable("a", "bc")) || tree.SameExpr(variable("a", "b"), variable("b", "a")) {
		t.Error("names")
	}
}

// TestSameWrong: P2.3 holds of what is of no shape, too.
func TestSameWrong(t *testing.T) {
	a := api.Expr{Op: 99, Mon: "?", N: -4, Kids: []api.Expr{{}, {Op: -1}}}
	b := copied(t, a)
	b.Kids[1].At = 3
	if !tree.SameExpr(a, b) {
		t.Error("the same")
	}
	b.Kids[1].Op = -2
	if tree.SameExpr(a, b) {
		t.Error("not the same")
	}
	if !tree.SameExpr(api.Expr{}, api.Expr{At: 1}) || !tree.Same(role(api.Stmt{E: a}), role(api.Stmt{E: a})) || tree.Same(role(api.Stmt{E: a}), role(api.Stmt{E: b})) {
		t.Error("of no shape")
	}
}

// TestReads: P2.4.
func TestReads(t *testing.T) {
	x, y, z := variable("a", "x"), variable("a", "y"), variable("b", "x")
	for _, c := range []struct {
		e    api.Expr
		want []string
	}{
		{of(api.OpAdd, of(api.OpAdd, x, times(2, y)), x), []string{"a.x", "a.y"}},
		{x, []string{"a.x"}},
		{number(1), nil},
		{of(api.OpTrue), nil},
		{of(api.OpFalse), nil},
		{of(api.OpNot, z), []string{"b.x"}},
		{of(api.OpNeg, z), []string{"b.x"}},
		{times(0, z), []string{"b.x"}},
		{of(api.OpAdd, x, x), []string{"a.x"}},
		{of(api.OpAdd, y, x), []string{"a.y", "a.x"}},
		{of(api.OpAnd, of(api.OpEq, z, y), of(api.OpOr, y, x)), []string{"b.x", "a.y", "a.x"}},
		{of(api.OpOr, of(api.OpTrue), of(api.OpLt, number(4), of(api.OpSub, y, of(api.OpSub, z, y)))), []string{"a.y", "b.x"}},
		{of(api.OpEq, variable("ab", "c"), variable("a", "bc")), []string{"ab.c", "a.bc"}},
		{of(api.OpEq, variable("a", "b"), variable("b", "a")), []string{"a.b", "b.a"}},
		{api.Expr{}, nil},
	} {
		if got := tree.Reads(c.e); !slices.Equal(got, c.want) {
			t.Errorf("Reads(%+v) = %q, want %q", c.e, got, c.want)
		}
		if got := tree.Reads(moved(t, c.e)); !slices.Equal(got, c.want) {
			t.Errorf("Reads(%+v), elsewhere = %q, want %q", c.e, got, c.want)
		}
	}
	for op := api.OpAdd; op <= api.OpOr; op++ {
		if got := tree.Reads(of(op, y, of(op, z, x))); !slices.Equal(got, []string{"a.y", "b.x", "a.x"}) {
			t.Errorf("op %d: %q", op, got)
		}
	}
}

// TestReadsMany: P2.4, of many variables that come again and again.
func TestReadsMany(t *testing.T) {
	var want []string
	e := number(0)
	for i := range 3000 {
		name := "v" + string(rune('a'+i%26)) + string(rune('a'+i/26%26))
		e = of(api.OpAdd, e, variable("m", name))
		if i < 26*26 {
			want = append(want, "m."+name)
		}
	}
	if got := tree.Reads(e); !slices.Equal(got, want) {
		t.Error(len(got), len(want))
	}
}

// TestSize: P2.5.
func TestSize(t *testing.T) {
	for i, c := range []struct {
		p    api.Program
		want int
	}{
		{api.Program{}, 0},
		{role(), 0},
		{role(api.Stmt{Kind: api.StSkip}), 1},
		{role(api.Stmt{Kind: api.StWait, Mon: "m", N: 3}, api.Stmt{Kind: api.StNotify, Mon: "m"}), 2},
		{role(api.Stmt{Kind: api.StSet, Mon: "m", Name: "x", E: number(0)}), 2},
		{role(api.Stmt{Kind: api.StSet, Mon: "m", Name: "x", E: times(0, number(0))}), 3},
		{role(api.Stmt{Kind: api.StSet, Mon: "m", Name: "x", E: of(api.OpAdd, number(0), number(0))}), 4},
		{role(stmts()[2]), 3},
		{role(stmts()[3]), 3},
		{role(stmts()[4]), 3},
		{role(stmts()[5]), 1},
		{role(stmts()[6]), 3},
		{role(stmts()[7]), 2},
		{role(stmts()...), 13 + 6 + 6}, // with those in their blocks, and expressions
		{api.Program{Mons: []api.Monitor{{Name: "m", Vars: make([]api.Var, 3), Methods: []api.Method{{Body: stmts()}, {}, {Body: stmts()[:1]}}}, {Name: "n"}}}, 25 + 1},
		{api.Program{Mons: []api.Monitor{{Methods: []api.Method{{Body: stmts()}}}, {Methods: []api.Method{{Body: stmts()}}}}, Roles: []api.Role{{Star: true, Body: stmts()}, {}, {Body: stmts()}}}, 4 * 25},
		{program(), counted(reflect.ValueOf(program()))},
	} {
		if got := tree.Size(c.p); got != c.want {
			t.Errorf("case %d: %d, want %d", i, got, c.want)
		}
		if got := tree.Size(moved(t, c.p)); got != c.want {
			t.Errorf("case %d, elsewhere: %d, want %d", i, got, c.want)
		}
	}
}

// counted is how many statements, and expressions with an Op, there are in v.
func counted(v reflect.Value) int {
	n := 0
	switch v.Kind() {
	case reflect.Struct:
		switch x := v.Interface().(type) {
		case api.Stmt:
			n++
		case api.Expr:
			if x.Op != 0 {
				n++
			}
		}
		for i := range v.NumField() {
			n += counted(v.Field(i))
		}
	case reflect.Slice:
		for i := range v.Len() {
			n += counted(v.Index(i))
		}
	}
	return n
}

// TestPlaces: P2.6, all calls on the same trees with other places, and on spoilt ones.
func TestPlaces(t *testing.T) {
	p := program()
	eachField(reflect.ValueOf(&p).Elem(), "p", func(where string, f reflect.Value) {
		if isPlace(where) {
			return
		}
		before := reflect.New(f.Type()).Elem()
		before.Set(f)
		spoil(f, -9)
		q := moved(t, p)
		if tree.Check(p) != tree.Check(q) || !tree.Same(p, q) || tree.Size(p) != tree.Size(q) {
			t.Errorf("%s: with other places", where)
		}
		f.Set(before)
	})
	if q := moved(t, p); tree.Check(p) != api.OK || tree.Check(q) != api.OK || reflect.DeepEqual(p, q) {
		t.Error("a program with other places")
	}
	for _, e := range exprs() {
		for _, op := range []int{0, api.OpNot, api.OpOr} {
			a := of(op, e, e)
			b := moved(t, a)
			if tree.CheckExpr(a) != tree.CheckExpr(b) || !tree.SameExpr(a, b) || !slices.Equal(tree.Reads(a), tree.Reads(b)) {
				t.Errorf("%+v with other places", a)
			}
		}
	}
}

// TestLeavesAlone: what is handed in is not changed, its spare room neither; what is answered is not kept.
func TestLeavesAlone(t *testing.T) {
	p := moved(t, program())
	eachList(reflect.ValueOf(&p).Elem(), "p", func(_ string, list reflect.Value) {
		room := reflect.MakeSlice(list.Type(), list.Len(), list.Len()+2)
		reflect.Copy(room, list)
		list.Set(room)
	})
	before := copied(t, p)
	e := p.Mons[0].Methods[0].Body[1].E
	tree.Check(p)
	tree.CheckExpr(e)
	tree.Same(p, program())
	tree.SameStmts(p.Roles[1].Body, stmts())
	tree.SameExpr(e, e)
	tree.Size(p)
	names := tree.Reads(e)
	if !reflect.DeepEqual(wide(p), wide(before)) {
		t.Error("changed")
	}
	names[0] = "?"
	if again := tree.Reads(e); again[0] != "m.x" {
		t.Error("kept", again)
	}
}

// wide is v with its lists' spare room laid open.
func wide(p api.Program) api.Program {
	eachList(reflect.ValueOf(&p).Elem(), "p", func(_ string, list reflect.Value) {
		list.Set(list.Slice(0, list.Cap()))
	})
	return p
}
