package tree_test

import (
	"reflect"
	"testing"

	"vigil/api"
)

// The trees that the tests of this package begin with, each made anew, so that one may be spoilt.

const lowest = -1 << 63

func variable(mon, name string) api.Expr {
	return api.Expr{Op: api.OpVar, Mon: mon, Name: name}
}

func number(n int64) api.Expr {
	return api.Expr{Op: api.OpNum, N: n}
}

func of(op int, kids ...api.Expr) api.Expr {
	return api.Expr{Op: op, Kids: kids}
}

func times(n int64, kids ...api.Expr) api.Expr {
	return api.Expr{Op: api.OpMul, N: n, Kids: kids}
}

// exprs has an ordinary expression of each Op, in their order.
func exprs() []api.Expr {
	list := []api.Expr{
		number(7), of(api.OpTrue), of(api.OpFalse), variable("m", "x"),
		of(api.OpNot, variable("m", "b")), of(api.OpNeg, variable("m", "x")), times(3, variable("m", "y")),
	}
	for op := api.OpAdd; op <= api.OpOr; op++ {
		list = append(list, of(op, variable("m", "x"), number(int64(op))))
	}
	return list
}

// stmts has ordinary statements of each Kind, in their order.
func stmts() []api.Stmt {
	skip := func() []api.Stmt { return []api.Stmt{{Kind: api.StSkip}} }
	return []api.Stmt{
		{Kind: api.StSkip},
		{Kind: api.StSet, Mon: "m", Name: "x", E: of(api.OpAdd, variable("m", "x"), number(1))},
		{Kind: api.StIf, E: variable("m", "b"), Blocks: [][]api.Stmt{skip()}},
		{Kind: api.StIf, E: variable("m", "b"), Blocks: [][]api.Stmt{skip(), {}}},
		{Kind: api.StWhile, E: of(api.OpTrue), Blocks: [][]api.Stmt{skip()}},
		{Kind: api.StLoop, Blocks: [][]api.Stmt{{}}},
		{Kind: api.StChoose, Blocks: [][]api.Stmt{skip(), {}, skip()}},
		{Kind: api.StSync, Mon: "m", Blocks: [][]api.Stmt{skip()}},
		{Kind: api.StCall, Mon: "m", Name: "put"},
		{Kind: api.StWait, Mon: "m"},
		{Kind: api.StWait, Mon: "m", N: 5},
		{Kind: api.StNotify, Mon: "m"},
		{Kind: api.StAll, Mon: "m"},
	}
}

// program is one with all Types, Kinds and Ops, some of them deep inside.
func program() api.Program {
	body := stmts()
	for _, e := range exprs() {
		inner := []api.Stmt{{Kind: api.StSet, Mon: "m", Name: "x", E: e}}
		body = append(body, api.Stmt{Kind: api.StWhile, E: of(api.OpNot, e), Blocks: [][]api.Stmt{inner}})
	}
	vars := []api.Var{
		{Name: "b", Type: api.TyBool, Init: 1},
		{Name: "x", Type: api.TyInt, Init: -9},
		{Name: "y", Type: api.TyRange, Lo: -3, Hi: 4, Init: 2},
	}
	return api.Program{
		Mons: []api.Monitor{
			{Name: "m", Vars: vars, Methods: []api.Method{{Name: "put", Body: body}, {Name: "get"}}},
			{Name: "n"},
		},
		Roles: []api.Role{
			{Name: "one", Count: 1, Body: []api.Stmt{{Kind: api.StCall, Mon: "m", Name: "get"}}},
			{Name: "any", Star: true, Body: stmts()},
		},
	}
}

// role is a program of one thread that does these.
func role(body ...api.Stmt) api.Program {
	return api.Program{Roles: []api.Role{{Name: "r", Count: 1, Body: body}}}
}

// copied is what v is, in memory of its own.
func copied[T any](t testing.TB, v T) T {
	t.Helper()
	return copyOf(reflect.ValueOf(v)).Interface().(T)
}

// copyOf copies lists with their spare room, and what stands in it.
func copyOf(v reflect.Value) reflect.Value {
	out := reflect.New(v.Type()).Elem()
	switch v.Kind() {
	case reflect.Struct:
		for i := range v.NumField() {
			out.Field(i).Set(copyOf(v.Field(i)))
		}
	case reflect.Slice:
		if v.IsNil() {
			return out
		}
		all := v.Slice(0, v.Cap())
		list := reflect.MakeSlice(v.Type(), v.Cap(), v.Cap())
		for i := range v.Cap() {
			list.Index(i).Set(copyOf(all.Index(i)))
		}
		out.Set(list.Slice(0, v.Len()))
	default:
		out.Set(v)
	}
	return out
}

// eachField calls do for every number, text and bool in v, at any depth, with where it is.
func eachField(v reflect.Value, where string, do func(where string, field reflect.Value)) {
	switch v.Kind() {
	case reflect.Struct:
		for i := range v.NumField() {
			eachField(v.Field(i), where+"."+v.Type().Field(i).Name, do)
		}
	case reflect.Slice:
		for i := range v.Len() {
			eachField(v.Index(i), where+"["+string(rune('0'+i%10))+"]", do)
		}
	default:
		do(where, v)
	}
}

// eachList calls do for every list in v, at any depth, with where it is.
func eachList(v reflect.Value, where string, do func(where string, list reflect.Value)) {
	switch v.Kind() {
	case reflect.Struct:
		for i := range v.NumField() {
			eachList(v.Field(i), where+"."+v.Type().Field(i).Name, do)
		}
	case reflect.Slice:
		do(where, v)
		for i := range v.Len() {
			eachList(v.Index(i), where+"["+string(rune('0'+i%10))+"]", do)
		}
	}
}

// moved is v with other places throughout.
func moved[T any](t testing.TB, v T) T {
	t.Helper()
	v = copied(t, v)
	place := 0
	eachField(reflect.ValueOf(&v).Elem(), "", func(where string, f reflect.Value) {
		if isPlace(where) {
			place = place*7 + 3
			f.SetInt(int64(place%1001 - 500))
		}
	})
	return v
}

func isPlace(where string) bool {
	return len(where) >= 3 && where[len(where)-3:] == ".At"
}
