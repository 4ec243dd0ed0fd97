package types_test

import (
	"slices"
	"strings"

	"vigil/api"
	"vigil/names"
)

// What Type and Check must tell, once more, by other means: an expression's parts are laid in a row, kids ahead of what they are kids of, and gone through with a stack of what they are.

// kinds has of each Op what it is, and what its kids must be: b a bool, n a number, x and another x the same.
const kinds = `
1 n
2 b
3 b
5 b b
6 n n
7 n n
8 n n n
9 n n n
10 b x x
11 b x x
12 b n n
13 b n n
14 b n n
15 b n n
16 b b b
17 b b b
`

func kindOf(op int) []string {
	for line := range strings.Lines(strings.TrimSpace(kinds)) {
		words := strings.Fields(line)
		if words[0] == number(op) {
			return words[1:]
		}
	}
	return nil
}

func number(n int) string {
	if n < 10 {
		return string(rune('0' + n))
	}
	return number(n/10) + number(n%10)
}

// row lays an expression's parts in a row: the reverse of the order in which each one stands ahead of its kids, from the right.
func row(e api.Expr) []api.Expr {
	var l []api.Expr
	for open := []api.Expr{e}; len(open) > 0; {
		x := open[len(open)-1]
		open = append(open[:len(open)-1], x.Kids...)
		l = append(l, x)
	}
	slices.Reverse(l)
	return l
}

// variables has the type of each variable by both its names, the first one of several.
func variables(p api.Program) map[api.Ref]string {
	all := map[api.Ref]string{}
	for i, m := range slices.Backward(p.Mons) {
		for r := range all {
			if r.Mon == m.Name {
				delete(all, r)
			}
		}
		for _, v := range slices.Backward(p.Mons[i].Vars) {
			all[api.Ref{Mon: m.Name, Name: v.Name}] = "b"
			if v.Type == api.TyInt || v.Type == api.TyRange {
				all[api.Ref{Mon: m.Name, Name: v.Name}] = "n"
			}
		}
	}
	return all
}

// typed is what Type must tell of an expression of the right shape.
func typed(p api.Program, e api.Expr) (int, api.Errno, int) {
	known := variables(p)
	var stack []string
	for _, x := range row(e) {
		if x.Op == api.OpVar {
			is := known[api.Ref{Mon: x.Mon, Name: x.Name}]
			if is == "" {
				return 0, api.ErrUnknown, x.At
			}
			stack = append(stack, is)
			continue
		}
		kind := kindOf(x.Op)
		kids := stack[len(stack)-len(x.Kids):]
		for i, is := range kids {
			if must := kind[i+1]; must != is && (must != "x" || is != kids[0]) {
				return 0, api.ErrType, x.Kids[i].At
			}
		}
		stack = append(stack[:len(stack)-len(kids)], kind[0])
	}
	if stack[0] == "b" {
		return api.TyBool, api.OK, 0
	}
	return api.TyInt, api.OK, 0
}

// task is an expression of a program, and what it must be.
type task struct {
	e  api.Expr
	is int
}

// tasks are those of a block, in order.
func tasks(p api.Program, block []api.Stmt) []task {
	var all []task
	for _, s := range block {
		switch {
		case s.Kind == api.StSet && variables(p)[api.Ref{Mon: s.Mon, Name: s.Name}] == "n":
			all = append(all, task{s.E, api.TyInt})
		case s.Kind == api.StSet, s.Kind == api.StIf, s.Kind == api.StWhile:
			all = append(all, task{s.E, api.TyBool})
		}
		for _, b := range s.Blocks {
			all = append(all, tasks(p, b)...)
		}
	}
	return all
}

// allTasks are those of a program, in order.
func allTasks(p api.Program) []task {
	var all []task
	for _, m := range p.Mons {
		for _, f := range m.Methods {
			all = append(all, tasks(p, f.Body)...)
		}
	}
	for _, r := range p.Roles {
		all = append(all, tasks(p, r.Body)...)
	}
	return all
}

// checked is what Check must tell.
func checked(p api.Program) (api.Errno, int) {
	if err, at := names.Check(p); err != api.OK {
		return err, at
	}
	for _, v := range names.Slots(p) {
		if v.Type == api.TyRange && max(v.Lo, min(v.Hi, v.Init)) != v.Init {
			return api.ErrRange, v.At
		}
	}
	for _, x := range allTasks(p) {
		is, err, at := typed(p, x.e)
		if err != api.OK {
			return err, at
		}
		if is != x.is {
			return api.ErrType, x.e.At
		}
	}
	return api.OK, 0
}
