package calls_test

import (
	"fmt"
	"reflect"
	"slices"
	"strings"
	"testing"

	"vigil/api"
	"vigil/calls"
	"vigil/tree"
)

// TestInline: P8.3: each call is its method's Body, inlined, within its monitor; all else stays.
func TestInline(t *testing.T) {
	p := parsed(t, declares)
	for s, want := range map[string]string{
		"": "", "skip;": "skip;", "call M.e;": "sync M { }", "call M.f;": "sync M { skip; }", "call M.g;": "sync M { sync M { skip; } sync M { skip; } }",
		"call N.h;": "sync N { if true { sync M { sync M { skip; } sync M { skip; } } } else { sync N { skip; skip; } skip; } }",
		"M.x = 1 + M.y; wait M 7; wait N; notify M; notifyall N;": "M.x = 1 + M.y; wait M 7; wait N; notify M; notifyall N;",
		"if M.a { call M.e; } else { call M.f; skip; }":           "if M.a { sync M { } } else { sync M { skip; } skip; }",
		"while M.a < 2 { call M.e; }":                             "while M.a < 2 { sync M { } }",
		"loop { call N.f; loop { } }":                             "loop { sync N { skip; skip; } loop { } }",
		"choose { } or { call M.e; } or { call M.f; }":            "choose { } or { sync M { } } or { sync M { skip; } }",
		"sync N { sync M { call M.e; } call N.f; }":               "sync N { sync M { sync M { } } sync N { skip; skip; } }",
		"skip; call M.f; skip; call M.f; notify M;":               "skip; sync M { skip; } skip; sync M { skip; } notify M;",
	} {
		wantInline(t, p, s, want)
	}
}

// TestInlineFields: P8.3, field by field: what is put in the place of a call has its Mon and At and nothing else, what is no call keeps all that it has.
func TestInlineFields(t *testing.T) {
	x := api.Expr{Op: api.OpNot, Kids: []api.Expr{{Op: api.OpVar, Mon: "M", Name: "x", At: -3}}, At: 4}
	none := api.Expr{At: 77}
	body := []api.Stmt{{Kind: api.StSet, Mon: "M", Name: "x", E: x, At: 5}, {Kind: api.StCall, Mon: "N", Name: "g", E: none, At: -6}}
	p := api.Program{Mons: []api.Monitor{
		{Name: "M", Methods: []api.Method{{Name: "f", Body: body, At: 88}}, At: 88},
		{Name: "N", Methods: []api.Method{{Name: "g", At: 88}}, At: 88},
	}}
	call := func(at int) api.Stmt { return api.Stmt{Kind: api.StCall, Mon: "M", Name: "f", E: none, At: at} }
	put := func(at int) api.Stmt {
		empty := api.Stmt{Kind: api.StSync, Mon: "N", Blocks: [][]api.Stmt{nil}, At: -6}
		return api.Stmt{Kind: api.StSync, Mon: "M", Blocks: [][]api.Stmt{{body[0], empty}}, At: at}
	}
	around := func(inner func(at int) api.Stmt) []api.Stmt {
		return []api.Stmt{
			{Kind: api.StSkip, E: none, At: 10}, {Kind: api.StSet, Mon: "M", Name: "x", E: x, At: 11},
			{Kind: api.StIf, E: x, Blocks: [][]api.Stmt{{inner(1)}, {inner(2), inner(3)}}, At: 12}, {Kind: api.StIf, E: x, Blocks: [][]api.Stmt{nil}, At: 13},
			{Kind: api.StWhile, E: x, Blocks: [][]api.Stmt{{inner(0)}}, At: 14}, {Kind: api.StLoop, E: none, Blocks: [][]api.Stmt{{inner(-1 << 62)}}, At: 15},
			{Kind: api.StChoose, Blocks: [][]api.Stmt{nil, {inner(1 << 62)}, nil}, At: 16}, {Kind: api.StSync, Mon: "N", E: none, Blocks: [][]api.Stmt{{inner(7)}}, At: 17},
			inner(18), {Kind: api.StWait, Mon: "M", N: 9, E: none, At: 19}, {Kind: api.StNotify, Mon: "N", E: none, At: -20}, {Kind: api.StAll, Mon: "N", At: 0},
		}
	}
	in, err := calls.Inline(p, around(call))
	if want := around(put); err != api.OK || !reflect.DeepEqual(in, want) {
		t.Errorf("error %d\n%+v\n%+v", err, in, want)
	}
	wantCount(t, "all kinds", p, around(call), 11+8*3, api.OK)
}

// TestByLines: P8.2, P8.3, P8.5, P8.6, of programs that were made at random, against lines that give way to others.
func TestByLines(t *testing.T) {
	told, called := map[api.Errno]int{}, 0
	for seed := range uint64(8000) {
		c := newChance(seed, []int{3, 10, 30, 100, 1 << 30}[seed%5])
		p := c.program()
		l := c.block(0, 3)
		want, n, err := counted(t, p, l)
		wantCount(t, fmt.Sprintf("seed %d: %+v", seed, l), p, l, n, err)
		told[err]++
		if err != api.OK {
			continue
		}
		called += min(len(calls.Calls(l)), 1)
		wantLines(t, seed, p, l, want)
	}
	for _, err := range []api.Errno{api.OK, api.ErrUnknown, api.ErrCycle, api.ErrBig} {
		if told[err] < 100 {
			t.Errorf("error %d: %d times", err, told[err])
		}
	}
	if called < 1000 {
		t.Error(called)
	}
}

// wantLines holds Inline against lines, their places too.
func wantLines(t *testing.T, seed uint64, p api.Program, l []api.Stmt, want []line) {
	t.Helper()
	in, _ := calls.Inline(p, l)
	var text []string
	var places []int
	for _, x := range want {
		text = append(text, x.text)
		if x.stmt {
			places = append(places, x.at)
		}
	}
	var got []int
	for _, s := range ordered(in) {
		got = append(got, s.At)
	}
	if !tree.SameStmts(in, stmts(t, strings.Join(text, "\n"))) || !slices.Equal(got, places) {
		t.Errorf("seed %d: %+v, want %q", seed, in, text)
	}
}

// TestInlineParts: P8.3: a list's Inline is that of its parts, one behind the other.
func TestInlineParts(t *testing.T) {
	for seed := range uint64(1000) {
		c := newChance(seed, 1<<30)
		p := c.program()
		l := c.block(0, 3)
		whole, err := calls.Inline(p, l)
		if err != api.OK {
			continue
		}
		var parts []api.Stmt
		n := 0
		for i := range l {
			one, err := calls.Inline(p, l[i:i+1])
			size, _ := calls.Count(p, l[i:i+1])
			if err != api.OK || len(one) != 1 {
				t.Fatalf("seed %d: %d, %+v", seed, err, one)
			}
			parts = append(parts, one...)
			n += size
		}
		if !reflect.DeepEqual(parts, whole) {
			t.Errorf("seed %d: %+v, %+v", seed, parts, whole)
		}
		wantCount(t, fmt.Sprint("seed ", seed), p, l, n, api.OK)
	}
}

// TestInlineNew: the lists of what is inlined are new ones: nobody who grows or fills one of them meets another one, or what was handed in.
func TestInlineNew(t *testing.T) {
	p := parsed(t, "monitor M { method f { loop { skip; } } method g { call M.f; call M.f; } }")
	l := stmts(t, "call M.f; call M.f; call M.g; loop { skip; }")
	want, _ := calls.Inline(p, l)
	in, _ := calls.Inline(p, l)
	spoilt := map[*api.Stmt]int{}
	var spoil func(list []api.Stmt)
	spoil = func(list []api.Stmt) {
		for i := range list {
			for _, b := range list[i].Blocks {
				spoil(b)
			}
			spoilt[&list[i]]++
			list[i].Kind = -1
		}
		_ = append(list, api.Stmt{Kind: -2})
	}
	spoil(in)
	if len(spoilt) != 15 {
		t.Errorf("%d statements of their own", len(spoilt))
	}
	if again, err := calls.Inline(p, l); err != api.OK || !reflect.DeepEqual(again, want) {
		t.Errorf("%d, %+v, want %+v", err, again, want)
	}
	if calls.Calls(l)[0].Name != "f" || p.Mons[0].Methods[0].Body[0].Kind != api.StLoop {
		t.Error("changed")
	}
}

// TestNothingChanges: what is handed in stays as it is, its spare room too; the same is told each time.
func TestNothingChanges(t *testing.T) {
	for seed := range uint64(300) {
		c, d := newChance(seed, 20), newChance(seed, 20)
		p, l := c.program(), c.block(0, 3)
		refs := calls.Calls(l)
		n, err := calls.Count(p, l)
		in, _ := calls.Inline(p, l)
		checkErr, checkAt := calls.Check(p)
		for range 3 {
			wantCount(t, fmt.Sprint("seed ", seed), p, l, n, err)
			wantCheck(t, fmt.Sprint("seed ", seed), p, checkErr, checkAt)
			if again, _ := calls.Inline(p, l); !reflect.DeepEqual(again, in) || !slices.Equal(calls.Calls(l), refs) {
				t.Fatalf("seed %d: something else is told", seed)
			}
		}
		if !reflect.DeepEqual(p, d.program()) || !reflect.DeepEqual(l, d.block(0, 3)) {
			t.Fatalf("seed %d: something has changed", seed)
		}
	}
	body := []api.Stmt{call("M", "g"), {Kind: 77}}
	inner := []api.Stmt{call("M", "f"), {Kind: 78}}
	blocks := [][]api.Stmt{inner[:1], {{Kind: 79}}}
	l := []api.Stmt{{Kind: api.StLoop, Blocks: blocks[:1]}, {Kind: 80}}
	p := api.Program{Mons: []api.Monitor{{Name: "M", Methods: []api.Method{{Name: "f", Body: body[:1]}, {Name: "g"}}}}}
	wantCount(t, "spare room", p, l[:1], 3, api.OK)
	wantCheck(t, "spare room", p, api.OK, 0)
	if body[1].Kind != 77 || inner[1].Kind != 78 || blocks[1][0].Kind != 79 || l[1].Kind != 80 || inner[0].Kind != api.StCall || body[0].Kind != api.StCall {
		t.Errorf("%+v, %+v, %+v, %+v", body, inner, blocks, l)
	}
}

// TestEmptyLists: nil and an empty list are the same.
func TestEmptyLists(t *testing.T) {
	p := parsed(t, "monitor M { method e { } method f { call M.e; if true { } else { } } }")
	q := parsed(t, "monitor M { method e { } method f { call M.e; if true { } else { } } }")
	q.Roles = []api.Role{}
	q.Mons[0].Vars = []api.Var{}
	q.Mons[0].Methods[0].Body = []api.Stmt{}
	q.Mons[0].Methods[1].Body[1].Blocks = [][]api.Stmt{{}, {}}
	q.Mons[0].Methods[1].Body[0].Blocks = [][]api.Stmt{}
	a, _ := calls.Inline(p, stmts(t, "call M.f;"))
	b, _ := calls.Inline(q, stmts(t, "call M.f;"))
	if !tree.SameStmts(a, b) {
		t.Errorf("%+v, %+v", a, b)
	}
	for _, l := range [][]api.Stmt{nil, {}} {
		wantCount(t, "nothing", q, l, 0, api.OK)
		if in, err := calls.Inline(q, l); len(in) != 0 || err != api.OK || len(calls.Calls(l)) != 0 {
			t.Error(in, err)
		}
	}
	wantCheck(t, "empty lists", q, api.OK, 0)
}
