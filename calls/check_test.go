package calls_test

import (
	"fmt"
	"strings"
	"testing"

	"vigil/api"
	"vigil/calls"
)

// TestCheckRight: P8.4, of programs in which all is right.
func TestCheckRight(t *testing.T) {
	for _, s := range []string{
		"", "monitor M { }", "thread t 1 { }", "monitor M { method f { } }", declares,
		declares + "thread t 2 { call N.h; loop { call M.g; } } thread s * { call M.e; call M.e; }",
		"thread t 1 { call M.f; } monitor M { method f { call M.g; call N.f; } method g { call N.f; } } monitor N { method f { } method g { call M.f; call M.g; } }",
		// Whoever calls in a ring of monitors is not in a cycle, unless the methods are.
		"monitor M { method f { call N.f; } method g { } } monitor N { method f { call M.g; } }",
	} {
		wantText(t, s, api.OK)
	}
}

// TestCheckTypes: P8.4: an error of types comes ahead of all cycles and sizes.
func TestCheckTypes(t *testing.T) {
	big := "thread b 1 { " + strings.Repeat("skip; ", 401) + "} "
	wrong := big + "monitor M { var n : 0..3 = 1; method f { call M.f; } } "
	wantText(t, wrong+"monitor @M { }", api.ErrTwice)
	wantText(t, wrong+"thread @t 9 { }", api.ErrMany)
	wantText(t, wrong+"thread t 1 { @call M.g; }", api.ErrUnknown)
	wantText(t, wrong+"thread t 1 { @call M.n; }", api.ErrUnknown)
	wantText(t, wrong+"monitor N { var @n : 0..3 = 4; }", api.ErrRange)
	wantText(t, wrong+"thread t 1 { if @1 { } }", api.ErrType)
	wantText(t, wrong+"monitor N { method g { M.n = @true; } }", api.ErrType)
	p := parsed(t, wrong)
	p.Roles[0].Body = append(p.Roles[0].Body, api.Stmt{At: 9})
	wantCheck(t, "no shape", p, api.ErrShape, 0)
	wantCheck(t, "no shape", api.Program{Mons: make([]api.Monitor, api.MaxMons+1)}, api.ErrShape, 0)
	wantCheck(t, "no shape", api.Program{Mons: []api.Monitor{{Name: "M", Methods: []api.Method{{Name: "f", Body: []api.Stmt{call("M", "")}, At: 4}}}}}, api.ErrShape, 0)
}

// TestCheckCycle: P8.4: ErrCycle, at the first method that is in a cycle, whether it is called or not.
func TestCheckCycle(t *testing.T) {
	for _, s := range []string{
		"monitor M { method @f { call M.f; } }",
		"monitor M { method @f { call M.g; } method g { call M.f; } }",
		"monitor M { method @f { skip; loop { if true { } else { while true { choose { } or { sync M { call M.f; } } } } } } }",
		"monitor M { method e { } method @f { call M.e; call M.e; call M.f; } }",
		"monitor M { method @f { call N.f; } } monitor N { method f { call M.f; } }",
		"monitor M { method f { } } monitor N { method g { call M.f; } method @f { call M.f; call N.f; } }",
		"monitor M { method @a { call M.b; } method b { call M.c; } method c { call M.d; } method d { call M.a; } }",
		// One that leads to a cycle is not in it.
		"monitor M { method h { call M.f; } method @f { call M.g; } method g { call M.f; } }",
		"monitor M { method h { call N.g; } } monitor N { method i { call M.h; } method @f { call N.g; } method g { call N.f; } }",
		"monitor M { method a { call M.b; } method b { call M.c; } method c { call M.d; } method @d { call M.d; } }",
		"monitor M { method a { call M.b; } method @b { call M.c; call M.d; } method c { call M.b; } method d { call M.d; } }",
		// Methods come in their order, monitor by monitor, wherever the roles stand and whatever they call.
		"thread t 1 { call N.g; } monitor M { method @f { call M.f; } } monitor N { method g { call N.g; } }",
		"monitor M { method e { } method @f { call M.f; } method g { call M.g; } } monitor N { method g { call N.g; } }",
		"monitor N { method @g { call N.g; } } monitor M { method f { call M.f; } }",
		// They come ahead of what is too big.
		"thread t 1 { " + strings.Repeat("skip; ", 401) + "} monitor M { method e { } method @f { call M.f; } }",
		"thread t 1 { call M.f; } monitor M { method @f { call M.f; } }",
	} {
		wantText(t, s, api.ErrCycle)
	}
}

// TestCheckBig: P8.4: ErrBig, at the first role that is too big, with all that it calls.
func TestCheckBig(t *testing.T) {
	skip := func(n int) string { return strings.Repeat("skip; ", n) }
	big := "monitor B { method half { " + skip(199) + "} method most { " + skip(399) + "} method over { " + skip(400) + "} method far { call B.over; call B.over; } } "
	for _, s := range []string{
		"thread @t 1 { " + skip(401) + "}", "thread s 1 { " + skip(400) + "} thread @t * { " + skip(401) + "} thread u 1 { " + skip(402) + "}",
		big + "thread @t 1 { call B.over; }", big + "thread @t 1 { skip; call B.most; }", big + "thread @t 1 { loop { call B.half; call B.half; } }",
		big + "thread s 1 { call B.half; } thread @t 8 { call B.far; } thread u 1 { call B.over; }",
		"thread s 1 { call B.most; } thread @t 1 { call B.half; call B.half; skip; } " + big,
	} {
		wantText(t, s, api.ErrBig)
	}
	for _, s := range []string{
		// A method may be as big as it likes, till a role calls it.
		big, big + "thread t 1 { call B.most; }", big + "thread t 1 { call B.half; call B.half; } thread s 1 { " + skip(400) + "}",
	} {
		wantText(t, s, api.OK)
	}
}

// TestCheckPlaces: P8.4: the place is what At says, whatever it is.
func TestCheckPlaces(t *testing.T) {
	for _, at := range []int{-1 << 62, -1, 0, 1, 1 << 62} {
		f := api.Method{Name: "f", Body: []api.Stmt{{Kind: api.StCall, Mon: "M", Name: "f", At: 3}}, At: at}
		wantCheck(t, "a cycle", api.Program{Mons: []api.Monitor{{Name: "M", Methods: []api.Method{f}, At: 5}}}, api.ErrCycle, at)
		wantCheck(t, "a role", api.Program{Roles: []api.Role{{Name: "r", Count: 1, Body: skips(401), At: at}}}, api.ErrBig, at)
	}
}

// TestCheckMany: P8.4, of as many methods as there may be: in a ring, in a chain, each with all behind it, each with all.
func TestCheckMany(t *testing.T) {
	p := chain(func(next api.Stmt) []api.Stmt { return []api.Stmt{next} })
	wantCheck(t, "a chain", p, api.OK, 0)
	var all []api.Stmt
	for i := range p.Mons {
		for k := range p.Mons[i].Methods {
			p.Mons[i].Methods[k].At = 1000*(i+1) + k
			all = append(all, call(p.Mons[i].Name, p.Mons[i].Methods[k].Name))
		}
	}
	for i := range all {
		q := chain(func(next api.Stmt) []api.Stmt { return []api.Stmt{next} })
		q.Mons[i/api.MaxMeths].Methods[i%api.MaxMeths].At = 55
		q.Mons[api.MaxMons-1].Methods[api.MaxMeths-1].Body = all[i : i+1]
		wantCheck(t, fmt.Sprint("a ring from ", i), q, api.ErrCycle, 55)
	}
	for i := range all {
		p.Mons[i/api.MaxMeths].Methods[i%api.MaxMeths].Body = all[i+1:]
	}
	wantCheck(t, "all behind", p, api.ErrBig, 7)
	p.Roles[0].Body = nil
	wantCheck(t, "all behind", p, api.OK, 0)
	p.Mons[5].Methods[6].Body = all
	wantCheck(t, "all behind, and one with all", p, api.ErrCycle, 1000)
	p.Mons[5].Methods[6].Body = all[5*api.MaxMeths+6:]
	wantCheck(t, "all behind, and one with itself", p, api.ErrCycle, 6006)
	for i := range all {
		p.Mons[i/api.MaxMeths].Methods[i%api.MaxMeths].Body = all
	}
	wantCheck(t, "all", p, api.ErrCycle, 1000)
}

// TestCheckByLines: P8.4, of programs that were made at random, against a table of who leads to whom, and lines that give way to others.
func TestCheckByLines(t *testing.T) {
	told := map[api.Errno]int{}
	for seed := range uint64(6000) {
		p := newChance(seed, []int{10, 30, 100, 300, 1 << 30}[seed%5]).program()
		err, at := checked(t, p)
		wantCheck(t, fmt.Sprintf("seed %d: %+v", seed, p), p, err, at)
		told[err]++
	}
	for _, err := range []api.Errno{api.OK, api.ErrUnknown, api.ErrCycle, api.ErrBig} {
		if told[err] < 100 {
			t.Errorf("error %d: %d times", err, told[err])
		}
	}
}

// TestCheckedIsInlined: P8.4, P8.5: where Check is OK, every role is inlined.
func TestCheckedIsInlined(t *testing.T) {
	right := 0
	for seed := range uint64(2000) {
		p := newChance(seed, 200).program()
		if err, _ := calls.Check(p); err != api.OK {
			continue
		}
		right++
		for _, r := range p.Roles {
			n, err := calls.Count(p, r.Body)
			if err != api.OK || n > api.MaxInline {
				t.Fatalf("seed %d: %d, error %d", seed, n, err)
			}
			wantCount(t, fmt.Sprint("seed ", seed), p, r.Body, n, api.OK)
		}
	}
	if right < 500 {
		t.Error(right)
	}
}
