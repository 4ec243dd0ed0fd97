package own_test

import (
	"fmt"
	"strings"
	"testing"

	"vigil/api"
	"vigil/calls"
	"vigil/own"
)

const declares = "monitor M { var x : int = 0; var b : bool = true; method m { M.x = 1; } } monitor N { var x : int = 0; var b : bool = true; method n { notify N; } } "

// TestCheckRight: P9.2, of programs in which all is right.
func TestCheckRight(t *testing.T) {
	for _, s := range []string{
		"", "monitor M { }", "thread t 1 { }", declares,
		declares + "thread t 2 { call M.m; sync N { call M.m; while N.b { wait N; } } } thread u * { loop { sync M { M.b = true; notifyall M; } } }",
		declares + "monitor O { var x : int = 0; method o { call M.m; sync M { O.x = M.x; while M.x == 0 { wait M; } } if O.x == 0 { wait O; } } }",
		"thread t 1 { sync M { notify M; } } monitor M { method f { notify M; } method g { sync M { wait M 3; } wait M; } }",
	} {
		wantText(t, s, api.OK)
	}
}

// TestCheckCalls: P9.2: an error of calls comes ahead of all that is not owned.
func TestCheckCalls(t *testing.T) {
	wrong := "monitor O { var n : 0..3 = 1; method f { notify M; } method g { wait M; } } monitor M { } thread r 1 { notify M; } "
	wantText(t, strings.Replace(wrong, "notify", "@notify", 1), api.ErrOwn)
	wantText(t, wrong+"monitor @M { }", api.ErrTwice)
	wantText(t, wrong+"thread @t 9 { }", api.ErrMany)
	wantText(t, wrong+"thread t 1 { @call M.g; }", api.ErrUnknown)
	wantText(t, wrong+"thread t 1 { @notify P; }", api.ErrUnknown)
	wantText(t, wrong+"monitor N { var @n : 0..3 = 4; }", api.ErrRange)
	wantText(t, wrong+"thread t 1 { if @1 { } }", api.ErrType)
	wantText(t, wrong+"monitor N { method e { } method @f { call N.f; } }", api.ErrCycle)
	wantText(t, wrong+"thread @t 1 { "+strings.Repeat("skip; ", 401)+"}", api.ErrBig)
	p := parsed(t, wrong)
	p.Roles[0].Body = append(p.Roles[0].Body, api.Stmt{At: 9})
	wantCheck(t, "no shape", p, api.ErrShape, 0)
	wantCheck(t, "no shape", api.Program{Mons: make([]api.Monitor, api.MaxMons+1)}, api.ErrShape, 0)
}

// TestCheckOwned: P9.2: a method owns its monitor and no other one, whoever calls it; a role owns nothing.
func TestCheckOwned(t *testing.T) {
	for _, s := range []string{
		"thread t 1 { @notify M; }", "thread t * { @M.x = 1; }", "thread t 1 { call M.m; @wait M; }", "thread t 1 { sync M { } sync N { @notifyall M; } }", "thread t 1 { if @N.b { sync N { } } }",
		"monitor O { method o { @notify M; } }", "monitor O { var x : int = 0; method o { O.x = @N.x; } }", "monitor O { method o { notify O; } method p { notify O; while @M.b { } } }",
		// Whoever calls a method with another monitor does not give it that one.
		"monitor O { method o { @notify M; } } monitor P { method p { sync M { call O.o; } } } thread t 1 { sync M { call O.o; call P.p; } }",
		"monitor O { method o { @notify M; } } thread t 1 { sync M { call O.o; } }",
		"monitor O { method o { sync M { call N.n; @notify N; } } }",
	} {
		wantText(t, declares+s, api.ErrOwn)
	}
	for _, s := range []string{
		"monitor O { var b : bool = true; method o { sync M { while @O.b { wait M; } } } }", "monitor O { var b : bool = true; method o { sync M { if @M.b { wait O; } } } }",
		"thread t 1 { sync M { sync N { if M.b && @N.b { wait M; } } } }", "thread t * { sync M { sync N { if @N.b { } else { wait M; } } } }",
	} {
		wantText(t, declares+s, api.ErrPure)
	}
}

// TestCheckFirst: P9.2: methods come in their order, monitor by monitor, then roles, wherever they stand in the text.
func TestCheckFirst(t *testing.T) {
	for _, s := range []string{
		"thread t 1 { notify M; } monitor M { } monitor N { method f { skip; @notify M; } method g { notify M; } }",
		"monitor M { method e { } method f { @notify N; } method g { notify N; } } monitor N { method f { notify M; } } thread t 1 { notify M; }",
		"monitor N { method f { @notify M; } } monitor M { method f { notify N; } }",
		"monitor M { method f { } method g { notify M; } } monitor N { method f { notify N; } method g { @notify M; } } thread t 1 { notify M; }",
		"thread s 1 { sync M { notify M; } } thread t 1 { @notify M; } thread u 1 { notify M; } monitor M { method f { notify M; } }",
		"thread t 1 { skip; @notify M; } monitor M { } thread u 1 { notify M; }",
	} {
		wantText(t, s, api.ErrOwn)
	}
	wantText(t, declares+"thread t 1 { notify M; } monitor O { var b : bool = true; method o { sync M { if @M.b { wait O; } notify N; } } }", api.ErrPure)
}

// TestCheckUpward: P9.2, of programs that were made at random, against going upward from each statement.
func TestCheckUpward(t *testing.T) {
	told := map[api.Errno]int{}
	for seed := range uint64(20000) {
		p := newChance(seed, []int{10, 30, 100, 1 << 30}[seed%4], []int{100, 1 << 30}[seed%2]).program()
		err, at := checked(p)
		wantCheck(t, fmt.Sprint("seed ", seed), p, err, at)
		told[err]++
	}
	for _, err := range []api.Errno{api.OK, api.ErrShape, api.ErrOwn, api.ErrPure} {
		if told[err] < 500 {
			t.Errorf("error %d: %d times", err, told[err])
		}
	}
}

// TestCheckedInlined: P9.2, P9.3: where Check is OK, so is Scope of what each role is with the methods in the place of their calls: what is owned there is more.
func TestCheckedInlined(t *testing.T) {
	called := 0
	for seed := range uint64(6000) {
		c := newChance(seed, 100, 1<<30)
		p := c.program()
		for i := range p.Mons {
			p.Mons[i].Methods[0].Body = c.block([]string{p.Mons[i].Name}, 2)
		}
		if err, _ := own.Check(p); err != api.OK {
			continue
		}
		for _, r := range p.Roles {
			called += len(calls.Calls(r.Body))
			l, err := calls.Inline(p, r.Body)
			if err != api.OK {
				t.Fatalf("seed %d: error %d", seed, err)
			}
			wantScope(t, fmt.Sprint("seed ", seed), l, nil, api.OK, 0)
		}
	}
	if called < 1000 {
		t.Error(called)
	}
}

// TestCheckSame: what Check tells hangs on the program alone, and leaves it as it is.
func TestCheckSame(t *testing.T) {
	for seed := range uint64(300) {
		p, same := newChance(seed, 20, 50).program(), newChance(seed, 20, 50).program()
		err, at := own.Check(p)
		wantCheck(t, fmt.Sprint("seed ", seed), p, err, at)
		if fmt.Sprintf("%+v", p) != fmt.Sprintf("%+v", same) {
			t.Fatalf("seed %d: %+v, want %+v", seed, p, same)
		}
	}
}
