package flow_test

import (
	"fmt"
	"reflect"
	"slices"
	"strings"
	"testing"

	"vigil/api"
	"vigil/flow"
)

// flowNames are the names of flows, those of stars with a * behind them.
func flowNames(l []api.Flow) []string {
	var all []string
	for _, f := range l {
		all = append(all, f.Name+strings.Repeat("*", btoi(f.Star)))
	}
	return all
}

// TestFlowsNames: P12.3: who has how many flows, and their names.
func TestFlowsNames(t *testing.T) {
	for s, want := range map[string]string{
		"": "", declares: "", "thread t 1 { }": "t", "thread t * { }": "t*", "thread t 2 { }": "t.1 t.2", "thread t 8 { skip; }": "t.1 t.2 t.3 t.4 t.5 t.6 t.7 t.8",
		"thread r 1 { } thread s * { } thread t 3 { } thread u * { } thread q 1 { }":                                              "r s* t.1 t.2 t.3 u* q",
		"thread b 2 { } monitor m { } thread a 2 { }":                                                                             "b.1 b.2 a.1 a.2",
		"thread a * { } thread b * { } thread c * { } thread d * { } thread e * { } thread f * { } thread g * { } thread h 2 { }": "a* b* c* d* e* f* g* h.1 h.2",
	} {
		l, err, at := flow.Flows(parsed(t, s))
		if got := flowNames(l); err != api.OK || at != 0 || !slices.Equal(got, strings.Fields(want)) {
			t.Errorf("%s: error %d at %d, %q, want %s", s, err, at, got, want)
		}
	}
}

// TestFlowsAlike: P12.3: each flow is what Lower tells of its role, and no two share lists.
func TestFlowsAlike(t *testing.T) {
	p := parsed(t, declares+"thread r 3 { call a.g; sync c { wait c; } } thread s * { skip; }")
	l, err, _ := flow.Flows(p)
	if err != api.OK || len(l) != 4 {
		t.Fatal(err, len(l))
	}
	for i, f := range l {
		want, err := flow.Lower(p, p.Roles[i/3].Body)
		want.Name, want.Star = []string{"r.1", "r.2", "r.3", "s"}[i], i == 3
		if err != api.OK || !reflect.DeepEqual(f, want) {
			t.Errorf("%d: error %d, %+v, want %+v", i, err, f, want)
		}
	}
	l[0].Edges[0].To, l[0].Guards[0].Mon = 99, 99
	_, _ = append(l[0].Edges[:1], api.Edge{At: 99}), append(l[0].Guards[:1], api.Guard{Mon: 99})
	if l[1].Edges[0].To == 99 || l[1].Edges[1].At == 99 || l[1].Guards[0].Mon == 99 || l[1].Guards[1].Mon == 99 || !reflect.DeepEqual(l[1].Edges, l[2].Edges) {
		t.Error("flows share their lists")
	}
}

// TestFlowsErrors: P12.3: own.Check's error and place, ahead of a role that is too wide.
func TestFlowsErrors(t *testing.T) {
	wide := "thread w 1 { " + strings.Repeat("if true { } ", 200) + "} "
	for _, before := range []string{"", wide} {
		wantWrong(t, before+"monitor m { } monitor @m { }", api.ErrTwice)
		wantWrong(t, before+"thread @t 9 { }", api.ErrMany)
		wantWrong(t, before+"thread @t 0 { }", api.ErrMany)
		wantWrong(t, before+"thread t 1 { @notify m; }", api.ErrUnknown)
		wantWrong(t, before+"thread t 1 { @call m.f; } monitor m { }", api.ErrUnknown)
		wantWrong(t, before+"monitor m { var @n : 0..3 = 4; }", api.ErrRange)
		wantWrong(t, before+"thread t 1 { if @1 { } }", api.ErrType)
		wantWrong(t, before+"monitor m { method @f { call m.f; } }", api.ErrCycle)
		wantWrong(t, before+"thread @t 1 { "+strings.Repeat("skip; ", 401)+"}", api.ErrBig)
		wantWrong(t, before+"monitor m { } thread t 1 { skip; @notify m; }", api.ErrOwn)
		wantWrong(t, before+"monitor m { } monitor n { method f { @wait m; } }", api.ErrOwn)
		wantWrong(t, before+"monitor m { } monitor n { var b : bool = true; method f { sync m { while @n.b { wait m; } } } }", api.ErrPure)
	}
	for _, p := range []api.Program{{Roles: make([]api.Role, 1)}, {Mons: make([]api.Monitor, 9)}, {Roles: []api.Role{{Name: "r", Count: 1, Body: []api.Stmt{{}}, At: 5}}}} {
		if l, err, at := flow.Flows(p); err != api.ErrShape || at != 0 || l != nil {
			t.Errorf("%+v: error %d at %d, %d flows", p, err, at, len(l))
		}
	}
}

// TestFlowsWide: P12.3: ErrWide at the first role that is too wide, beside which there are no flows; what a method asks for counts where it is called alone.
func TestFlowsWide(t *testing.T) {
	body := func(ifs, skips int) string {
		return "{ " + strings.Repeat("if true { } ", ifs) + strings.Repeat("skip; ", skips) + "} "
	}
	wantWrong(t, "thread @t 1 "+body(199, 3), api.ErrWide)
	wantWrong(t, "thread @t * "+body(400, 0), api.ErrWide)
	wantWrong(t, "thread @t 8 "+body(200, 0), api.ErrWide)
	wantWrong(t, "thread a 2 "+body(199, 2)+"thread b * { } thread @c 1 "+body(199, 3)+"thread d 1 "+body(200, 0), api.ErrWide)
	method := "monitor m { method f " + body(110, 0) + "} "
	wantWrong(t, method+"thread a 1 { call m.f; } thread @b 1 { call m.f; call m.f; }", api.ErrWide)
	l, err, at := flow.Flows(parsed(t, "monitor m { method f "+body(250, 0)+"} thread t 2 "+body(199, 2)))
	if err != api.OK || at != 0 || len(l) != 2 || l[1].Locs != 600 {
		t.Error(err, at, len(l))
	}
}

// TestFlowsSame: what Flows and Lower tell hangs on their arguments alone, which they leave as they are.
func TestFlowsSame(t *testing.T) {
	for seed := range uint64(300) {
		p, same := newChance(seed).program(), newChance(seed).program()
		l, err, at := flow.Flows(p)
		again, againErr, againAt := flow.Flows(same)
		if !reflect.DeepEqual(l, again) || err != againErr || at != againAt {
			t.Fatalf("seed %d: error %d at %d, then %d at %d", seed, err, at, againErr, againAt)
		}
		if fmt.Sprintf("%+v", p) != fmt.Sprintf("%+v", newChance(seed).program()) {
			t.Fatalf("seed %d: %+v", seed, p)
		}
	}
	// The room behind a list that is handed in stays, too.
	room := append(skips(1), api.Stmt{Kind: 77, At: 7}, api.Stmt{Kind: 78})
	if f, err := flow.Lower(parsed(t, declares), room[:1]); err != api.OK || f.Locs != 2 || room[1].At != 7 || room[2].Kind != 78 {
		t.Error(err, f, room)
	}
}
