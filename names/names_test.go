package names_test

import (
	"fmt"
	"reflect"
	"slices"
	"testing"

	"vigil/api"
	"vigil/names"
)

func wantMonitor(t testing.TB, p api.Program, mon string, at int, ok bool) {
	t.Helper()
	if gotAt, gotOK := names.Monitor(p, mon); gotAt != at || gotOK != ok {
		t.Errorf("Monitor(%q): %d, %v, want %d, %v", mon, gotAt, gotOK, at, ok)
	}
}

func wantSlot(t testing.TB, p api.Program, mon, name string, at int, ok bool) {
	t.Helper()
	if gotAt, gotOK := names.Slot(p, mon, name); gotAt != at || gotOK != ok {
		t.Errorf("Slot(%q, %q): %d, %v, want %d, %v", mon, name, gotAt, gotOK, at, ok)
	}
}

// wantMethod holds Method against the one at a place of a monitor; of a monitor below 0 there is none.
func wantMethod(t testing.TB, p api.Program, mon, name string, inMon, at int) {
	t.Helper()
	var want api.Method
	if inMon >= 0 {
		want = p.Mons[inMon].Methods[at]
	}
	if got, ok := names.Method(p, mon, name); !reflect.DeepEqual(got, want) || ok != (inMon >= 0) {
		t.Errorf("Method(%q, %q): %+v, %v, want %+v", mon, name, got, ok, want)
	}
}

// TestLookups: P6.1, of a program whose names are right.
func TestLookups(t *testing.T) {
	p := parsed(t, sample())
	for i, mon := range []string{"M", "N", "E"} {
		wantMonitor(t, p, mon, i, true)
	}
	wantSlot(t, p, "M", "a", 0, true)
	wantSlot(t, p, "M", "b", 1, true)
	wantSlot(t, p, "N", "a", 2, true)
	wantMethod(t, p, "M", "f", 0, 0)
	wantMethod(t, p, "M", "g", 0, 1)
	wantMethod(t, p, "N", "M", 1, 0)
	want := []api.Var{p.Mons[0].Vars[0], p.Mons[0].Vars[1], p.Mons[1].Vars[0]}
	if got := names.Slots(p); !slices.Equal(got, want) {
		t.Errorf("Slots: %+v", got)
	}
}

// TestLookupsNone: P6.1, of names that there are not, or that are those of other things.
func TestLookupsNone(t *testing.T) {
	p := parsed(t, sample())
	for _, mon := range []string{"", "m", "t", "a", "f", "MM", "M.a", "if", "E "} {
		wantMonitor(t, p, mon, 0, false)
		wantSlot(t, p, mon, "a", 0, false)
		wantMethod(t, p, mon, "f", -1, 0)
	}
	for _, r := range []api.Ref{{Mon: "M", Name: "f"}, {Mon: "M", Name: "c"}, {Mon: "M", Name: ""}, {Mon: "N", Name: "b"}, {Mon: "N", Name: "M"}, {Mon: "E", Name: "a"}, {Mon: "M", Name: "M"}} {
		wantSlot(t, p, r.Mon, r.Name, 0, false)
	}
	for _, r := range []api.Ref{{Mon: "M", Name: "a"}, {Mon: "N", Name: "f"}, {Mon: "E", Name: "f"}, {Mon: "M", Name: "M"}, {Mon: "M", Name: ""}, {Mon: "N", Name: "N"}} {
		wantMethod(t, p, r.Mon, r.Name, -1, 0)
	}
	for _, p := range []api.Program{{}, {Mons: []api.Monitor{{Name: "M"}}}, parsed(t, "thread M 1 { }")} {
		wantMonitor(t, p, "M", 0, len(p.Mons) > 0)
		wantSlot(t, p, "M", "a", 0, false)
		wantMethod(t, p, "M", "f", -1, 0)
		if l := names.Slots(p); len(l) != 0 {
			t.Errorf("Slots: %+v", l)
		}
	}
}

// TestLookupsFirst: P6.1, of names that are there several times: the first one, of the first monitor.
func TestLookupsFirst(t *testing.T) {
	p := parsed(t, `monitor L { var x : int = 9; }
monitor M { var x : int = 1; var y : int = 2; var x : int = 3; method f { skip; } method x { } method f { } }
monitor M { var x : int = 4; var z : int = 5; method g { } method f { } }
monitor N { var y : int = 6; method y { notify N; } }`)
	wantMonitor(t, p, "M", 1, true)
	wantMonitor(t, p, "N", 3, true)
	wantSlot(t, p, "M", "x", 1, true)
	wantSlot(t, p, "M", "y", 2, true)
	wantSlot(t, p, "M", "z", 0, false)
	wantSlot(t, p, "N", "y", 6, true)
	wantMethod(t, p, "M", "f", 1, 0)
	wantMethod(t, p, "M", "x", 1, 1)
	wantMethod(t, p, "M", "g", -1, 0)
	wantMethod(t, p, "N", "y", 3, 0)
	if got := names.Slots(p); len(got) != 7 || got[3].Init != 3 || got[5].Init != 5 {
		t.Errorf("Slots: %+v", got)
	}
}

// TestLookupsNoShape: P6.1 of what is no program, too: names that are none, more than there may be.
func TestLookupsNoShape(t *testing.T) {
	p := api.Program{}
	for i := range 3 * api.MaxMons {
		m := api.Monitor{Name: fmt.Sprint(i)}
		for k := range 2 * api.MaxVars {
			m.Vars = append(m.Vars, api.Var{Name: fmt.Sprint(k), Type: 77, Init: int64(i), At: -k})
			m.Methods = append(m.Methods, api.Method{Name: fmt.Sprint(k), Body: []api.Stmt{{Kind: i}}, At: k})
		}
		p.Mons = append(p.Mons, m)
	}
	p.Mons = append(p.Mons, api.Monitor{Methods: []api.Method{{At: 5}}, Vars: []api.Var{{At: 6}}})
	all := names.Slots(p)
	for i := range 3 * api.MaxMons {
		wantMonitor(t, p, fmt.Sprint(i), i, true)
		for k := range 2 * api.MaxVars {
			slot := i*2*api.MaxVars + k
			wantSlot(t, p, fmt.Sprint(i), fmt.Sprint(k), slot, true)
			wantMethod(t, p, fmt.Sprint(i), fmt.Sprint(k), i, k)
			if all[slot] != p.Mons[i].Vars[k] {
				t.Errorf("Slots: %+v at %d", all[slot], slot)
			}
		}
	}
	wantMonitor(t, p, "", 3*api.MaxMons, true)
	wantSlot(t, p, "", "", len(all)-1, true)
	wantMethod(t, p, "", "", 3*api.MaxMons, 0)
}

// TestNothingChanges: what is handed in stays as it is, its spare room too, and what is answered has lists of its own.
func TestNothingChanges(t *testing.T) {
	vars := []api.Var{{Name: "x", Type: api.TyInt}, {Name: "spare"}}
	body := []api.Stmt{{Kind: api.StSkip}, {Kind: 77}}
	p := api.Program{Mons: []api.Monitor{{Name: "m", Vars: vars[:1], Methods: []api.Method{{Name: "f", Body: body[:1]}}}}}
	slots := names.Slots(p)
	f, _ := names.Method(p, "m", "f")
	wantCheck(t, "one monitor", p, api.OK, 0)
	slots[0].Name, f.Body[0].Kind = "other", 88
	slots, f.Body = append(slots, api.Var{}), append(f.Body, api.Stmt{})
	if vars[0].Name != "x" || vars[1].Name != "spare" || body[0].Kind != api.StSkip || body[1].Kind != 77 {
		t.Errorf("%+v, %+v", vars, body)
	}
	again := names.Slots(p)
	vars[0].Name = "changed"
	if again[0].Name != "x" || slots[0].Name != "other" {
		t.Errorf("%+v, %+v", again, slots)
	}
}

// TestSameEachTime: nothing hangs on the order in which a map is gone through, and no program is changed.
func TestSameEachTime(t *testing.T) {
	for seed := range uint64(300) {
		p := newChance(seed, 8).program()
		err, at := names.Check(p)
		for range 3 {
			wantCheck(t, fmt.Sprint("seed ", seed), p, err, at)
		}
		if !reflect.DeepEqual(p, newChance(seed, 8).program()) {
			t.Fatalf("seed %d: another program", seed)
		}
	}
}
