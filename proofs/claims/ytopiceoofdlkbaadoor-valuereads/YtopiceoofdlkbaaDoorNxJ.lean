/-
  first of package names, and the closures that it is handed; Monitor.
-/
import Derived.Test.YtopiceoofdlkbaaDoorNxI
namespace Go.Proofs.YtopiceoofdlkbaaDoor
open Go.RowKit
/-- Where the first one is, and whether there is one. -/
def FirstBack (o : Option Nat) (w w' : World) (r : Ending) : Prop := ((o = none ∧ r = .returned (.tuple #[.int .i64 0, .bool false])) ∨ (∃ i : Nat, o = some i ∧ r = .returned (.tuple #[.int .i64 (i : Int), .bool true]))) ∧ Below w.heap.size w w'
theorem FirstBack.no {f : FuncId} {args : Array Value} {o : Option Nat} {w : World} (h : Calls Tryd.prog f args w fun r w' => FirstBack o w w' r) (ho : o = none) : Calls Tryd.prog f args w fun r w' => r = .returned (.tuple #[.int .i64 0, .bool false]) ∧ Below w.heap.size w w' :=
  h.mono fun r w' hh => by
    rcases hh.1 with ⟨_, h2⟩ | ⟨a, h1, _⟩
    · exact ⟨h2, hh.2⟩
    · rw [ho] at h1; cases h1
theorem FirstBack.yes {f : FuncId} {args : Array Value} {o : Option Nat} {w : World} (h : Calls Tryd.prog f args w fun r w' => FirstBack o w w' r) {a : Nat} (ho : o = some a) : Calls Tryd.prog f args w fun r w' => r = .returned (.tuple #[.int .i64 (a : Int), .bool true]) ∧ Below w.heap.size w w' :=
  h.mono fun r w' hh => by
    rcases hh.1 with ⟨h1, _⟩ | ⟨a', h1, h2⟩
    · rw [ho] at h1; cases h1
    · rw [ho] at h1; cases h1; exact ⟨h2, hh.2⟩
theorem fidx_some {α : Type} (f : α → Bool) (l : List α) (j : Nat) (h : j < l.length) (hb : ∀ i (hi : i < l.length), i < j → f l[i] = false) (hj : f l[j] = true) : l.findIdx? f = some j := by
  rw [List.findIdx?_eq_some_iff_getElem]
  exact ⟨h, hj, fun i hi => by rw [hb i (by omega) hi]; simp⟩
theorem fidx_none {α : Type} (f : α → Bool) (l : List α) (hb : ∀ i (hi : i < l.length), f l[i] = false) : l.findIdx? f = none := by
  rw [List.findIdx?_eq_none_iff]
  intro x hx
  obtain ⟨i, hi, rfl⟩ := List.getElem_of_mem hx
  exact hb i hi
theorem fidx_lt {α : Type} {f : α → Bool} {l : List α} {j : Nat} (h : l.findIdx? f = some j) : j < l.length := by
  rw [List.findIdx?_eq_some_iff_getElem] at h
  exact h.1
theorem str_ne {a b : ByteArray} (h : ¬ a = b) : ¬ a.toList = b.toList := fun e => h (by
  rw [ByteArray.toList_eq, ByteArray.toList_eq] at e
  cases a; cases b
  congr 1
  exact Array.toList_inj.1 e)
set_option maxRecDepth 100000 in
set_option maxHeartbeats 2000000 in
theorem first35_any {α : Type} (f : α → Bool) (l : List α) (p1 p2 : Value) (w : World) (hlen : l.length ≤ 9223372036854775807)
    (hcl : ∀ (i : Nat) (h : i < l.length) (W : World), Below w.heap.size w W → Calls Tryd.prog 65 #[.int .i64 (i : Int), p1, p2] W fun r w' => r = .returned (.bool (f l[i])) ∧ Below W.heap.size W w') :
    Calls Tryd.prog 50 #[.int .i64 (l.length : Int), .func (.func 65) #[] #[p1, p2]] w fun r w' => FirstBack (l.findIdx? f) w w' r := by
  go_enter Tryd.func50, Tryd.ntmps50
  go_wp2
  go_loopw [8] (fun i wr => ∃ j : Nat, j ≤ l.length ∧ i = .int .i64 j ∧ Hid (∀ i (hi : i < l.length), i < j → f l[i] = false) ∧ Below w.heap.size w wr)
    (fun i _ => l.length - (intOf i).toNat)
  case atStart => exact ⟨0, by omega, rfl, (fun _ _ h => by omega), Below.refl _ _⟩
  case round =>
    obtain ⟨j, hj, rfl, HQ, hbw⟩ := hrel
    by_cases hlt : j < l.length
    · have hq := hcl j hlt wr hbw
      cases hf : f l[j]
      · rw [hf] at hq
        have HF := hid hf
        clear hf hcl
        go_wp2_with (go_at_call 65; (with_reducible refine hq.mono ?_); rintro r w1 ⟨rfl, hb1⟩)
        go_roundw
        case rel => exact ⟨j + 1, by omega, by go_num, (fun i hi h => by by_cases e : i = j; (subst e; exact HF.out); exact HQ.out i hi (by omega)), hbw.tr le_rfl' hb1⟩
        case measure => simp [intOf]; omega
      · rw [hf] at hq
        have HF := hid hf
        clear hf hcl
        go_wp2_with (go_at_call 65; (with_reducible refine hq.mono ?_); rintro r w1 ⟨rfl, hb1⟩)
        go_ret2
        exact ⟨.inr ⟨j, fidx_some f l j hlt HQ.out HF.out, rfl⟩, hbw.tr le_rfl' hb1⟩
    · have hjd : decide ((j : Int) < (l.length : Int)) = false := by simp; omega
      go_wp2
      go_ret2
      exact ⟨.inl ⟨fidx_none f l (fun i hi => HQ.out i hi (by omega)), rfl⟩, hbw⟩
set_option maxRecDepth 100000 in
set_option maxHeartbeats 2000000 in
theorem first36_any {α : Type} (f : α → Bool) (l : List α) (p1 p2 : Value) (w : World) (hlen : l.length ≤ 9223372036854775807)
    (hcl : ∀ (i : Nat) (h : i < l.length) (W : World), Below w.heap.size w W → Calls Tryd.prog 51 #[.int .i64 (i : Int), p1, p2] W fun r w' => r = .returned (.bool (f l[i])) ∧ Below W.heap.size W w') :
    Calls Tryd.prog 50 #[.int .i64 (l.length : Int), .func (.func 51) #[] #[p1, p2]] w fun r w' => FirstBack (l.findIdx? f) w w' r := by
  go_enter Tryd.func50, Tryd.ntmps50
  go_wp2
  go_loopw [8] (fun i wr => ∃ j : Nat, j ≤ l.length ∧ i = .int .i64 j ∧ Hid (∀ i (hi : i < l.length), i < j → f l[i] = false) ∧ Below w.heap.size w wr)
    (fun i _ => l.length - (intOf i).toNat)
  case atStart => exact ⟨0, by omega, rfl, (fun _ _ h => by omega), Below.refl _ _⟩
  case round =>
    obtain ⟨j, hj, rfl, HQ, hbw⟩ := hrel
    by_cases hlt : j < l.length
    · have hq := hcl j hlt wr hbw
      cases hf : f l[j]
      · rw [hf] at hq
        have HF := hid hf
        clear hf hcl
        go_wp2_with (go_at_call 51; (with_reducible refine hq.mono ?_); rintro r w1 ⟨rfl, hb1⟩)
        go_roundw
        case rel => exact ⟨j + 1, by omega, by go_num, (fun i hi h => by by_cases e : i = j; (subst e; exact HF.out); exact HQ.out i hi (by omega)), hbw.tr le_rfl' hb1⟩
        case measure => simp [intOf]; omega
      · rw [hf] at hq
        have HF := hid hf
        clear hf hcl
        go_wp2_with (go_at_call 51; (with_reducible refine hq.mono ?_); rintro r w1 ⟨rfl, hb1⟩)
        go_ret2
        exact ⟨.inr ⟨j, fidx_some f l j hlt HQ.out HF.out, rfl⟩, hbw.tr le_rfl' hb1⟩
    · have hjd : decide ((j : Int) < (l.length : Int)) = false := by simp; omega
      go_wp2
      go_ret2
      exact ⟨.inl ⟨fidx_none f l (fun i hi => HQ.out i hi (by omega)), rfl⟩, hbw⟩
set_option maxRecDepth 100000 in
set_option maxHeartbeats 2000000 in
theorem clos35_any (l : List Mo) (ad : Option Addr) (cap : Nat) (n₀ pb qb : Nat) (q : ByteArray) (w : World) (hn : n₀ ≤ w.heap.size) (hsl : SlAt 4 Mo.cells n₀ w ad cap l) (hp : w.cell? ⟨pb, 0, none⟩ = some (.slice ad l.length cap)) (hq : w.cell? ⟨qb, 0, none⟩ = some (.string q)) (i : Nat) (hi : i < l.length) :
    Calls Tryd.prog 65 #[.int .i64 (i : Int), .pointer (some ⟨pb, 0, none⟩), .pointer (some ⟨qb, 0, none⟩)] w fun r w' => r = .returned (.bool (decide (l[i].name = q))) ∧ Below w.heap.size w w' := by
  have hl1 := hsl.1; have hl2 := hsl.2.1
  unfold maxLen at hl2
  rcases hsl.2.2 with h | ⟨kb, koff, rfl, hbn, hrow⟩
  · subst h; simp at hi
  have hbn2 : kb < w.heap.size := by omega
  have hii : (i : Int) < (l.length : Int) := by omega
  have c0 := hrow i hi 0 (by omega)
  obtain ⟨nm, hnm⟩ : ∃ nm, l[i].name = nm := ⟨_, rfl⟩
  have e0 : (Mo.cells l[i])[0]? = some (.string nm) := by rw [← hnm]; rfl
  rw [e0] at c0
  simp only [Nat.add_zero] at c0
  rw [hnm]
  clear e0 hnm
  by_cases hd : nm = q
  · subst hd
    rw [decide_eq_true rfl]
    go_enter Tryd.func65, Tryd.ntmps65
    go_wp2
    go_quiet (fail)
    go_wp2
    go_ret
    exact ⟨rfl, below_drewN (Below.refl _ _) _⟩
  · rw [decide_eq_false hd]
    have hs1 := str_ne hd
    have hs2 : (nm.toList == q.toList) = false := by rw [beq_eq_false_iff_ne]; exact hs1
    go_enter Tryd.func65, Tryd.ntmps65
    go_wp2
    go_quiet (fail)
    go_wp2
    go_ret
    exact ⟨rfl, below_drewN (Below.refl _ _) _⟩
set_option maxRecDepth 100000 in
set_option maxHeartbeats 2000000 in
theorem clos36_any (l : List Va) (ad : Option Addr) (cap : Nat) (n₀ pb qb : Nat) (q : ByteArray) (w : World) (hn : n₀ ≤ w.heap.size) (hsl : SlAt 6 Va.cells n₀ w ad cap l) (hp : w.cell? ⟨pb, 0, none⟩ = some (.slice ad l.length cap)) (hq : w.cell? ⟨qb, 0, none⟩ = some (.string q)) (i : Nat) (hi : i < l.length) :
    Calls Tryd.prog 51 #[.int .i64 (i : Int), .pointer (some ⟨pb, 0, none⟩), .pointer (some ⟨qb, 0, none⟩)] w fun r w' => r = .returned (.bool (decide (l[i].name = q))) ∧ Below w.heap.size w w' := by
  have hl1 := hsl.1; have hl2 := hsl.2.1
  unfold maxLen at hl2
  rcases hsl.2.2 with h | ⟨kb, koff, rfl, hbn, hrow⟩
  · subst h; simp at hi
  have hbn2 : kb < w.heap.size := by omega
  have hii : (i : Int) < (l.length : Int) := by omega
  have c0 := hrow i hi 0 (by omega)
  obtain ⟨nm, hnm⟩ : ∃ nm, l[i].name = nm := ⟨_, rfl⟩
  have e0 : (Va.cells l[i])[0]? = some (.string nm) := by rw [← hnm]; rfl
  rw [e0] at c0
  simp only [Nat.add_zero] at c0
  rw [hnm]
  clear e0 hnm
  by_cases hd : nm = q
  · subst hd
    rw [decide_eq_true rfl]
    go_enter Tryd.func51, Tryd.ntmps51
    go_wp2
    go_quiet (fail)
    go_wp2
    go_ret
    exact ⟨rfl, below_drewN (Below.refl _ _) _⟩
  · rw [decide_eq_false hd]
    have hs1 := str_ne hd
    have hs2 : (nm.toList == q.toList) = false := by rw [beq_eq_false_iff_ne]; exact hs1
    go_enter Tryd.func51, Tryd.ntmps51
    go_wp2
    go_quiet (fail)
    go_wp2
    go_ret
    exact ⟨rfl, below_drewN (Below.refl _ _) _⟩
end Go.Proofs.YtopiceoofdlkbaaDoor
