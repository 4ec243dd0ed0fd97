/-
  What an expression comes to, as a plain Lean function; bit, join, perhaps of package value.
-/
import Derived.Test.YtopiceoofdlkbaaDoorNuA
import Derived.Test.YtopiceoofdlkbaaDoorTyT
namespace Go.Proofs.YtopiceoofdlkbaaDoor
open Go.RowKit
/-- A bool as a number. -/
def bitF (b : Bool) : Int := if b then 1 else 0
theorem bitF_in (b : Bool) : I64 (bitF b) := by cases b <;> (unfold bitF I64; simp)
/-- A number, if 64 bits are enough. -/
def inO (x : Int) : Option Int := if InR x then some x else none
def joinF (op a b : Int) : Option Int := if op = 8 then inO (a + b) else if op = 9 then inO (a - b) else if op = 10 then some (bitF (a == b)) else if op = 11 then some (bitF (a != b)) else if op = 12 then some (bitF (decide (a < b))) else if op = 13 then some (bitF (decide (a ≤ b))) else if op = 14 then some (bitF (decide (b < a))) else if op = 15 then some (bitF (decide (b ≤ a))) else some b
def perF (op a : Int) (o : Option Int) : Option Int := if op = 16 ∧ a = 0 then some 0 else if op = 17 ∧ a ≠ 0 then some 1 else o.bind (joinF op a)
def unF (op n a : Int) (o : Option Int) : Option Int := if op = 5 then some (bitF (a == 0)) else if op = 6 then inO (-a) else if op = 7 then inO (n * a) else perF op a o
def kidO (ks : List (Option Int)) (i : Nat) : Option Int := (ks[i]?).getD none
def rkOp (sv op n : Int) (ks : List (Option Int)) : Option Int := if op = 1 then some n else if op = 2 then some 1 else if op = 3 then some 0 else if op = 4 then some sv else (kidO ks 0).bind fun a => unF op n a (kidO ks 1)
/-- A variable's value. -/
def slotV (l : List Mo) (vs : List Int) (mon name : ByteArray) : Int := ((slotIx l mon name).bind fun s => vs[s]?).getD 0
mutual
/-- What an expression comes to; none: a fault. -/
def Ex.rk (l : List Mo) (vs : List Int) : Ex → Option Int
  | .mk op mon name n _ _ kids _ => rkOp (slotV l vs mon name) op n (Ex.rkL l vs kids)
def Ex.rkL (l : List Mo) (vs : List Int) : List Ex → List (Option Int)
  | [] => []
  | e :: r => Ex.rk l vs e :: Ex.rkL l vs r
end
theorem Ex.rk_mk (l : List Mo) (vs : List Int) (op : Int) (mon name : ByteArray) (n : Int) (ad : Option Addr) (cap : Nat) (kids : List Ex) (pos : Int) : (Ex.mk op mon name n ad cap kids pos).rk l vs = rkOp (slotV l vs mon name) op n (Ex.rkL l vs kids) := by rw [Ex.rk]
theorem Ex.rkL_eq (l : List Mo) (vs : List Int) (ks : List Ex) : Ex.rkL l vs ks = ks.map (Ex.rk l vs) := by
  induction ks with
  | nil => rw [Ex.rkL]; rfl
  | cons k r ih => rw [Ex.rkL, ih]; rfl
theorem kidO_rk (l : List Mo) (vs : List Int) (ks : List Ex) (i : Nat) (h : i < ks.length) : kidO (Ex.rkL l vs ks) i = ks[i].rk l vs := by
  rw [Ex.rkL_eq, kidO, List.getElem?_map, List.getElem?_eq_getElem h]; rfl
/-- What comes back: a number that is there, or a fault. -/
def RkBack (o : Option Int) (w w' : World) (r : Ending) : Prop := ((o = none ∧ r = .returned (.tuple #[.int .i64 0, .bool false])) ∨ (∃ x, I64 x ∧ o = some x ∧ r = .returned (.tuple #[.int .i64 x, .bool true]))) ∧ Below w.heap.size w w'
theorem RkBack.no {f : FuncId} {args : Array Value} {o : Option Int} {w : World} (h : Calls Tryd.prog f args w fun r w' => RkBack o w w' r) (ho : o = none) : Calls Tryd.prog f args w fun r w' => r = .returned (.tuple #[.int .i64 0, .bool false]) ∧ Below w.heap.size w w' :=
  h.mono fun r w' hh => by
    rcases hh.1 with ⟨_, h2⟩ | ⟨x, _, h1, _⟩
    · exact ⟨h2, hh.2⟩
    · rw [ho] at h1; cases h1
theorem RkBack.yes {f : FuncId} {args : Array Value} {o : Option Int} {w : World} (h : Calls Tryd.prog f args w fun r w' => RkBack o w w' r) {x : Int} (ho : o = some x) : Calls Tryd.prog f args w fun r w' => r = .returned (.tuple #[.int .i64 x, .bool true]) ∧ I64 x ∧ Below w.heap.size w w' :=
  h.mono fun r w' hh => by
    rcases hh.1 with ⟨h1, _⟩ | ⟨x', hx, h1, h2⟩
    · rw [ho] at h1; cases h1
    · rw [ho] at h1; cases h1; exact ⟨h2, hx, hh.2⟩
theorem rkBack_no {o : Option Int} {w w' : World} (h : o = none) (hb : Below w.heap.size w w') : RkBack o w w' (.returned (.tuple #[.int .i64 0, .bool false])) := ⟨.inl ⟨h, rfl⟩, hb⟩
theorem rkBack_yes {o : Option Int} {w w' : World} {x : Int} (hx : I64 x) (h : o = some x) (hb : Below w.heap.size w w') : RkBack o w w' (.returned (.tuple #[.int .i64 x, .bool true])) := ⟨.inr ⟨x, hx, h, rfl⟩, hb⟩
theorem rkBack_two {o : Option Int} {w w' : World} (x : Int) (h : o = inO x) (hb : Below w.heap.size w w') : RkBack o w w' (.returned (.tuple #[.int .i64 (fv x), .bool (fb x)])) := by
  by_cases hx : InR x
  · rw [fv_in hx, fb_in hx]; exact rkBack_yes hx (by rw [h, inO, if_pos hx]) hb
  · rw [fv_out hx, fb_out hx]; exact rkBack_no (by rw [h, inO, if_neg hx]) hb
theorem bit_any (b : Bool) (w : World) : Calls Tryd.prog 38 #[.bool b] w fun r w' => r = .returned (.int .i64 (bitF b)) ∧ w' = w := by
  cases b
  · go_enter Tryd.func38, Tryd.ntmps38
    go_wp2
    go_ret
    exact ⟨rfl, rfl⟩
  · go_enter Tryd.func38, Tryd.ntmps38
    go_wp2
    go_ret
    exact ⟨rfl, rfl⟩
set_option maxRecDepth 100000 in
set_option maxHeartbeats 4000000 in
theorem join_any (op a b : Int) (h1 : 8 ≤ op) (h2 : op ≤ 17) (ha : I64 a) (hb : I64 b) (w : World) : Calls Tryd.prog 57 #[.int .i64 op, .int .i64 a, .int .i64 b] w fun r w' => RkBack (joinF op a b) w w' r := by
  have hadd : ∀ w, Calls Tryd.prog 68 #[.int .i64 a, .int .i64 b] w fun r w' => r = .returned (.tuple #[.int .i64 (fv (a + b)), .bool (fb (a + b))]) ∧ w' = w := fun w => add_any ha hb w
  have hsub : ∀ w, Calls Tryd.prog 56 #[.int .i64 a, .int .i64 b] w fun r w' => r = .returned (.tuple #[.int .i64 (fv (a - b)), .bool (fb (a - b))]) ∧ w' = w := fun w => sub_any ha hb w
  have hc : op = 8 ∨ op = 9 ∨ op = 10 ∨ op = 11 ∨ op = 12 ∨ op = 13 ∨ op = 14 ∨ op = 15 ∨ op = 16 ∨ op = 17 := by omega
  have HB := hid hb
  have HBI := hid bitF_in
  clear h1 h2 ha hb
  rcases hc with rfl | rfl | rfl | rfl | rfl | rfl | rfl | rfl | rfl | rfl
  · have HR := hid (show joinF 8 a b = inO (a + b) from rfl)
    have HF : Hid (∀ w w' : World, Below w.heap.size w w' → RkBack (joinF 8 a b) w w' (.returned (.tuple #[.int .i64 (fv (a + b)), .bool (fb (a + b))]))) := fun _ _ hb => rkBack_two (a + b) HR.out hb
    generalize fv (a + b) = x at *
    generalize fb (a + b) = y at *
    clear hsub
    go_enter Tryd.func57, Tryd.ntmps57
    go_wp2_with (go_at_call 68; (with_reducible refine (hadd _).mono ?_); rintro r w1 ⟨rfl, hw'⟩; have hw2 := hw'.symm; subst hw2)
    go_ret2
    exact HF.out _ _ (Below.refl _ _)
  · have HR := hid (show joinF 9 a b = inO (a - b) from rfl)
    have HF : Hid (∀ w w' : World, Below w.heap.size w w' → RkBack (joinF 9 a b) w w' (.returned (.tuple #[.int .i64 (fv (a - b)), .bool (fb (a - b))]))) := fun _ _ hb => rkBack_two (a - b) HR.out hb
    generalize fv (a - b) = x at *
    generalize fb (a - b) = y at *
    clear hadd
    go_enter Tryd.func57, Tryd.ntmps57
    go_wp2_with (go_at_call 56; (with_reducible refine (hsub _).mono ?_); rintro r w1 ⟨rfl, hw'⟩; have hw2 := hw'.symm; subst hw2)
    go_ret2
    exact HF.out _ _ (Below.refl _ _)
  · have HR := hid (show joinF 10 a b = some (bitF ((a == b))) from rfl)
    clear hadd hsub
    cases ht : (a == b)
    all_goals rw [ht] at HR
    · have hq := bit_any false w
      go_enter Tryd.func57, Tryd.ntmps57
      go_wp2_with (go_at_call 38; (with_reducible refine hq.mono ?_); rintro r w1 ⟨rfl, hw'⟩; have hw2 := hw'.symm; subst hw2)
      go_ret2
      exact rkBack_yes (HBI.out _) HR.out (Below.refl _ _)
    · have hq := bit_any true w
      go_enter Tryd.func57, Tryd.ntmps57
      go_wp2_with (go_at_call 38; (with_reducible refine hq.mono ?_); rintro r w1 ⟨rfl, hw'⟩; have hw2 := hw'.symm; subst hw2)
      go_ret2
      exact rkBack_yes (HBI.out _) HR.out (Below.refl _ _)
  · have HR := hid (show joinF 11 a b = some (bitF ((a != b))) from rfl)
    clear hadd hsub
    cases ht : (a != b)
    all_goals rw [ht] at HR
    · have hq := bit_any false w
      go_enter Tryd.func57, Tryd.ntmps57
      go_wp2_with (go_at_call 38; (with_reducible refine hq.mono ?_); rintro r w1 ⟨rfl, hw'⟩; have hw2 := hw'.symm; subst hw2)
      go_ret2
      exact rkBack_yes (HBI.out _) HR.out (Below.refl _ _)
    · have hq := bit_any true w
      go_enter Tryd.func57, Tryd.ntmps57
      go_wp2_with (go_at_call 38; (with_reducible refine hq.mono ?_); rintro r w1 ⟨rfl, hw'⟩; have hw2 := hw'.symm; subst hw2)
      go_ret2
      exact rkBack_yes (HBI.out _) HR.out (Below.refl _ _)
  · have HR := hid (show joinF 12 a b = some (bitF (decide (a < b))) from rfl)
    clear hadd hsub
    cases ht : decide (a < b)
    all_goals rw [ht] at HR
    · have hq := bit_any false w
      go_enter Tryd.func57, Tryd.ntmps57
      go_wp2_with (go_at_call 38; (with_reducible refine hq.mono ?_); rintro r w1 ⟨rfl, hw'⟩; have hw2 := hw'.symm; subst hw2)
      go_ret2
      exact rkBack_yes (HBI.out _) HR.out (Below.refl _ _)
    · have hq := bit_any true w
      go_enter Tryd.func57, Tryd.ntmps57
      go_wp2_with (go_at_call 38; (with_reducible refine hq.mono ?_); rintro r w1 ⟨rfl, hw'⟩; have hw2 := hw'.symm; subst hw2)
      go_ret2
      exact rkBack_yes (HBI.out _) HR.out (Below.refl _ _)
  · have HR := hid (show joinF 13 a b = some (bitF (decide (a ≤ b))) from rfl)
    clear hadd hsub
    cases ht : decide (a ≤ b)
    all_goals rw [ht] at HR
    · have hq := bit_any false w
      go_enter Tryd.func57, Tryd.ntmps57
      go_wp2_with (go_at_call 38; (with_reducible refine hq.mono ?_); rintro r w1 ⟨rfl, hw'⟩; have hw2 := hw'.symm; subst hw2)
      go_ret2
      exact rkBack_yes (HBI.out _) HR.out (Below.refl _ _)
    · have hq := bit_any true w
      go_enter Tryd.func57, Tryd.ntmps57
      go_wp2_with (go_at_call 38; (with_reducible refine hq.mono ?_); rintro r w1 ⟨rfl, hw'⟩; have hw2 := hw'.symm; subst hw2)
      go_ret2
      exact rkBack_yes (HBI.out _) HR.out (Below.refl _ _)
  · have HR := hid (show joinF 14 a b = some (bitF (decide (b < a))) from rfl)
    clear hadd hsub
    cases ht : decide (b < a)
    all_goals rw [ht] at HR
    · have hq := bit_any false w
      go_enter Tryd.func57, Tryd.ntmps57
      go_wp2_with (go_at_call 38; (with_reducible refine hq.mono ?_); rintro r w1 ⟨rfl, hw'⟩; have hw2 := hw'.symm; subst hw2)
      go_ret2
      exact rkBack_yes (HBI.out _) HR.out (Below.refl _ _)
    · have hq := bit_any true w
      go_enter Tryd.func57, Tryd.ntmps57
      go_wp2_with (go_at_call 38; (with_reducible refine hq.mono ?_); rintro r w1 ⟨rfl, hw'⟩; have hw2 := hw'.symm; subst hw2)
      go_ret2
      exact rkBack_yes (HBI.out _) HR.out (Below.refl _ _)
  · have HR := hid (show joinF 15 a b = some (bitF (decide (b ≤ a))) from rfl)
    clear hadd hsub
    cases ht : decide (b ≤ a)
    all_goals rw [ht] at HR
    · have hq := bit_any false w
      go_enter Tryd.func57, Tryd.ntmps57
      go_wp2_with (go_at_call 38; (with_reducible refine hq.mono ?_); rintro r w1 ⟨rfl, hw'⟩; have hw2 := hw'.symm; subst hw2)
      go_ret2
      exact rkBack_yes (HBI.out _) HR.out (Below.refl _ _)
    · have hq := bit_any true w
      go_enter Tryd.func57, Tryd.ntmps57
      go_wp2_with (go_at_call 38; (with_reducible refine hq.mono ?_); rintro r w1 ⟨rfl, hw'⟩; have hw2 := hw'.symm; subst hw2)
      go_ret2
      exact rkBack_yes (HBI.out _) HR.out (Below.refl _ _)
  · have HR := hid (show joinF 16 a b = some b from rfl)
    clear hadd hsub
    go_enter Tryd.func57, Tryd.ntmps57
    go_wp2
    go_ret2
    exact rkBack_yes HB.out HR.out (Below.refl _ _)
  · have HR := hid (show joinF 17 a b = some b from rfl)
    clear hadd hsub
    go_enter Tryd.func57, Tryd.ntmps57
    go_wp2
    go_ret2
    exact rkBack_yes HB.out HR.out (Below.refl _ _)
set_option maxRecDepth 100000 in
set_option maxHeartbeats 4000000 in
/-- The second kid is reckoned only where the first one leaves it open. -/
theorem perhaps_any (op a : Int) (h1 : 8 ≤ op) (h2 : op ≤ 17) (ha : I64 a) (o : Option Int) (p1 p2 : Value) (w : World) (hcl : Calls Tryd.prog 42 #[p1, p2] w fun r w' => RkBack o w w' r) : Calls Tryd.prog 41 #[.int .i64 op, .int .i64 a, .func (.func 42) #[] #[p1, p2]] w fun r w' => RkBack (perF op a o) w w' r := by
  have HJ : Hid (∀ b, I64 b → ∀ w, Calls Tryd.prog 57 #[.int .i64 op, .int .i64 a, .int .i64 b] w fun r w' => RkBack (joinF op a b) w w' r) := fun b hb w => join_any op a b h1 h2 ha hb w
  have HP : Hid (perF op a o = if op = 16 ∧ a = 0 then some 0 else if op = 17 ∧ a ≠ 0 then some 1 else o.bind (joinF op a)) := rfl
  clear h1 h2 ha
  by_cases c1 : op = 16 ∧ a = 0
  · obtain ⟨rfl, rfl⟩ := c1
    clear hcl HJ HP
    go_enter Tryd.func41, Tryd.ntmps41
    go_wp2
    go_ret2
    exact rkBack_yes (by unfold I64; omega) (by unfold perF; simp) (Below.refl _ _)
  by_cases c2 : op = 17 ∧ a ≠ 0
  · obtain ⟨rfl, hne⟩ := c2
    have hne1 : (a == 0) = false := by rw [beq_eq_false_iff_ne]; exact hne
    have hne2 : (a != 0) = true := by rw [bne_iff_ne]; exact hne
    clear hcl HJ HP
    go_enter Tryd.func41, Tryd.ntmps41
    go_wp2
    go_ret2
    exact rkBack_yes (by unfold I64; omega) (by unfold perF; simp [hne]) (Below.refl _ _)
  have HQ := hid (HP.out.trans (by rw [if_neg c1, if_neg c2]) : perF op a o = o.bind (joinF op a))
  clear HP
  have hd1 : (if op = 16 then (a == 0) else false) = false := by
    split
    · rw [beq_eq_false_iff_ne]; intro h; exact c1 ⟨by assumption, h⟩
    · rfl
  have k1 : (op == 16) = false ∨ ((op == 16) = true ∧ (a == 0) = false) := by
    by_cases h : op = 16
    · right; refine ⟨by rw [h]; rfl, ?_⟩; rw [beq_eq_false_iff_ne]; intro h'; exact c1 ⟨h, h'⟩
    · left; rw [beq_eq_false_iff_ne]; exact h
  have k2 : (op == 17) = false ∨ ((op == 17) = true ∧ (a != 0) = false) := by
    by_cases h : op = 17
    · right; refine ⟨by rw [h]; rfl, ?_⟩; rw [bne_eq_false_iff_eq]; exact Decidable.byContradiction fun h' => c2 ⟨h, h'⟩
    · left; rw [beq_eq_false_iff_ne]; exact h
  clear c1 c2 hd1
  rcases o with _ | b
  · have hcl := RkBack.no hcl rfl
    clear HJ
    rcases k1 with k1 | ⟨k1, k1'⟩ <;> rcases k2 with k2 | ⟨k2, k2'⟩
    all_goals
      go_enter Tryd.func41, Tryd.ntmps41
      go_wp2_with (go_at_call 42; (with_reducible refine hcl.mono ?_); rintro r w1 ⟨rfl, bb⟩)
      go_ret2
      exact rkBack_no HQ.out bb
  · have hcl := RkBack.yes hcl rfl
    have HQ2 : Hid (perF op a (some b) = joinF op a b) := HQ.out
    clear HQ
    rcases hj : joinF op a b with _ | y
    · rw [hj] at HQ2
      have HJ : Hid (I64 b → ∀ w, Calls Tryd.prog 57 #[.int .i64 op, .int .i64 a, .int .i64 b] w fun r w' => r = .returned (.tuple #[.int .i64 0, .bool false]) ∧ Below w.heap.size w w') := fun hb w => RkBack.no (HJ.out b hb w) hj
      clear hj
      rcases k1 with k1 | ⟨k1, k1'⟩ <;> rcases k2 with k2 | ⟨k2, k2'⟩
      all_goals
        go_enter Tryd.func41, Tryd.ntmps41
        go_wp2_with (first | (go_at_call 42; (with_reducible refine hcl.mono ?_); rintro r w1 ⟨rfl, hb, bb⟩) | (go_at_call 57; (with_reducible refine (HJ.out hb _).mono ?_); rintro r w2 ⟨rfl, bb2⟩))
        go_ret2
        exact rkBack_no HQ2.out (bb.tr le_rfl' bb2)
    · rw [hj] at HQ2
      have HJ : Hid (I64 b → ∀ w, Calls Tryd.prog 57 #[.int .i64 op, .int .i64 a, .int .i64 b] w fun r w' => r = .returned (.tuple #[.int .i64 y, .bool true]) ∧ I64 y ∧ Below w.heap.size w w') := fun hb w => RkBack.yes (HJ.out b hb w) hj
      clear hj
      rcases k1 with k1 | ⟨k1, k1'⟩ <;> rcases k2 with k2 | ⟨k2, k2'⟩
      all_goals
        go_enter Tryd.func41, Tryd.ntmps41
        go_wp2_with (first | (go_at_call 42; (with_reducible refine hcl.mono ?_); rintro r w1 ⟨rfl, hb, bb⟩) | (go_at_call 57; (with_reducible refine (HJ.out hb _).mono ?_); rintro r w2 ⟨rfl, hy, bb2⟩))
        go_ret2
        exact rkBack_yes hy HQ2.out (bb.tr le_rfl' bb2)
end Go.Proofs.YtopiceoofdlkbaaDoor
