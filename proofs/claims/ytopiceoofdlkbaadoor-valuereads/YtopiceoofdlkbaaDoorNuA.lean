/-
  Package num: Add, Sub, Neg, Mul tell the whole number where 64 bits are enough; Fits, and the document's Fits, tell whether a variable may have a number.
-/
import Derived.Test.YtopiceoofdlkbaaDoorTrB
import Derived.ProofKit
namespace Go.Proofs.YtopiceoofdlkbaaDoor
open Go.RowKit
def InR (x : Int) : Prop := -9223372036854775808 ≤ x ∧ x ≤ 9223372036854775807
instance (x : Int) : Decidable (InR x) := by unfold InR; infer_instance
def fb (x : Int) : Bool := decide (InR x)
def fv (x : Int) : Int := if InR x then x else 0
theorem fv_in {x : Int} (h : InR x) : fv x = x := by unfold fv; rw [if_pos h]
theorem fb_in {x : Int} (h : InR x) : fb x = true := by unfold fb; exact decide_eq_true h
theorem fv_out {x : Int} (h : ¬ InR x) : fv x = 0 := by unfold fv; rw [if_neg h]
theorem fb_out {x : Int} (h : ¬ InR x) : fb x = false := by unfold fb; exact decide_eq_false h
theorem fv_inR (x : Int) : InR (fv x) := by
  by_cases h : InR x
  · rw [fv_in h]; exact h
  · rw [fv_out h]; unfold InR; omega
theorem InR.wr {x : Int} (h : InR x) : wrap64 x = x := by unfold InR at h; unfold wrap64; omega
theorem inR_of {x : Int} (h : (Lit.int .i64 x).wf = true) : InR x := by
  unfold InR
  simpa [Lit.wf, IntKind.min, IntKind.max, IntKind.signed, IntKind.bits] using h
def two (x : Int) : Value := .tuple #[.int .i64 (fv x), .bool (fb x)]
theorem two_in {x : Int} (h : InR x) : two x = .tuple #[.int .i64 x, .bool true] := by unfold two; rw [fv_in h, fb_in h]
theorem two_out {x : Int} (h : ¬ InR x) : two x = .tuple #[.int .i64 0, .bool false] := by unfold two; rw [fv_out h, fb_out h]
theorem add_test {a b : Int} (ha : InR a) (hb : InR b) : (!decide (a < wrap64 (a + b)) == decide (0 < b)) = !fb (a + b) := by
  unfold InR at ha hb
  by_cases h : InR (a + b)
  · rw [h.wr, fb_in h]
    by_cases hb0 : 0 < b
    · rw [decide_eq_true hb0, decide_eq_true (by omega : a < a + b)]; rfl
    · rw [decide_eq_false hb0, decide_eq_false (by omega : ¬ a < a + b)]; rfl
  · rw [fb_out h]
    unfold InR at h
    by_cases hb0 : 0 < b
    · rw [decide_eq_true hb0, decide_eq_false (by unfold wrap64; omega : ¬ a < wrap64 (a + b))]; rfl
    · rw [decide_eq_false hb0, decide_eq_true (by unfold wrap64; omega : a < wrap64 (a + b))]; rfl
theorem sub_test {a b : Int} (ha : InR a) (hb : InR b) : (!decide (wrap64 (a - b) < a) == decide (0 < b)) = !fb (a - b) := by
  unfold InR at ha hb
  by_cases h : InR (a - b)
  · rw [h.wr, fb_in h]
    by_cases hb0 : 0 < b
    · rw [decide_eq_true hb0, decide_eq_true (by omega : a - b < a)]; rfl
    · rw [decide_eq_false hb0, decide_eq_false (by omega : ¬ a - b < a)]; rfl
  · rw [fb_out h]
    unfold InR at h
    by_cases hb0 : 0 < b
    · rw [decide_eq_true hb0, decide_eq_false (by unfold wrap64; omega : ¬ wrap64 (a - b) < a)]; rfl
    · rw [decide_eq_false hb0, decide_eq_true (by unfold wrap64; omega : wrap64 (a - b) < a)]; rfl
theorem add_any {a b : Int} (ha : InR a) (hb : InR b) (w : World) : Calls Tryd.prog 68 #[.int .i64 a, .int .i64 b] w fun r w' => r = .returned (two (a + b)) ∧ w' = w := by
  have ht := add_test ha hb
  by_cases h : InR (a + b)
  · rw [fb_in h] at ht; rw [two_in h]
    have HW := hid h.wr
    clear h ha hb
    go_enter Tryd.func68, Tryd.ntmps68
    go_wp2
    go_ret2
    rw [HW.out]; exact ⟨rfl, rfl⟩
  · rw [fb_out h] at ht; rw [two_out h]
    clear h ha hb
    go_enter Tryd.func68, Tryd.ntmps68
    go_wp2
    go_ret2
    exact ⟨rfl, rfl⟩
theorem sub_any {a b : Int} (ha : InR a) (hb : InR b) (w : World) : Calls Tryd.prog 56 #[.int .i64 a, .int .i64 b] w fun r w' => r = .returned (two (a - b)) ∧ w' = w := by
  have ht := sub_test ha hb
  by_cases h : InR (a - b)
  · rw [fb_in h] at ht; rw [two_in h]
    have HW := hid h.wr
    clear h ha hb
    go_enter Tryd.func56, Tryd.ntmps56
    go_wp2
    go_ret2
    rw [HW.out]; exact ⟨rfl, rfl⟩
  · rw [fb_out h] at ht; rw [two_out h]
    clear h ha hb
    go_enter Tryd.func56, Tryd.ntmps56
    go_wp2
    go_ret2
    exact ⟨rfl, rfl⟩
theorem neg_any {a : Int} (ha : InR a) (w : World) : Calls Tryd.prog 39 #[.int .i64 a] w fun r w' => r = .returned (two (-a)) ∧ w' = w := by
  have hc := fun w => sub_any (a := 0) (b := a) (by unfold InR; omega) ha w
  rw [Int.zero_sub] at hc
  have e : two (-a) = .tuple #[.int .i64 (fv (-a)), .bool (fb (-a))] := rfl
  rw [e] at hc ⊢
  generalize fv (-a) = x at *
  generalize fb (-a) = y at *
  clear e ha
  go_enter Tryd.func39, Tryd.ntmps39
  go_wp2_with (go_at_call 56; refine (hc _).mono ?_; rintro e w' ⟨rfl, rfl⟩)
  go_ret2
  exact ⟨rfl, rfl⟩
/-- The product, divided by one of its factors, is the other one just where it has not wrapped round. -/
theorem mul_test {a b : Int} (ha : InR a) (hb : InR b) (h0 : a ≠ 0) (h1 : a ≠ -1) : (wrap64 ((wrap64 (a * b)).tdiv a) != b) = !fb (a * b) := by
  by_cases h : InR (a * b)
  · rw [h.wr, fb_in h, Int.mul_tdiv_cancel_left b h0, hb.wr]
    simp
  · rw [fb_out h]
    have hne : wrap64 ((wrap64 (a * b)).tdiv a) ≠ b := by
      intro he
      have h2' : a ≠ 1 := by rintro rfl; exact h (by rw [Int.one_mul]; exact hb)
      have hP : -9223372036854775808 ≤ wrap64 (a * b) ∧ wrap64 (a * b) ≤ 9223372036854775807 := by unfold wrap64; omega
      have hD : ∃ k : Int, a * b = wrap64 (a * b) + k * 18446744073709551616 ∧ k ≠ 0 := by
        refine ⟨(a * b + 9223372036854775808) / 18446744073709551616, ?_, ?_⟩
        · unfold wrap64; omega
        · unfold InR at h; omega
      obtain ⟨k, hk, hk0⟩ := hD
      generalize wrap64 (a * b) = P at *
      have hq := Int.mul_tdiv_add_tmod P a
      have hlt : (P.tmod a).natAbs < a.natAbs := by
        rw [Int.natAbs_tmod]
        exact Nat.mod_lt _ (Int.natAbs_pos.mpr h0)
      have hqs : (P.tdiv a).natAbs ≤ 4611686018427387904 := by
        rw [Int.natAbs_tdiv]
        have h2 : 2 ≤ a.natAbs := by omega
        have := Nat.div_le_div_left h2 (by omega : 0 < 2) (a := P.natAbs)
        have h3 : P.natAbs ≤ 9223372036854775808 := by omega
        have h4 : P.natAbs / 2 ≤ 4611686018427387904 := by omega
        exact Nat.le_trans this h4
      have hw : wrap64 (P.tdiv a) = P.tdiv a := InR.wr (by unfold InR; omega)
      rw [hw] at he
      rw [he] at hq
      unfold InR at ha
      omega
    simpa using hne
theorem mul_any {a b : Int} (ha : InR a) (hb : InR b) (w : World) : Calls Tryd.prog 40 #[.int .i64 a, .int .i64 b] w fun r w' => r = .returned (two (a * b)) ∧ w' = w := by
  by_cases h0 : a = 0
  · subst h0
    rw [Int.zero_mul, two_in (by unfold InR; omega)]
    go_enter Tryd.func40, Tryd.ntmps40
    go_wp2
    go_ret2
    exact ⟨rfl, rfl⟩
  by_cases h1 : a = -1
  · subst h1
    have e1 : -1 * b = -b := by omega
    rw [e1]
    have hc := fun w => neg_any hb w
    have e : two (-b) = .tuple #[.int .i64 (fv (-b)), .bool (fb (-b))] := rfl
    rw [e] at hc ⊢
    generalize fv (-b) = x at *
    generalize fb (-b) = y at *
    clear e e1 ha hb h0
    go_enter Tryd.func40, Tryd.ntmps40
    go_wp2_with (go_at_call 39; refine (hc _).mono ?_; rintro e w' ⟨rfl, rfl⟩)
    go_ret2
    exact ⟨rfl, rfl⟩
  have ht := mul_test ha hb h0 h1
  have d0 : (a == 0) = false := by rw [beq_eq_false_iff_ne]; exact h0
  have d1 : (a == -1) = false := by rw [beq_eq_false_iff_ne]; exact h1
  by_cases h : InR (a * b)
  · rw [fb_in h] at ht; rw [two_in h]
    have HW := hid h.wr
    clear h ha hb
    go_enter Tryd.func40, Tryd.ntmps40
    go_wp2
    go_ret2
    rw [HW.out]; exact ⟨rfl, rfl⟩
  · rw [fb_out h] at ht; rw [two_out h]
    clear h ha hb
    go_enter Tryd.func40, Tryd.ntmps40
    go_wp2
    go_ret2
    exact ⟨rfl, rfl⟩
def fitF (t lo hi n : Int) : Bool := if t = 1 then (n == 0 || n == 1) else if t = 2 then true else if t = 3 then (decide (lo ≤ n) && decide (n ≤ hi)) else false
theorem fits_any (nm : ByteArray) (t lo hi i at_ n : Int) (w : World) : Calls Tryd.prog 30 #[.agg #[.string nm, .int .i64 t, .int .i64 lo, .int .i64 hi, .int .i64 i, .int .i64 at_], .int .i64 n] w fun r w' => r = .returned (.bool (fitF t lo hi n)) ∧ ∃ c, w' = w.alloc (.cells c 59) := by
  by_cases h1 : t = 1
  · subst h1
    have HV : Hid (fitF 1 lo hi n = (n == 0 || n == 1)) := rfl
    cases e0 : (n == 0) <;> cases e1 : (n == 1)
    all_goals simp only [e0, e1] at HV
    all_goals go_enter Tryd.func30, Tryd.ntmps30
    all_goals go_wp2
    all_goals go_ret
    all_goals exact ⟨ret_bool HV.out.symm, _, rfl⟩
  by_cases h2 : t = 2
  · subst h2
    go_enter Tryd.func30, Tryd.ntmps30
    go_wp2
    go_ret
    exact ⟨rfl, _, rfl⟩
  by_cases h3 : t = 3
  · subst h3
    have HV : Hid (fitF 3 lo hi n = (decide (lo ≤ n) && decide (n ≤ hi))) := rfl
    clear h1 h2
    cases e0 : decide (lo ≤ n) <;> cases e1 : decide (n ≤ hi)
    all_goals simp only [e0, e1] at HV
    all_goals go_enter Tryd.func30, Tryd.ntmps30
    all_goals go_wp2
    all_goals go_ret
    all_goals exact ⟨ret_bool HV.out.symm, _, rfl⟩
  · have HV : Hid (fitF t lo hi n = false) := by show _ = _; unfold fitF; rw [if_neg h1, if_neg h2, if_neg h3]
    have d1 : (t == 1) = false := by rw [beq_eq_false_iff_ne]; exact h1
    have d2 : (t == 2) = false := by rw [beq_eq_false_iff_ne]; exact h2
    have d3 : (t == 3) = false := by rw [beq_eq_false_iff_ne]; exact h3
    clear h1 h2 h3
    go_enter Tryd.func30, Tryd.ntmps30
    go_wp2
    go_ret
    exact ⟨ret_bool HV.out.symm, _, rfl⟩
theorem fitsR_any (nm : ByteArray) (t lo hi i at_ n : Int) (w : World) : Calls Tryd.prog 34 #[.agg #[.string nm, .int .i64 t, .int .i64 lo, .int .i64 hi, .int .i64 i, .int .i64 at_], .int .i64 n] w fun r w' => r = .returned (.bool (fitF t lo hi n)) ∧ ∃ c, w' = w.alloc (.cells c 59) := by
  by_cases h1 : t = 1
  · subst h1
    have HV : Hid (fitF 1 lo hi n = (n == 0 || n == 1)) := rfl
    cases e0 : (n == 0) <;> cases e1 : (n == 1)
    all_goals simp only [e0, e1] at HV
    all_goals go_enter Tryd.func34, Tryd.ntmps34
    all_goals go_wp2
    all_goals go_ret
    all_goals exact ⟨ret_bool HV.out.symm, _, rfl⟩
  by_cases h2 : t = 2
  · subst h2
    go_enter Tryd.func34, Tryd.ntmps34
    go_wp2
    go_ret
    exact ⟨rfl, _, rfl⟩
  by_cases h3 : t = 3
  · subst h3
    have HV : Hid (fitF 3 lo hi n = (decide (lo ≤ n) && decide (n ≤ hi))) := rfl
    clear h1 h2
    cases e0 : decide (lo ≤ n) <;> cases e1 : decide (n ≤ hi)
    all_goals simp only [e0, e1] at HV
    all_goals go_enter Tryd.func34, Tryd.ntmps34
    all_goals go_wp2
    all_goals go_ret
    all_goals exact ⟨ret_bool HV.out.symm, _, rfl⟩
  · have HV : Hid (fitF t lo hi n = false) := by show _ = _; unfold fitF; rw [if_neg h1, if_neg h2, if_neg h3]
    have d1 : (t == 1) = false := by rw [beq_eq_false_iff_ne]; exact h1
    have d2 : (t == 2) = false := by rw [beq_eq_false_iff_ne]; exact h2
    have d3 : (t == 3) = false := by rw [beq_eq_false_iff_ne]; exact h3
    clear h1 h2 h3
    go_enter Tryd.func34, Tryd.ntmps34
    go_wp2
    go_ret
    exact ⟨ret_bool HV.out.symm, _, rfl⟩
end Go.Proofs.YtopiceoofdlkbaaDoor
