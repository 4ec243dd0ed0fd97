/-
  Package num and the document's answer: Add, Sub, Neg tell the whole number where 64 bits are enough.
-/
import Derived.Test.YtflhdohbkhmoaaaRows
import Derived.WalkKit
import Derived.ProofKit
import Derived.OpenShut
import Derived.Below
namespace Go.Proofs.Ytflhdohbkhmoaaa
open Go.ChangeShapes Go.WideShapes Go.ChangeAt Go.RowKit
theorem hid {p : Prop} (h : p) : Hid p := h
def InR (x : Int) : Prop := -9223372036854775808 ≤ x ∧ x ≤ 9223372036854775807
instance (x : Int) : Decidable (InR x) := by unfold InR; infer_instance
def fb (x : Int) : Bool := decide (InR x)
def fv (x : Int) : Int := if InR x then x else 0
theorem fv_in {x : Int} (h : InR x) : fv x = x := by unfold fv; rw [if_pos h]
theorem fb_in {x : Int} (h : InR x) : fb x = true := by unfold fb; exact decide_eq_true h
theorem fv_out {x : Int} (h : ¬ InR x) : fv x = 0 := by unfold fv; rw [if_neg h]
theorem fb_out {x : Int} (h : ¬ InR x) : fb x = false := by unfold fb; exact decide_eq_false h
theorem fv_inR (x : Int) : InR (fv x) := by
  by_cases h : InR x
  · rw [fv_in h]; exact h
  · rw [fv_out h]; unfold InR; omega
theorem InR.wr {x : Int} (h : InR x) : wrap64 x = x := by unfold InR at h; unfold wrap64; omega
theorem inR_of {x : Int} (h : (Lit.int .i64 x).wf = true) : InR x := by
  unfold InR
  simpa [Lit.wf, IntKind.min, IntKind.max, IntKind.signed, IntKind.bits] using h
def two (x : Int) : Value := .tuple #[.int .i64 (fv x), .bool (fb x)]
theorem two_in {x : Int} (h : InR x) : two x = .tuple #[.int .i64 x, .bool true] := by unfold two; rw [fv_in h, fb_in h]
theorem two_out {x : Int} (h : ¬ InR x) : two x = .tuple #[.int .i64 0, .bool false] := by unfold two; rw [fv_out h, fb_out h]
theorem add_test {a b : Int} (ha : InR a) (hb : InR b) : (!decide (a < wrap64 (a + b)) == decide (0 < b)) = !fb (a + b) := by
  unfold InR at ha hb
  by_cases h : InR (a + b)
  · rw [h.wr, fb_in h]
    by_cases hb0 : 0 < b
    · rw [decide_eq_true hb0, decide_eq_true (by omega : a < a + b)]; rfl
    · rw [decide_eq_false hb0, decide_eq_false (by omega : ¬ a < a + b)]; rfl
  · rw [fb_out h]
    unfold InR at h
    by_cases hb0 : 0 < b
    · rw [decide_eq_true hb0, decide_eq_false (by unfold wrap64; omega : ¬ a < wrap64 (a + b))]; rfl
    · rw [decide_eq_false hb0, decide_eq_true (by unfold wrap64; omega : a < wrap64 (a + b))]; rfl
theorem sub_test {a b : Int} (ha : InR a) (hb : InR b) : (!decide (wrap64 (a - b) < a) == decide (0 < b)) = !fb (a - b) := by
  unfold InR at ha hb
  by_cases h : InR (a - b)
  · rw [h.wr, fb_in h]
    by_cases hb0 : 0 < b
    · rw [decide_eq_true hb0, decide_eq_true (by omega : a - b < a)]; rfl
    · rw [decide_eq_false hb0, decide_eq_false (by omega : ¬ a - b < a)]; rfl
  · rw [fb_out h]
    unfold InR at h
    by_cases hb0 : 0 < b
    · rw [decide_eq_true hb0, decide_eq_false (by unfold wrap64; omega : ¬ wrap64 (a - b) < a)]; rfl
    · rw [decide_eq_false hb0, decide_eq_true (by unfold wrap64; omega : wrap64 (a - b) < a)]; rfl
theorem add_any {a b : Int} (ha : InR a) (hb : InR b) (w : World) : Calls Try.prog 9 #[.int .i64 a, .int .i64 b] w fun r w' => r = .returned (two (a + b)) ∧ w' = w := by
  have ht := add_test ha hb
  by_cases h : InR (a + b)
  · rw [fb_in h] at ht; rw [two_in h]
    have HW := hid h.wr
    clear h ha hb
    go_enter Try.func9, Try.ntmps9
    go_wp2
    go_ret2
    rw [HW.out]; exact ⟨rfl, rfl⟩
  · rw [fb_out h] at ht; rw [two_out h]
    clear h ha hb
    go_enter Try.func9, Try.ntmps9
    go_wp2
    go_ret2
    exact ⟨rfl, rfl⟩
theorem sub_any {a b : Int} (ha : InR a) (hb : InR b) (w : World) : Calls Try.prog 11 #[.int .i64 a, .int .i64 b] w fun r w' => r = .returned (two (a - b)) ∧ w' = w := by
  have ht := sub_test ha hb
  by_cases h : InR (a - b)
  · rw [fb_in h] at ht; rw [two_in h]
    have HW := hid h.wr
    clear h ha hb
    go_enter Try.func11, Try.ntmps11
    go_wp2
    go_ret2
    rw [HW.out]; exact ⟨rfl, rfl⟩
  · rw [fb_out h] at ht; rw [two_out h]
    clear h ha hb
    go_enter Try.func11, Try.ntmps11
    go_wp2
    go_ret2
    exact ⟨rfl, rfl⟩
theorem neg_any {a : Int} (ha : InR a) (w : World) : Calls Try.prog 13 #[.int .i64 a] w fun r w' => r = .returned (two (-a)) ∧ w' = w := by
  have hc := fun w => sub_any (a := 0) (b := a) (by unfold InR; omega) ha w
  rw [Int.zero_sub] at hc
  have e : two (-a) = .tuple #[.int .i64 (fv (-a)), .bool (fb (-a))] := rfl
  rw [e] at hc ⊢
  generalize fv (-a) = x at *
  generalize fb (-a) = y at *
  clear e ha
  go_enter Try.func13, Try.ntmps13
  go_wp2_with (go_at_call 11; refine (hc _).mono ?_; rintro e w' ⟨rfl, rfl⟩)
  go_ret2
  exact ⟨rfl, rfl⟩
theorem addR_any {a b : Int} (ha : InR a) (hb : InR b) (w : World) : Calls Try.prog 10 #[.int .i64 a, .int .i64 b] w fun r w' => r = .returned (two (a + b)) ∧ w' = w := by
  by_cases h : InR (a + b)
  · rw [two_in h]
    have HW := hid h.wr
    unfold InR at ha hb h
    by_cases h1 : 0 < b
    · have d1 : decide (0 < b) = true := decide_eq_true h1
      have d2 : decide (b < 0) = false := decide_eq_false (by omega)
      have d3 : decide (wrap64 (9223372036854775807 - b) < a) = false := decide_eq_false (by unfold wrap64; omega)
      clear h ha hb h1
      go_enter Try.func10, Try.ntmps10
      go_wp2
      go_ret2
      rw [HW.out]; exact ⟨rfl, rfl⟩
    · have d1 : decide (0 < b) = false := decide_eq_false h1
      by_cases h2 : b < 0
      · have d2 : decide (b < 0) = true := decide_eq_true h2
        have d3 : decide (a < wrap64 (-9223372036854775808 - b)) = false := decide_eq_false (by unfold wrap64; omega)
        clear h ha hb h1 h2
        go_enter Try.func10, Try.ntmps10
        go_wp2
        go_ret2
        rw [HW.out]; exact ⟨rfl, rfl⟩
      · have d2 : decide (b < 0) = false := decide_eq_false h2
        clear h ha hb h1 h2
        go_enter Try.func10, Try.ntmps10
        go_wp2
        go_ret2
        rw [HW.out]; exact ⟨rfl, rfl⟩
  · rw [two_out h]
    unfold InR at ha hb h
    by_cases h1 : 0 < b
    · have d1 : decide (0 < b) = true := decide_eq_true h1
      have d2 : decide (b < 0) = false := decide_eq_false (by omega)
      have d3 : decide (wrap64 (9223372036854775807 - b) < a) = true := decide_eq_true (by unfold wrap64; omega)
      clear h ha hb h1
      go_enter Try.func10, Try.ntmps10
      go_wp2
      go_ret2
      exact ⟨rfl, rfl⟩
    · have d1 : decide (0 < b) = false := decide_eq_false h1
      have h2 : b < 0 := by omega
      have d2 : decide (b < 0) = true := decide_eq_true h2
      have d3 : decide (a < wrap64 (-9223372036854775808 - b)) = true := decide_eq_true (by unfold wrap64; omega)
      clear h ha hb h1 h2
      go_enter Try.func10, Try.ntmps10
      go_wp2
      go_ret2
      exact ⟨rfl, rfl⟩
theorem subR_any {a b : Int} (ha : InR a) (hb : InR b) (w : World) : Calls Try.prog 12 #[.int .i64 a, .int .i64 b] w fun r w' => r = .returned (two (a - b)) ∧ w' = w := by
  by_cases h : InR (a - b)
  · rw [two_in h]
    have HW := hid h.wr
    unfold InR at ha hb h
    by_cases h1 : b < 0
    · have d1 : decide (b < 0) = true := decide_eq_true h1
      have d2 : decide (0 < b) = false := decide_eq_false (by omega)
      have d3 : decide (wrap64 (9223372036854775807 + b) < a) = false := decide_eq_false (by unfold wrap64; omega)
      clear h ha hb h1
      go_enter Try.func12, Try.ntmps12
      go_wp2
      go_ret2
      rw [HW.out]; exact ⟨rfl, rfl⟩
    · have d1 : decide (b < 0) = false := decide_eq_false h1
      by_cases h2 : 0 < b
      · have d2 : decide (0 < b) = true := decide_eq_true h2
        have d3 : decide (a < wrap64 (-9223372036854775808 + b)) = false := decide_eq_false (by unfold wrap64; omega)
        clear h ha hb h1 h2
        go_enter Try.func12, Try.ntmps12
        go_wp2
        go_ret2
        rw [HW.out]; exact ⟨rfl, rfl⟩
      · have d2 : decide (0 < b) = false := decide_eq_false h2
        clear h ha hb h1 h2
        go_enter Try.func12, Try.ntmps12
        go_wp2
        go_ret2
        rw [HW.out]; exact ⟨rfl, rfl⟩
  · rw [two_out h]
    unfold InR at ha hb h
    by_cases h1 : b < 0
    · have d1 : decide (b < 0) = true := decide_eq_true h1
      have d2 : decide (0 < b) = false := decide_eq_false (by omega)
      have d3 : decide (wrap64 (9223372036854775807 + b) < a) = true := decide_eq_true (by unfold wrap64; omega)
      clear h ha hb h1
      go_enter Try.func12, Try.ntmps12
      go_wp2
      go_ret2
      exact ⟨rfl, rfl⟩
    · have d1 : decide (b < 0) = false := decide_eq_false h1
      have h2 : 0 < b := by omega
      have d2 : decide (0 < b) = true := decide_eq_true h2
      have d3 : decide (a < wrap64 (-9223372036854775808 + b)) = true := decide_eq_true (by unfold wrap64; omega)
      clear h ha hb h1 h2
      go_enter Try.func12, Try.ntmps12
      go_wp2
      go_ret2
      exact ⟨rfl, rfl⟩
theorem negR_any {a : Int} (ha : InR a) (w : World) : Calls Try.prog 14 #[.int .i64 a] w fun r w' => r = .returned (two (-a)) ∧ w' = w := by
  by_cases h : a = -9223372036854775808
  · subst h
    rw [two_out (by unfold InR; omega)]
    go_enter Try.func14, Try.ntmps14
    go_wp2
    go_ret2
    exact ⟨rfl, rfl⟩
  · have hr : InR (-a) := by unfold InR at ha ⊢; omega
    rw [two_in hr]
    have HW := hid hr.wr
    have d : (a == -9223372036854775808) = false := by rw [beq_eq_false_iff_ne]; exact h
    clear hr ha h
    go_enter Try.func14, Try.ntmps14
    go_wp2
    go_ret2
    rw [HW.out]; exact ⟨rfl, rfl⟩
end Go.Proofs.Ytflhdohbkhmoaaa
