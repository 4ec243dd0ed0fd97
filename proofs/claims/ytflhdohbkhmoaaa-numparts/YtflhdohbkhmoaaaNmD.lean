/-
  Package num: Div, Fits, and what every statement of stage 10 asks besides (live).
-/
import Derived.Test.YtflhdohbkhmoaaaNmB
import Derived.Test.YtflhdohbkhmoaaaNmC
import Derived.MapKept
namespace Go.Proofs.Ytflhdohbkhmoaaa
open Go.ChangeShapes Go.WideShapes Go.ChangeAt Go.RowKit
theorem tdiv_in {a b : Int} (ha : InR a) (hb : 0 < b) : InR (a.tdiv b) := by
  have h : (a.tdiv b).natAbs ≤ a.natAbs := by rw [Int.natAbs_tdiv]; exact Nat.div_le_self _ _
  have h2 : ¬ a.tdiv b = 9223372036854775808 := fun e => by
    have h3 : ¬ 0 ≤ a := fun h0 => by unfold InR at ha; omega
    have h4 : a < 0 := by omega
    have h5 : a.tdiv b ≤ 0 := by
      rw [← Int.neg_neg a, Int.neg_tdiv]
      have := Int.tdiv_nonneg (a := -a) (b := b) (by omega) (by omega)
      omega
    omega
  unfold InR at ha ⊢; omega
theorem div_low {a b : Int} (ha : InR a) (hb : 0 < b) (h : a.tmod b < 0) : InR (a.tdiv b - 1) ∧ a / b = a.tdiv b - 1 := by
  have e1 := Int.mul_tdiv_add_tmod a b
  have hlt : (a.tmod b).natAbs < b.natAbs := by rw [Int.natAbs_tmod]; exact Nat.mod_lt _ (by omega)
  have e2 : a / b = a.tdiv b - 1 := by
    have hu : a = b * (a.tdiv b - 1) + (a.tmod b + b) := by rw [Int.mul_sub]; omega
    conv => lhs; rw [hu]
    rw [Int.add_comm, Int.add_mul_ediv_left _ _ (by omega), Int.ediv_eq_zero_of_lt (by omega) (by omega)]
    omega
  refine ⟨?_, e2⟩
  have h1 := tdiv_in ha hb
  have h6 : ¬ a.tdiv b = -9223372036854775808 := fun e => by
    rw [e] at e1
    unfold InR at ha
    have := Int.mul_le_mul_of_nonneg_right (show 1 ≤ b by omega) (show (0 : Int) ≤ 9223372036854775808 by omega)
    omega
  unfold InR at h1 ⊢; omega
theorem div_high {a b : Int} (hb : 0 < b) (h : 0 ≤ a.tmod b) : a / b = a.tdiv b := by
  have e1 := Int.mul_tdiv_add_tmod a b
  have hlt : (a.tmod b).natAbs < b.natAbs := by rw [Int.natAbs_tmod]; exact Nat.mod_lt _ (by omega)
  conv => lhs; rw [← e1]
  rw [Int.add_comm, Int.add_mul_ediv_left _ _ (by omega), Int.ediv_eq_zero_of_lt (by omega) (by omega)]
  omega
/-- What Div tells. -/
def divF (a b : Int) : Int := if 0 < b then a / b else 0
theorem divF_pos {a b : Int} (h : 0 < b) : divF a b = a / b := by unfold divF; rw [if_pos h]
theorem divF_neg {a b : Int} (h : ¬ 0 < b) : divF a b = 0 := by unfold divF; rw [if_neg h]
theorem div_any {a b : Int} (ha : InR a) (w : World) : Calls Try.prog 20 #[.int .i64 a, .int .i64 b] w fun r w' => r = .returned (.int .i64 (divF a b)) ∧ w' = w := by
  by_cases hb : 0 < b
  · have HV := hid (divF_pos (a := a) hb)
    by_cases h : a.tmod b < 0
    · have HL := hid (div_low ha hb h)
      have HT := hid (tdiv_in ha hb)
      clear ha
      go_enter Try.func20, Try.ntmps20
      go_wp2
      go_ret
      exact ⟨ret_i (by rw [HV.out, HT.out.wr, HL.out.1.wr, HL.out.2]), rfl⟩
    · have HL := hid (div_high (a := a) hb (by omega))
      have HT := hid (tdiv_in ha hb)
      clear ha
      go_enter Try.func20, Try.ntmps20
      go_wp2
      go_ret
      exact ⟨ret_i (by rw [HV.out, HT.out.wr, HL.out]), rfl⟩
  · have HV := hid (divF_neg (a := a) hb)
    clear ha
    have hb' : b ≤ 0 := by omega
    clear hb
    go_enter Try.func20, Try.ntmps20
    go_wp2
    go_ret
    exact ⟨ret_i HV.out.symm, rfl⟩
theorem divR_any {a b : Int} (ha : InR a) (w : World) : Calls Try.prog 21 #[.int .i64 a, .int .i64 b] w fun r w' => r = .returned (.int .i64 (divF a b)) ∧ w' = w := by
  by_cases hb : 0 < b
  · have HV := hid (divF_pos (a := a) hb)
    by_cases h : a.tmod b < 0
    · have HL := hid (div_low ha hb h)
      have HT := hid (tdiv_in ha hb)
      clear ha
      go_enter Try.func21, Try.ntmps21
      go_wp2
      go_ret
      exact ⟨ret_i (by rw [HV.out, HT.out.wr, HL.out.1.wr, HL.out.2]), rfl⟩
    · have HL := hid (div_high (a := a) hb (by omega))
      have HT := hid (tdiv_in ha hb)
      clear ha
      go_enter Try.func21, Try.ntmps21
      go_wp2
      go_ret
      exact ⟨ret_i (by rw [HV.out, HT.out.wr, HL.out]), rfl⟩
  · have HV := hid (divF_neg (a := a) hb)
    clear ha
    have hb' : b ≤ 0 := by omega
    clear hb
    go_enter Try.func21, Try.ntmps21
    go_wp2
    go_ret
    exact ⟨ret_i HV.out.symm, rfl⟩
/-- What Fits tells. -/
def fitF (t lo hi n : Int) : Bool := if t = 1 then (n == 0 || n == 1) else if t = 2 then true else if t = 3 then (decide (lo ≤ n) && decide (n ≤ hi)) else false
theorem fits_any (nm : ByteArray) (t lo hi i at_ n : Int) (w : World) : Calls Try.prog 18 #[.agg #[.string nm, .int .i64 t, .int .i64 lo, .int .i64 hi, .int .i64 i, .int .i64 at_], .int .i64 n] w fun r w' => r = .returned (.bool (fitF t lo hi n)) ∧ ∃ c, w' = w.alloc (.cells c 28) := by
  by_cases h1 : t = 1
  · subst h1
    have HV : Hid (fitF 1 lo hi n = (n == 0 || n == 1)) := rfl
    cases e0 : (n == 0) <;> cases e1 : (n == 1)
    all_goals simp only [e0, e1] at HV
    all_goals go_enter Try.func18, Try.ntmps18
    all_goals go_wp2
    all_goals go_ret
    all_goals exact ⟨ret_b HV.out.symm, _, rfl⟩
  by_cases h2 : t = 2
  · subst h2
    go_enter Try.func18, Try.ntmps18
    go_wp2
    go_ret
    exact ⟨rfl, _, rfl⟩
  by_cases h3 : t = 3
  · subst h3
    have HV : Hid (fitF 3 lo hi n = (decide (lo ≤ n) && decide (n ≤ hi))) := rfl
    clear h1 h2
    cases e0 : decide (lo ≤ n) <;> cases e1 : decide (n ≤ hi)
    all_goals simp only [e0, e1] at HV
    all_goals go_enter Try.func18, Try.ntmps18
    all_goals go_wp2
    all_goals go_ret
    all_goals exact ⟨ret_b HV.out.symm, _, rfl⟩
  · have HV : Hid (fitF t lo hi n = false) := by show _ = _; unfold fitF; rw [if_neg h1, if_neg h2, if_neg h3]
    have d1 : (t == 1) = false := by rw [beq_eq_false_iff_ne]; exact h1
    have d2 : (t == 2) = false := by rw [beq_eq_false_iff_ne]; exact h2
    have d3 : (t == 3) = false := by rw [beq_eq_false_iff_ne]; exact h3
    clear h1 h2 h3
    go_enter Try.func18, Try.ntmps18
    go_wp2
    go_ret
    exact ⟨ret_b HV.out.symm, _, rfl⟩
theorem fitsR_any (nm : ByteArray) (t lo hi i at_ n : Int) (w : World) : Calls Try.prog 19 #[.agg #[.string nm, .int .i64 t, .int .i64 lo, .int .i64 hi, .int .i64 i, .int .i64 at_], .int .i64 n] w fun r w' => r = .returned (.bool (fitF t lo hi n)) ∧ ∃ c, w' = w.alloc (.cells c 28) := by
  by_cases h1 : t = 1
  · subst h1
    have HV : Hid (fitF 1 lo hi n = (n == 0 || n == 1)) := rfl
    cases e0 : (n == 0) <;> cases e1 : (n == 1)
    all_goals simp only [e0, e1] at HV
    all_goals go_enter Try.func19, Try.ntmps19
    all_goals go_wp2
    all_goals go_ret
    all_goals exact ⟨ret_b HV.out.symm, _, rfl⟩
  by_cases h2 : t = 2
  · subst h2
    go_enter Try.func19, Try.ntmps19
    go_wp2
    go_ret
    exact ⟨rfl, _, rfl⟩
  by_cases h3 : t = 3
  · subst h3
    have HV : Hid (fitF 3 lo hi n = (decide (lo ≤ n) && decide (n ≤ hi))) := rfl
    clear h1 h2
    cases e0 : decide (lo ≤ n) <;> cases e1 : decide (n ≤ hi)
    all_goals simp only [e0, e1] at HV
    all_goals go_enter Try.func19, Try.ntmps19
    all_goals go_wp2
    all_goals go_ret
    all_goals exact ⟨ret_b HV.out.symm, _, rfl⟩
  · have HV : Hid (fitF t lo hi n = false) := by show _ = _; unfold fitF; rw [if_neg h1, if_neg h2, if_neg h3]
    have d1 : (t == 1) = false := by rw [beq_eq_false_iff_ne]; exact h1
    have d2 : (t == 2) = false := by rw [beq_eq_false_iff_ne]; exact h2
    have d3 : (t == 3) = false := by rw [beq_eq_false_iff_ne]; exact h3
    clear h1 h2 h3
    go_enter Try.func19, Try.ntmps19
    go_wp2
    go_ret
    exact ⟨ret_b HV.out.symm, _, rfl⟩
theorem Grown.dr {W w : World} (h : Grown W w) (n : Nat) : Grown W (w.drewN n) := h
theorem two_live1 : two (9223372036854775807 + 1) = .tuple #[.int .i64 0, .bool false] := two_out (by unfold InR; omega)
theorem two_live2 : two (-9223372036854775808 * -1) = .tuple #[.int .i64 0, .bool false] := two_out (by unfold InR; omega)
theorem two_live3 : two (-3 * 5) = .tuple #[.int .i64 (-15), .bool true] := two_in (by unfold InR; omega)
theorem lie_two {w : World} {b : Nat} {x y : Int} (h : w.heap[b]? = some (.cells #[.int .i64 x, .int .i64 y] 2)) : Sl w (some ⟨b, 0, none⟩) [x, y] := by
  refine .inr ⟨b, 0, rfl, fun j hj => ?_⟩
  have hc : j = 0 ∨ j = 1 := by simp at hj; omega
  rcases hc with rfl | rfl <;> simp [World.cell?, h]
set_option maxHeartbeats 1000000 in
theorem live_any (w : World) : Calls Try.prog 15 #[] w fun r w' => r = .returned (.bool true) ∧ Grown w w' := by
  have hA := fun w => add_any (a := 9223372036854775807) (b := 1) (by unfold InR; omega) (by unfold InR; omega) w
  have hB := fun w => mul_any (a := -9223372036854775808) (b := -1) (by unfold InR; omega) (by unfold InR; omega) w
  have hC := fun w => mul_any (a := -3) (b := 5) (by unfold InR; omega) (by unfold InR; omega) w
  have hD := fun w => div_any (a := -1) (b := 2) (by unfold InR; omega) w
  rw [two_live1] at hA
  rw [two_live2] at hB
  rw [two_live3] at hC
  have hG := fun w ad cap hs => gcd_any [6, -4] ad cap w (by simp) (by simp [InR]) hs
  have eG : gcdL [6, -4] = 2 := by decide
  have eD : divF (-1) 2 = -1 := by decide
  rw [eG] at hG
  rw [eD] at hD
  have hF := fun w => fits_any ⟨#[]⟩ 2 0 0 0 0 (-9) w
  have eF : fitF 2 0 0 (-9) = true := by decide
  rw [eF] at hF
  clear eG eD eF
  go_enter Try.func15, Try.ntmps15
  go_wp2_with (first | (go_at_call 9; refine (hA _).mono ?_; rintro e w' ⟨rfl, rfl⟩) | (go_at_call 16; refine (mul_any (by unfold InR; omega) (by unfold InR; omega) _).mono ?_; simp only [two_live2, two_live3]; rintro e w' ⟨rfl, rfl⟩) | (go_at_call 20; refine (hD _).mono ?_; rintro e w' ⟨rfl, rfl⟩) | (go_at_call 22; refine (hG _ _ 2 (lie_two (MapKept.heap_alloc _ _).1)).mono ?_; rintro e w2 ⟨rfl, n2, rfl⟩) | (go_at_call 18; refine (hF _).mono ?_; rintro e w3 ⟨rfl, c3, rfl⟩))
  go_ret
  refine ⟨rfl, ?_⟩
  repeat (first | exact Grown.refl _ | apply Grown.drew | apply Grown.alloc | apply Grown.dr)
end Go.Proofs.Ytflhdohbkhmoaaa
