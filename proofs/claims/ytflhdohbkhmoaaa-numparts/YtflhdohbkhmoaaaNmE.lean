/-
  Numbers alone: what the quotient and the greatest divisor are to one another.
-/
import Derived.Test.YtflhdohbkhmoaaaNmD
namespace Go.Proofs.Ytflhdohbkhmoaaa
open Go.ChangeShapes Go.WideShapes Go.ChangeAt Go.RowKit
theorem quo_fact {a b : Int} (ha : InR a) (hb : InR b) (h : 0 < b) : InR (a / b) ∧ (InR (a / b * b) → InR (a - a / b * b) ∧ 0 ≤ a - a / b * b ∧ a - a / b * b < b) := by
  refine ⟨?_, fun _ => ?_⟩
  · by_cases h1 : a.tmod b < 0
    · have := div_low ha h h1
      rw [this.2]; exact this.1
    · rw [div_high h (by omega)]; exact tdiv_in ha h
  · have e := Int.mul_ediv_add_emod a b
    have h1 := Int.emod_nonneg a (show b ≠ 0 by omega)
    have h2 := Int.emod_lt_of_pos a h
    rw [Int.mul_comm] at e
    have e2 : a - a / b * b = a % b := by omega
    rw [e2]
    unfold InR at hb ⊢; omega
theorem has_two {a b : Int} : hasL [a, b] = (a == -9223372036854775808 || b == -9223372036854775808) := by unfold hasL; simp
theorem has_three {a b c : Int} : hasL [a, b, c] = (a == -9223372036854775808 || b == -9223372036854775808 || c == -9223372036854775808) := by unfold hasL; simp [Bool.or_assoc]
theorem gcd_least {a b : Int} (h : a = -9223372036854775808 ∨ b = -9223372036854775808) : gcdL [a, b] = 0 := by
  unfold gcdL
  rw [if_pos (by rw [has_two]; rcases h with rfl | rfl <;> simp)]
theorem gcd_two {a b : Int} (h1 : a ≠ -9223372036854775808) (h2 : b ≠ -9223372036854775808) : gcdL [a, b] = ((gg a b : Nat) : Int) := by
  unfold gcdL
  rw [if_neg (by rw [has_two]; simp [h1, h2])]
  simp [List.foldl, gg]
theorem gg_dvd {a b : Int} : (a.tmod ((gg a b : Nat) : Int) = 0) ∧ (b.tmod ((gg a b : Nat) : Int) = 0) := by
  constructor
  · apply Int.natAbs_eq_zero.mp
    rw [Int.natAbs_tmod, Int.natAbs_natCast]
    exact Nat.mod_eq_zero_of_dvd (Nat.gcd_dvd_left _ _)
  · apply Int.natAbs_eq_zero.mp
    rw [Int.natAbs_tmod, Int.natAbs_natCast]
    exact Nat.mod_eq_zero_of_dvd (Nat.gcd_dvd_right _ _)
theorem gg_null {a b : Int} : gg a b = 0 ↔ a = 0 ∧ b = 0 := by
  unfold gg
  rw [Nat.gcd_eq_zero_iff]; omega
theorem gcd_three {a b : Int} (h3 : a ≠ -9223372036854775808) (h4 : b ≠ -9223372036854775808) : gcdL [a, b, ((gg a b : Nat) : Int)] = ((gg a b : Nat) : Int) := by
  unfold gcdL
  rw [if_neg (by rw [has_three]; simp [h3, h4])]
  simp [List.foldl, gg]
theorem small_mul {a k : Int} (hk : 1 ≤ k ∧ k ≤ 1000) (ha : -1125899906842624 ≤ a ∧ a ≤ 1125899906842624) : -1125899906842624000 ≤ a * k ∧ a * k ≤ 1125899906842624000 := by
  have h1 : (a * k).natAbs ≤ 1125899906842624 * 1000 := by
    rw [Int.natAbs_mul]
    exact Nat.mul_le_mul (by omega) (by omega)
  omega
theorem gg_le {a b : Int} (ha : -1125899906842624 ≤ a ∧ a ≤ 1125899906842624) (hb : -1125899906842624 ≤ b ∧ b ≤ 1125899906842624) : gg a b ≤ 1125899906842624 := by
  unfold gg
  by_cases h : a.natAbs = 0
  · rw [h, Nat.gcd_zero_left]; omega
  · exact Nat.le_trans (Nat.gcd_le_left _ (by omega)) (by omega)
theorem gcd_times {a b k : Int} (hk : 1 ≤ k ∧ k ≤ 1000) (ha : -1125899906842624 ≤ a ∧ a ≤ 1125899906842624) (hb : -1125899906842624 ≤ b ∧ b ≤ 1125899906842624) :
    gcdL [wrap64 (a * k), wrap64 (b * k)] = wrap64 (((gg a b : Nat) : Int) * k) ∧ InR (wrap64 (a * k)) ∧ InR (wrap64 (b * k)) := by
  have m1 := small_mul hk ha
  have m2 := small_mul hk hb
  have m3 := small_mul hk (a := ((gg a b : Nat) : Int)) (by have := gg_le ha hb; omega)
  have i1 : InR (a * k) := by unfold InR; omega
  have i2 : InR (b * k) := by unfold InR; omega
  have i3 : InR (((gg a b : Nat) : Int) * k) := by unfold InR; omega
  rw [i1.wr, i2.wr, i3.wr]
  refine ⟨?_, i1, i2⟩
  rw [gcd_two (by omega) (by omega)]
  have e : gg (a * k) (b * k) = gg a b * k.natAbs := by
    unfold gg
    rw [Int.natAbs_mul, Int.natAbs_mul, Nat.gcd_mul_right]
  rw [e]
  have : ((k.natAbs : Nat) : Int) = k := by omega
  rw [Int.natCast_mul, this]
theorem lie_three {w : World} {b : Nat} {x y z : Int} (h : w.heap[b]? = some (.cells #[.int .i64 x, .int .i64 y, .int .i64 z] 2)) : Sl w (some ⟨b, 0, none⟩) [x, y, z] := by
  refine .inr ⟨b, 0, rfl, fun j hj => ?_⟩
  have hc : j = 0 ∨ j = 1 ∨ j = 2 := by simp at hj; omega
  rcases hc with rfl | rfl | rfl <;> simp [World.cell?, h]
theorem lie_two' {W : World} {b : Nat} {x y : Int} (hb : W.heap.size = b) : Sl (W.alloc (.cells #[.int .i64 x, .int .i64 y] 2)) (some ⟨b, 0, none⟩) [x, y] := by
  subst hb
  exact lie_two (MapKept.heap_alloc _ _).1
theorem lie_three' {W : World} {b : Nat} {x y z : Int} (hb : W.heap.size = b) : Sl (W.alloc (.cells #[.int .i64 x, .int .i64 y, .int .i64 z] 2)) (some ⟨b, 0, none⟩) [x, y, z] := by
  subst hb
  exact lie_three (MapKept.heap_alloc _ _).1
theorem seven_ways (a b k : Int) : decide (k < 1) = true ∨ (decide (k < 1) = false ∧ decide (1000 < k) = true) ∨ (decide (k < 1) = false ∧ decide (1000 < k) = false ∧ decide (1125899906842624 < a) = true) ∨ (decide (k < 1) = false ∧ decide (1000 < k) = false ∧ decide (1125899906842624 < a) = false ∧ decide (a < -1125899906842624) = true) ∨ (decide (k < 1) = false ∧ decide (1000 < k) = false ∧ decide (1125899906842624 < a) = false ∧ decide (a < -1125899906842624) = false ∧ decide (1125899906842624 < b) = true) ∨ (decide (k < 1) = false ∧ decide (1000 < k) = false ∧ decide (1125899906842624 < a) = false ∧ decide (a < -1125899906842624) = false ∧ decide (1125899906842624 < b) = false ∧ decide (b < -1125899906842624) = true) ∨ (decide (k < 1) = false ∧ decide (1000 < k) = false ∧ decide (1125899906842624 < a) = false ∧ decide (a < -1125899906842624) = false ∧ decide (1125899906842624 < b) = false ∧ decide (b < -1125899906842624) = false) := by
  simp only [decide_eq_true_eq, decide_eq_false_iff_not]; omega
set_option maxHeartbeats 1000000 in
theorem live_at (w : World) : Calls Try.prog 15 #[] w fun r w' => r = .returned (.bool true) ∧ ∃ c1 n c2, w' = ((w.alloc (.cells c1 2)).drewN n).alloc (.cells c2 28) := by
  have hA := fun w => add_any (a := 9223372036854775807) (b := 1) (by unfold InR; omega) (by unfold InR; omega) w
  have hB := fun w => mul_any (a := -9223372036854775808) (b := -1) (by unfold InR; omega) (by unfold InR; omega) w
  have hC := fun w => mul_any (a := -3) (b := 5) (by unfold InR; omega) (by unfold InR; omega) w
  have hD := fun w => div_any (a := -1) (b := 2) (by unfold InR; omega) w
  rw [two_live1] at hA
  rw [two_live2] at hB
  rw [two_live3] at hC
  have hG := fun w ad cap hs => gcd_any [6, -4] ad cap w (by simp) (by simp [InR]) hs
  have eG : gcdL [6, -4] = 2 := by decide
  have eD : divF (-1) 2 = -1 := by decide
  rw [eG] at hG
  rw [eD] at hD
  have hF := fun w => fits_any ⟨#[]⟩ 2 0 0 0 0 (-9) w
  have eF : fitF 2 0 0 (-9) = true := by decide
  rw [eF] at hF
  clear eG eD eF
  go_enter Try.func15, Try.ntmps15
  go_wp2_with (first | (go_at_call 9; refine (hA _).mono ?_; rintro e w' ⟨rfl, rfl⟩) | (go_at_call 16; refine (mul_any (by unfold InR; omega) (by unfold InR; omega) _).mono ?_; simp only [two_live2, two_live3]; rintro e w' ⟨rfl, rfl⟩) | (go_at_call 20; refine (hD _).mono ?_; rintro e w' ⟨rfl, rfl⟩) | (go_at_call 22; refine (hG _ _ 2 (lie_two (MapKept.heap_alloc _ _).1)).mono ?_; rintro e w2 ⟨rfl, n2, rfl⟩) | (go_at_call 18; refine (hF _).mono ?_; rintro e w3 ⟨rfl, c3, rfl⟩))
  go_ret
  exact ⟨rfl, _, _, _, rfl⟩
end Go.Proofs.Ytflhdohbkhmoaaa
