/-
  Package num and the document's answer: Mul tells the product where 64 bits are enough.
-/
import Derived.Test.YtflhdohbkhmoaaaNmA
import Derived.Deep.Cut
namespace Go.Proofs.Ytflhdohbkhmoaaa
open Go.ChangeShapes Go.WideShapes Go.ChangeAt Go.RowKit
theorem prod_abs (a b : Int) : (a * b).natAbs = a.natAbs * b.natAbs := Int.natAbs_mul a b
/-- The product, divided by one of its factors, is the other one just where it has not wrapped round. -/
theorem mul_test {a b : Int} (ha : InR a) (hb : InR b) (h0 : a ≠ 0) (h1 : a ≠ -1) : (wrap64 ((wrap64 (a * b)).tdiv a) != b) = !fb (a * b) := by
  by_cases h : InR (a * b)
  · rw [h.wr, fb_in h, Int.mul_tdiv_cancel_left b h0, hb.wr]
    simp
  · rw [fb_out h]
    have hne : wrap64 ((wrap64 (a * b)).tdiv a) ≠ b := by
      intro he
      have h2' : a ≠ 1 := by rintro rfl; exact h (by rw [Int.one_mul]; exact hb)
      have hP : -9223372036854775808 ≤ wrap64 (a * b) ∧ wrap64 (a * b) ≤ 9223372036854775807 := by unfold wrap64; omega
      have hD : ∃ k : Int, a * b = wrap64 (a * b) + k * 18446744073709551616 ∧ k ≠ 0 := by
        refine ⟨(a * b + 9223372036854775808) / 18446744073709551616, ?_, ?_⟩
        · unfold wrap64; omega
        · unfold InR at h; omega
      obtain ⟨k, hk, hk0⟩ := hD
      generalize wrap64 (a * b) = P at *
      have hq := Int.mul_tdiv_add_tmod P a
      have hlt : (P.tmod a).natAbs < a.natAbs := by
        rw [Int.natAbs_tmod]
        exact Nat.mod_lt _ (Int.natAbs_pos.mpr h0)
      have hqs : (P.tdiv a).natAbs ≤ 4611686018427387904 := by
        rw [Int.natAbs_tdiv]
        have h2 : 2 ≤ a.natAbs := by omega
        have := Nat.div_le_div_left h2 (by omega : 0 < 2) (a := P.natAbs)
        have h3 : P.natAbs ≤ 9223372036854775808 := by omega
        have h4 : P.natAbs / 2 ≤ 4611686018427387904 := by omega
        exact Nat.le_trans this h4
      have hw : wrap64 (P.tdiv a) = P.tdiv a := InR.wr (by unfold InR; omega)
      rw [hw] at he
      rw [he] at hq
      unfold InR at ha
      omega
    simpa using hne
theorem mul_any {a b : Int} (ha : InR a) (hb : InR b) (w : World) : Calls Try.prog 16 #[.int .i64 a, .int .i64 b] w fun r w' => r = .returned (two (a * b)) ∧ w' = w := by
  by_cases h0 : a = 0
  · subst h0
    rw [Int.zero_mul, two_in (by unfold InR; omega)]
    go_enter Try.func16, Try.ntmps16
    go_wp2
    go_ret2
    exact ⟨rfl, rfl⟩
  by_cases h1 : a = -1
  · subst h1
    have e1 : -1 * b = -b := by omega
    rw [e1]
    have hc := fun w => neg_any hb w
    have e : two (-b) = .tuple #[.int .i64 (fv (-b)), .bool (fb (-b))] := rfl
    rw [e] at hc ⊢
    generalize fv (-b) = x at *
    generalize fb (-b) = y at *
    clear e e1 ha hb h0
    go_enter Try.func16, Try.ntmps16
    go_wp2_with (go_at_call 13; refine (hc _).mono ?_; rintro e w' ⟨rfl, rfl⟩)
    go_ret2
    exact ⟨rfl, rfl⟩
  have ht := mul_test ha hb h0 h1
  have d0 : (a == 0) = false := by rw [beq_eq_false_iff_ne]; exact h0
  have d1 : (a == -1) = false := by rw [beq_eq_false_iff_ne]; exact h1
  by_cases h : InR (a * b)
  · rw [fb_in h] at ht; rw [two_in h]
    have HW := hid h.wr
    clear h ha hb
    go_enter Try.func16, Try.ntmps16
    go_wp2
    go_ret2
    rw [HW.out]; exact ⟨rfl, rfl⟩
  · rw [fb_out h] at ht; rw [two_out h]
    clear h ha hb
    go_enter Try.func16, Try.ntmps16
    go_wp2
    go_ret2
    exact ⟨rfl, rfl⟩
theorem size_any {a : Int} (ha : InR a) (w : World) : Calls Try.prog 24 #[.int .i64 a] w fun r w' => r = .returned (.int .u64 (a.natAbs : Nat)) ∧ w' = w := by
  by_cases h : a < 0
  · have HV : Hid (IntKind.u64.wrap (IntKind.u64.wrap (wrap64 (-wrap64 (a + 1))) + 1) = (a.natAbs : Nat)) := by
      unfold InR at ha
      show _ = _
      simp only [IntKind.wrap_u64, wrap64]; omega
    clear ha
    go_enter Try.func24, Try.ntmps24
    go_wp2
    go_ret
    rw [HV.out]; exact ⟨rfl, rfl⟩
  · have HV : Hid (IntKind.u64.wrap a = (a.natAbs : Nat)) := by
      unfold InR at ha
      show _ = _
      simp only [IntKind.wrap_u64]; omega
    clear ha
    go_enter Try.func24, Try.ntmps24
    go_wp2
    go_ret
    rw [HV.out]; exact ⟨rfl, rfl⟩
theorem low32 (x : Nat) (hx : x < 18446744073709551616) : bits BinOp.and IntKind.u64 (x : Int) 4294967295 = ((x % 4294967296 : Nat) : Int) := by
  have h := u64_and_nat x 4294967295 hx (by omega)
  have e : x &&& 4294967295 = x % 4294967296 := Nat.and_two_pow_sub_one_eq_mod x 32
  rw [e] at h
  exact h
theorem mul_sgn {a b : Int} : (((!decide (a < 0) == decide (b < 0)) = true) → a * b = -((a.natAbs : Int) * (b.natAbs : Int))) ∧ (((!decide (a < 0) == decide (b < 0)) = false) → a * b = (a.natAbs : Int) * (b.natAbs : Int)) := by
  by_cases h1 : a < 0 <;> by_cases h2 : b < 0
  · rw [decide_eq_true h1, decide_eq_true h2]
    refine ⟨fun h => by simp at h, fun _ => ?_⟩
    have e1 : (a.natAbs : Int) = -a := by omega
    have e2 : (b.natAbs : Int) = -b := by omega
    rw [e1, e2, Int.neg_mul_neg]
  · rw [decide_eq_true h1, decide_eq_false h2]
    refine ⟨fun _ => ?_, fun h => by simp at h⟩
    have e1 : (a.natAbs : Int) = -a := by omega
    have e2 : (b.natAbs : Int) = b := by omega
    rw [e1, e2, Int.neg_mul, Int.neg_neg]
  · rw [decide_eq_false h1, decide_eq_true h2]
    refine ⟨fun _ => ?_, fun h => by simp at h⟩
    have e1 : (a.natAbs : Int) = a := by omega
    have e2 : (b.natAbs : Int) = -b := by omega
    rw [e1, e2, Int.mul_neg, Int.neg_neg]
  · rw [decide_eq_false h1, decide_eq_false h2]
    refine ⟨fun h => by simp at h, fun _ => ?_⟩
    have e1 : (a.natAbs : Int) = a := by omega
    have e2 : (b.natAbs : Int) = b := by omega
    rw [e1, e2]
/-- What the halves of two numbers come to. -/
structure Halves (P h g l m hm gl lm hg : Int) : Prop where
  hm_ : h * m = hm
  gl_ : g * l = gl
  lm_ : l * m = lm
  bhm : 0 ≤ hm ∧ hm ≤ 9223372034707292160
  bgl : 0 ≤ gl ∧ gl ≤ 9223372034707292160
  blm : 0 ≤ lm ∧ lm ≤ 18446744065119617025
  zh : h = 0 → hm = 0 ∧ hg = 0
  zg : g = 0 → gl = 0 ∧ hg = 0
  one : h ≠ 0 → g ≠ 0 → 1 ≤ hg
  nn : 0 ≤ hg
  all : P = hg * 18446744073709551616 + (hm + gl) * 4294967296 + lm
theorem halves {x y : Nat} (hx : x ≤ 9223372036854775808) (hy : y ≤ 9223372036854775808) :
    ∃ hm gl lm hg : Int, Halves ((x : Int) * (y : Int)) ((x / 4294967296 : Nat) : Int) ((y / 4294967296 : Nat) : Int) ((x % 4294967296 : Nat) : Int) ((y % 4294967296 : Nat) : Int) hm gl lm hg := by
  obtain ⟨h, hh⟩ : ∃ h, x / 4294967296 = h := ⟨_, rfl⟩
  obtain ⟨l, hl⟩ : ∃ l, x % 4294967296 = l := ⟨_, rfl⟩
  obtain ⟨g, hg⟩ : ∃ g, y / 4294967296 = g := ⟨_, rfl⟩
  obtain ⟨m, hm⟩ : ∃ m, y % 4294967296 = m := ⟨_, rfl⟩
  rw [hh, hl, hg, hm]
  have ex : x = h * 4294967296 + l := by omega
  have ey : y = g * 4294967296 + m := by omega
  have b1 : h * m ≤ 2147483648 * 4294967295 := Nat.mul_le_mul (by omega) (by omega)
  have b2 : g * l ≤ 2147483648 * 4294967295 := Nat.mul_le_mul (by omega) (by omega)
  have b3 : l * m ≤ 4294967295 * 4294967295 := Nat.mul_le_mul (by omega) (by omega)
  refine ⟨((h * m : Nat) : Int), ((g * l : Nat) : Int), ((l * m : Nat) : Int), ((h * g : Nat) : Int), ⟨by simp, by simp, by simp, by omega, by omega, by omega, fun e => ?_, fun e => ?_, fun e1 e2 => ?_, by omega, ?_⟩⟩
  · have : h = 0 := by omega
    subst this; simp
  · have : g = 0 := by omega
    subst this; simp
  · have := Nat.mul_le_mul (show 1 ≤ h by omega) (show 1 ≤ g by omega)
    omega
  · have e : x * y = (h * g) * 18446744073709551616 + (h * m + g * l) * 4294967296 + l * m := by
      rw [ex, ey, Nat.add_mul, Nat.mul_add, Nat.mul_add]
      have e1 : h * 4294967296 * (g * 4294967296) = h * g * 18446744073709551616 := by
        rw [Nat.mul_assoc, Nat.mul_left_comm 4294967296 g, ← Nat.mul_assoc, ← Nat.mul_assoc]
      have e2 : h * 4294967296 * m = h * m * 4294967296 := Nat.mul_right_comm _ _ _
      have e3 : l * (g * 4294967296) = g * l * 4294967296 := by rw [← Nat.mul_assoc, Nat.mul_comm l g]
      rw [e1, e2, e3]; omega
    have e' : (x : Int) * (y : Int) = ((x * y : Nat) : Int) := by simp
    rw [e', e]; omega
theorem ret_two {x : Int} {v : Int} {c : Bool} (h1 : fv x = v) (h2 : fb x = c) : Ending.returned (.tuple #[.int .i64 v, .bool c]) = .returned (two x) := by
  unfold two; rw [h1, h2]
set_option maxRecDepth 100000 in
set_option maxHeartbeats 1000000 in
theorem mulR_any {a b : Int} (ha : InR a) (hb : InR b) (w : World) : Calls Try.prog 17 #[.int .i64 a, .int .i64 b] w fun r w' => r = .returned (two (a * b)) ∧ w' = w := by
  go_enter Try.func17, Try.ntmps17
  go_upto_region 5 with (go_at_call 24; refine (size_any (by assumption) _).mono ?_; rintro e w' ⟨rfl, rfl⟩)
  have hx : a.natAbs ≤ 9223372036854775808 := by unfold InR at ha; omega
  have hy : b.natAbs ≤ 9223372036854775808 := by unfold InR at hb; omega
  have eh : ((a.natAbs : Nat) : Int) / 4294967296 = ((a.natAbs / 4294967296 : Nat) : Int) := by omega
  have eg : ((b.natAbs : Nat) : Int) / 4294967296 = ((b.natAbs / 4294967296 : Nat) : Int) := by omega
  have el := low32 a.natAbs (by omega)
  have em := low32 b.natAbs (by omega)
  obtain ⟨hm, gl, lm, hg, HH0⟩ := halves hx hy
  have HS := hid (@mul_sgn a b)
  rw [eh, eg, el, em]
  clear eh eg el em hx hy ha hb
  generalize ((a.natAbs / 4294967296 : Nat) : Int) = h at *
  generalize ((b.natAbs / 4294967296 : Nat) : Int) = g at *
  generalize ((a.natAbs % 4294967296 : Nat) : Int) = l at *
  generalize ((b.natAbs % 4294967296 : Nat) : Int) = m at *
  generalize ((a.natAbs : Nat) : Int) = x at *
  generalize ((b.natAbs : Nat) : Int) = y at *
  generalize x * y = P at *
  have HH := hid HH0
  clear HH0
  cases hn : (!decide (a < 0) == decide (b < 0))
  · have HP := hid (HS.out.2 hn)
    clear HS
    cases h1 : (h != 0) <;> cases h2 : (g != 0)
    all_goals go_wp2
    all_goals go_ret2
    all_goals refine ⟨?_, rfl⟩
    all_goals obtain ⟨e1, e2, e3, b1, b2, b3, z1, z2, z3, nn, al⟩ := HH.out
    all_goals have HP := HP.out
    all_goals simp only [e1, e2, e3, IntKind.wrap_u64, wrap64, bne_iff_ne, ne_eq, bne_eq_false_iff_eq] at *
    all_goals first
      | (refine ret_two (fv_out ?_) (fb_out ?_) <;> (unfold InR; omega))
      | (refine ret_two ((fv_in (show InR (a * b) by unfold InR; omega)).trans ?_) (fb_in (show InR (a * b) by unfold InR; omega)); omega)
  · have HP := hid (HS.out.1 hn)
    clear HS
    cases h1 : (h != 0) <;> cases h2 : (g != 0)
    all_goals go_wp2
    all_goals go_ret2
    all_goals refine ⟨?_, rfl⟩
    all_goals obtain ⟨e1, e2, e3, b1, b2, b3, z1, z2, z3, nn, al⟩ := HH.out
    all_goals have HP := HP.out
    all_goals simp only [e1, e2, e3, IntKind.wrap_u64, wrap64, bne_iff_ne, ne_eq, bne_eq_false_iff_eq] at *
    all_goals first
      | (refine ret_two (fv_out ?_) (fb_out ?_) <;> (unfold InR; omega))
      | (refine ret_two ((fv_in (show InR (a * b) by unfold InR; omega)).trans ?_) (fb_in (show InR (a * b) by unfold InR; omega)); omega)
end Go.Proofs.Ytflhdohbkhmoaaa
