/-
  The small functions of the document's answer for package print: level, sides, sign, Digits.
-/
import Derived.Test.YtnljhlmopjgogaaDoorPnB
namespace Go.Proofs.YtnljhlmopjgogaaDoor
open Go.RowKit Px
theorem ret_int {a b : Int} (h : a = b) : Ending.returned (.int .i64 a) = .returned (.int .i64 b) := by rw [h]
theorem own_low (op : Int) (h : op < 5 ∨ op = 6 ∨ op = 7 ∨ 17 < op) : own op = 6 := by
  unfold own
  rcases h with h | rfl | rfl | h
  · rw [if_neg (by simp [signed]; omega)]
  · rfl
  · rfl
  · rw [if_neg (by simp [signed]; omega)]
theorem own_rel (op : Int) (h : 10 ≤ op ∧ op ≤ 15) : own op = 4 := by
  have : op = 10 ∨ op = 11 ∨ op = 12 ∨ op = 13 ∨ op = 14 ∨ op = 15 := by omega
  rcases this with rfl | rfl | rfl | rfl | rfl | rfl <;> rfl
set_option maxHeartbeats 1000000 in
theorem level_any (op : Int) (w : World) : Calls Tryd.prog 46 #[.int .i64 op] w fun r w' => r = .returned (.int .i64 ((own op : Nat) : Int)) ∧ w' = w := by
  by_cases q17 : op = 17
  · subst q17
    go_enter Tryd.func46, Tryd.ntmps46
    go_wp2
    go_ret
    exact ⟨rfl, rfl⟩
  by_cases q16 : op = 16
  · subst q16
    go_enter Tryd.func46, Tryd.ntmps46
    go_wp2
    go_ret
    exact ⟨rfl, rfl⟩
  by_cases q5 : op = 5
  · subst q5
    go_enter Tryd.func46, Tryd.ntmps46
    go_wp2
    go_ret
    exact ⟨rfl, rfl⟩
  have b17 : (op == 17) = false := by rw [beq_eq_false_iff_ne]; exact q17
  have b16 : (op == 16) = false := by rw [beq_eq_false_iff_ne]; exact q16
  have b5 : (op == 5) = false := by rw [beq_eq_false_iff_ne]; exact q5
  by_cases q8 : op = 8
  · subst q8
    go_enter Tryd.func46, Tryd.ntmps46
    go_wp2
    go_ret
    exact ⟨rfl, rfl⟩
  by_cases q9 : op = 9
  · subst q9
    go_enter Tryd.func46, Tryd.ntmps46
    go_wp2
    go_ret
    exact ⟨rfl, rfl⟩
  have b8 : (op == 8) = false := by rw [beq_eq_false_iff_ne]; exact q8
  have b9 : (op == 9) = false := by rw [beq_eq_false_iff_ne]; exact q9
  by_cases hr : 10 ≤ op ∧ op ≤ 15
  · have HR := hid (own_rel op hr)
    have h1 : (10 : Int) ≤ op := hr.1
    have h2 : op ≤ 15 := hr.2
    clear hr
    go_enter Tryd.func46, Tryd.ntmps46
    go_wp2
    go_ret
    exact ⟨ret_int (by rw [HR.out]; rfl), rfl⟩
  · have HR := hid (own_low op (by omega))
    by_cases h10 : 10 ≤ op
    · have h15 : decide (op ≤ 15) = false := by simp; omega
      clear hr
      go_enter Tryd.func46, Tryd.ntmps46
      go_wp2
      go_ret
      exact ⟨ret_int (by rw [HR.out]; rfl), rfl⟩
    · have h10' : decide (10 ≤ op) = false := by simp; omega
      clear hr
      go_enter Tryd.func46, Tryd.ntmps46
      go_wp2
      go_ret
      exact ⟨ret_int (by rw [HR.out]; rfl), rfl⟩
set_option maxHeartbeats 1000000 in
theorem sides_any (op : Int) (w : World) (h : 8 ≤ op ∧ op ≤ 17) : Calls Tryd.prog 47 #[.int .i64 op] w fun r w' => r = .returned (.tuple #[.int .i64 (((sgnOf op).2.2.1 : Nat) : Int), .int .i64 (((sgnOf op).2.2.2 : Nat) : Int)]) ∧ w' = w := by
  have hc : op = 8 ∨ op = 9 ∨ op = 10 ∨ op = 11 ∨ op = 12 ∨ op = 13 ∨ op = 14 ∨ op = 15 ∨ op = 16 ∨ op = 17 := by omega
  rcases hc with rfl | rfl | rfl | rfl | rfl | rfl | rfl | rfl | rfl | rfl
  all_goals go_enter Tryd.func47, Tryd.ntmps47
  all_goals go_wp2
  all_goals go_ret2
  all_goals exact ⟨rfl, rfl⟩
/-- A sign without its blanks. -/
def sgnIn (op : Int) : ByteArray := (sgnOf op).1.extract 1 ((sgnOf op).1.size - 1)
set_option maxHeartbeats 1000000 in
theorem sign_any (op : Int) (w : World) (h : 8 ≤ op ∧ op ≤ 17) : Calls Tryd.prog 49 #[.int .i64 op] w fun r w' => (∃ s : ByteArray, r = .returned (.string s) ∧ 32 :: (s.data.toList ++ [32]) = (sgnOf op).1.data.toList) ∧ Below w.heap.size w w' := by
  have hc : op = 8 ∨ op = 9 ∨ op = 10 ∨ op = 11 ∨ op = 12 ∨ op = 13 ∨ op = 14 ∨ op = 15 ∨ op = 16 ∨ op = 17 := by omega
  rcases hc with rfl | rfl | rfl | rfl | rfl | rfl | rfl | rfl | rfl | rfl
  all_goals go_enter Tryd.func49, Tryd.ntmps49
  all_goals go_wp2
  all_goals go_ret
  all_goals exact ⟨⟨_, rfl, rfl⟩, (Below.refl _ w).al le_rfl' _⟩
theorem digit_cut (k : Nat) (h : k < 10) : (⟨#[48, 49, 50, 51, 52, 53, 54, 55, 56, 57]⟩ : ByteArray).extract k (k + 1) = ⟨#[UInt8.ofNat (48 + k)]⟩ := by
  have hc : k = 0 ∨ k = 1 ∨ k = 2 ∨ k = 3 ∨ k = 4 ∨ k = 5 ∨ k = 6 ∨ k = 7 ∨ k = 8 ∨ k = 9 := by omega
  rcases hc with rfl | rfl | rfl | rfl | rfl | rfl | rfl | rfl | rfl | rfl <;> rfl
theorem ba_eq {a b : ByteArray} (h : a.data.toList = b.data.toList) : a = b := by
  apply ByteArray.ext
  exact Array.ext' h
theorem decDigits_step (a : Nat) : Lib.decDigits a = (if a / 10 = 0 then [] else Lib.decDigits (a / 10)) ++ [UInt8.ofNat (48 + a % 10)] := by
  rw [Lib.decDigits]
  by_cases h : a < 10
  · rw [dif_pos h, if_pos (by omega), Nat.mod_eq_of_lt h]; rfl
  · rw [dif_neg h, if_neg (by omega)]
theorem tmod10_neg (m : Int) (h : m < 0) : m.tmod 10 = -((m.natAbs % 10 : Nat) : Int) := by
  cases m with
  | ofNat a => exact absurd h (by simp)
  | negSucc a => rfl
theorem tmod10_pos (m : Int) (h : ¬ m < 0) : m.tmod 10 = ((m.natAbs % 10 : Nat) : Int) := by
  cases m with
  | ofNat a => rfl
  | negSucc a => exact absurd (Int.negSucc_lt_zero a) h
set_option maxRecDepth 100000 in
set_option maxHeartbeats 1000000 in
theorem digits_any (n : Int) (w : World) (hn : I64 n) : Calls Tryd.prog 48 #[.int .i64 n] w fun r w' => r = .returned (.string ⟨(Lib.itoa n).toArray⟩) ∧ w' = w := by
  have hlen := itoa_len n hn
  unfold I64 at hn
  by_cases h0 : n = 0
  · subst h0
    go_enter Tryd.func48, Tryd.ntmps48
    go_wp2
    go_ret
    refine ⟨?_, rfl⟩
    have : Lib.itoa 0 = [48] := by simp [Lib.itoa, Lib.decDigits]
    rw [this]
    rfl
  · have h0b : (n == 0) = false := by rw [beq_eq_false_iff_ne]; exact h0
    go_enter Tryd.func48, Tryd.ntmps48
    go_wp2
    go_loopw [3, 5, 6] (fun vs vm vk wr => ∃ (s : ByteArray) (m : Int), vs = .string s ∧ vm = .int .i64 m ∧ wr = w ∧ -9223372036854775808 ≤ m ∧ m ≤ 9223372036854775807 ∧ s.size ≤ 20 ∧ Hid (Lib.decDigits n.natAbs = (if m.natAbs = 0 then [] else Lib.decDigits m.natAbs) ++ s.data.toList)) (fun _ m _ _ => (intOf m).natAbs)
    case atStart => exact ⟨⟨#[]⟩, n, rfl, rfl, rfl, hn.1, hn.2, by decide, by show _ = _; rw [if_neg (by omega)]; simp⟩
    case round =>
      obtain ⟨s, m, rfl, rfl, hwr, hm1, hm2, hs, HD⟩ := hrel
      have hwr2 := hwr.symm
      subst hwr2
      clear hwr
      by_cases hm0 : m = 0
      · subst hm0
        have HD2 : Hid (Lib.decDigits n.natAbs = s.data.toList) := by show _ = _; rw [HD.out]; simp
        by_cases hneg : n < 0
        · have HNG := hid hneg
          have hng : ¬ (9223372036854775807 < 1 + s.size) := by omega
          go_wp2
          go_ret
          refine ⟨?_, rfl⟩
          have e : (⟨#[45]⟩ : ByteArray) ++ s = ⟨(Lib.itoa n).toArray⟩ := ba_eq (by rw [Lib.itoa, if_pos HNG.out, HD2.out]; simp [ByteArray.data_append])
          rw [← e]
          rfl
        · have HNG := hid hneg
          have hnd : decide (n < 0) = false := decide_eq_false hneg
          go_wp2
          go_ret
          refine ⟨?_, rfl⟩
          have e : s = ⟨(Lib.itoa n).toArray⟩ := ba_eq (by rw [Lib.itoa, if_neg (by have := HNG.out; omega), show n.toNat = n.natAbs by have := HNG.out; omega, HD2.out])
          rw [← e]
          rfl
      · have hmb : (m != 0) = true := by rw [bne_iff_ne]; exact hm0
        obtain ⟨k, hk⟩ : ∃ k : Nat, m.natAbs % 10 = k := ⟨_, rfl⟩
        have hk10 : k < 10 := by omega
        have hstep := decDigits_step m.natAbs
        rw [hk] at hstep
        have hcut := digit_cut k hk10
        obtain ⟨m', hm'⟩ : ∃ m' : Int, m.tdiv 10 = m' := ⟨_, rfl⟩
        have hma : m'.natAbs = m.natAbs / 10 := by rw [← hm', Int.natAbs_tdiv]; rfl
        have hlen2 : (Lib.decDigits n.natAbs).length ≤ 20 := by have := decDigits_len n.natAbs 18 (by omega); omega
        have hs2 : s.size + 1 ≤ 20 := by
          have h1 := HD.out
          rw [if_neg (by omega), hstep] at h1
          have h2 := congrArg List.length h1
          simp only [List.length_append, List.length_cons, List.length_nil] at h2
          have h3 : s.data.toList.length = s.size := by simp
          omega
        have HN : Hid (Lib.decDigits n.natAbs = (if m'.natAbs = 0 then [] else Lib.decDigits m'.natAbs) ++ (⟨#[UInt8.ofNat (48 + k)]⟩ ++ s : ByteArray).data.toList) := by
          show _ = _
          rw [HD.out, if_neg (by omega), hstep, hma]
          simp [ByteArray.data_append]
        have hmr : -9223372036854775808 ≤ m' ∧ m' ≤ 9223372036854775807 ∧ m'.natAbs < m.natAbs := by omega
        have hg : ¬ (9223372036854775807 < 1 + s.size) := by omega
        obtain ⟨c, hc⟩ : ∃ c, UInt8.ofNat (48 + k) = c := ⟨_, rfl⟩
        rw [hc] at hcut HN
        clear hc hstep
        have hrel2 : ∃ (s_1 : ByteArray) (m_1 : Int), Value.string ((⟨#[c]⟩ : ByteArray) ++ s) = .string s_1 ∧ Value.int .i64 m' = .int .i64 m_1 ∧ w = w ∧ -9223372036854775808 ≤ m_1 ∧ m_1 ≤ 9223372036854775807 ∧ s_1.size ≤ 20 ∧ Hid (Lib.decDigits n.natAbs = (if m_1.natAbs = 0 then [] else Lib.decDigits m_1.natAbs) ++ s_1.data.toList) :=
          ⟨_, m', rfl, rfl, rfl, hmr.1, hmr.2.1, by rw [ByteArray.size_append']; show 1 + s.size ≤ 20; omega, HN⟩
        have HREL := hid hrel2
        clear hrel2
        by_cases hneg : m < 0
        · have htm : m.tmod 10 = -(k : Int) := by rw [tmod10_neg m hneg, hk]
          by_cases hk0 : k = 0
          · have htm0 : m.tmod 10 = 0 := by rw [htm, hk0]; rfl
            have hcut0 : (⟨#[48, 49, 50, 51, 52, 53, 54, 55, 56, 57]⟩ : ByteArray).extract 0 1 = ⟨#[c]⟩ := by rw [← hcut, hk0]
            clear htm hcut hk0 hk
            go_wp2
            go_roundw
            case rel => obtain ⟨s1, m1, a1, a2, -, a4⟩ := HREL.out; exact ⟨s1, m1, a1, a2, by trivial, a4⟩
            case measure => simp [intOf]; omega
          · have hkn : -(k : Int) < 0 := by omega
            clear hk0
            go_wp2
            go_roundw
            case rel => obtain ⟨s1, m1, a1, a2, -, a4⟩ := HREL.out; exact ⟨s1, m1, a1, a2, by trivial, a4⟩
            case measure => simp [intOf]; omega
        · have htm : m.tmod 10 = (k : Int) := by rw [tmod10_pos m hneg, hk]
          go_wp2
          go_roundw
          case rel => obtain ⟨s1, m1, a1, a2, -, a4⟩ := HREL.out; exact ⟨s1, m1, a1, a2, by trivial, a4⟩
          case measure => simp [intOf]; omega
end Go.Proofs.YtnljhlmopjgogaaDoor
