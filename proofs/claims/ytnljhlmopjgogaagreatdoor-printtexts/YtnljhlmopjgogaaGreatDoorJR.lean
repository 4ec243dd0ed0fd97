/-
  expr of the document's answer for package print.
-/
import Derived.Test.YtnljhlmopjgogaaGreatDoorPnB
import Derived.Test.YtnljhlmopjgogaaGreatDoorNsA
import Derived.Deep.Cut
import Derived.Test.YtnljhlmopjgogaaGreatDoorPnC
namespace Go.Proofs.YtnljhlmopjgogaaGreatDoor
open Go.RowKit Px
theorem ret_int {a b : Int} (h : a = b) : Ending.returned (.int .i64 a) = .returned (.int .i64 b) := by rw [h]
theorem own_low (op : Int) (h : op < 5 ∨ op = 6 ∨ op = 7 ∨ 17 < op) : own op = 6 := by
  unfold own
  rcases h with h | rfl | rfl | h
  · rw [if_neg (by simp [signed]; omega)]
  · rfl
  · rfl
  · rw [if_neg (by simp [signed]; omega)]
theorem own_rel (op : Int) (h : 10 ≤ op ∧ op ≤ 15) : own op = 4 := by
  have : op = 10 ∨ op = 11 ∨ op = 12 ∨ op = 13 ∨ op = 14 ∨ op = 15 := by omega
  rcases this with rfl | rfl | rfl | rfl | rfl | rfl <;> rfl
set_option maxHeartbeats 1000000 in
theorem level_any (op : Int) (w : World) : Calls Tryz.prog 73 #[.int .i64 op] w fun r w' => r = .returned (.int .i64 ((own op : Nat) : Int)) ∧ w' = w := by
  by_cases q17 : op = 17
  · subst q17
    go_enter Tryz.func73, Tryz.ntmps73
    go_wp2
    go_ret
    exact ⟨rfl, rfl⟩
  by_cases q16 : op = 16
  · subst q16
    go_enter Tryz.func73, Tryz.ntmps73
    go_wp2
    go_ret
    exact ⟨rfl, rfl⟩
  by_cases q5 : op = 5
  · subst q5
    go_enter Tryz.func73, Tryz.ntmps73
    go_wp2
    go_ret
    exact ⟨rfl, rfl⟩
  have b17 : (op == 17) = false := by rw [beq_eq_false_iff_ne]; exact q17
  have b16 : (op == 16) = false := by rw [beq_eq_false_iff_ne]; exact q16
  have b5 : (op == 5) = false := by rw [beq_eq_false_iff_ne]; exact q5
  by_cases q8 : op = 8
  · subst q8
    go_enter Tryz.func73, Tryz.ntmps73
    go_wp2
    go_ret
    exact ⟨rfl, rfl⟩
  by_cases q9 : op = 9
  · subst q9
    go_enter Tryz.func73, Tryz.ntmps73
    go_wp2
    go_ret
    exact ⟨rfl, rfl⟩
  have b8 : (op == 8) = false := by rw [beq_eq_false_iff_ne]; exact q8
  have b9 : (op == 9) = false := by rw [beq_eq_false_iff_ne]; exact q9
  by_cases hr : 10 ≤ op ∧ op ≤ 15
  · have HR := hid (own_rel op hr)
    have h1 : (10 : Int) ≤ op := hr.1
    have h2 : op ≤ 15 := hr.2
    clear hr
    go_enter Tryz.func73, Tryz.ntmps73
    go_wp2
    go_ret
    exact ⟨ret_int (by rw [HR.out]; rfl), rfl⟩
  · have HR := hid (own_low op (by omega))
    by_cases h10 : 10 ≤ op
    · have h15 : decide (op ≤ 15) = false := by simp; omega
      clear hr
      go_enter Tryz.func73, Tryz.ntmps73
      go_wp2
      go_ret
      exact ⟨ret_int (by rw [HR.out]; rfl), rfl⟩
    · have h10' : decide (10 ≤ op) = false := by simp; omega
      clear hr
      go_enter Tryz.func73, Tryz.ntmps73
      go_wp2
      go_ret
      exact ⟨ret_int (by rw [HR.out]; rfl), rfl⟩
set_option maxHeartbeats 1000000 in
theorem sides_any (op : Int) (w : World) (h : 8 ≤ op ∧ op ≤ 17) : Calls Tryz.prog 74 #[.int .i64 op] w fun r w' => r = .returned (.tuple #[.int .i64 (((sgnOf op).2.2.1 : Nat) : Int), .int .i64 (((sgnOf op).2.2.2 : Nat) : Int)]) ∧ w' = w := by
  have hc : op = 8 ∨ op = 9 ∨ op = 10 ∨ op = 11 ∨ op = 12 ∨ op = 13 ∨ op = 14 ∨ op = 15 ∨ op = 16 ∨ op = 17 := by omega
  rcases hc with rfl | rfl | rfl | rfl | rfl | rfl | rfl | rfl | rfl | rfl
  all_goals go_enter Tryz.func74, Tryz.ntmps74
  all_goals go_wp2
  all_goals go_ret2
  all_goals exact ⟨rfl, rfl⟩
/-- A sign without its blanks. -/
def sgnIn (op : Int) : ByteArray := (sgnOf op).1.extract 1 ((sgnOf op).1.size - 1)
set_option maxHeartbeats 1000000 in
theorem sign_any (op : Int) (w : World) (h : 8 ≤ op ∧ op ≤ 17) : Calls Tryz.prog 86 #[.int .i64 op] w fun r w' => (∃ s : ByteArray, r = .returned (.string s) ∧ 32 :: (s.data.toList ++ [32]) = (sgnOf op).1.data.toList) ∧ Below w.heap.size w w' := by
  have hc : op = 8 ∨ op = 9 ∨ op = 10 ∨ op = 11 ∨ op = 12 ∨ op = 13 ∨ op = 14 ∨ op = 15 ∨ op = 16 ∨ op = 17 := by omega
  rcases hc with rfl | rfl | rfl | rfl | rfl | rfl | rfl | rfl | rfl | rfl
  all_goals go_enter Tryz.func86, Tryz.ntmps86
  all_goals go_wp2
  all_goals go_ret
  all_goals exact ⟨⟨_, rfl, rfl⟩, (Below.refl _ w).al le_rfl' _⟩
theorem digit_cut (k : Nat) (h : k < 10) : (⟨#[48, 49, 50, 51, 52, 53, 54, 55, 56, 57]⟩ : ByteArray).extract k (k + 1) = ⟨#[UInt8.ofNat (48 + k)]⟩ := by
  have hc : k = 0 ∨ k = 1 ∨ k = 2 ∨ k = 3 ∨ k = 4 ∨ k = 5 ∨ k = 6 ∨ k = 7 ∨ k = 8 ∨ k = 9 := by omega
  rcases hc with rfl | rfl | rfl | rfl | rfl | rfl | rfl | rfl | rfl | rfl <;> rfl
theorem ba_eq {a b : ByteArray} (h : a.data.toList = b.data.toList) : a = b := by
  apply ByteArray.ext
  exact Array.ext' h
theorem decDigits_step (a : Nat) : Lib.decDigits a = (if a / 10 = 0 then [] else Lib.decDigits (a / 10)) ++ [UInt8.ofNat (48 + a % 10)] := by
  rw [Lib.decDigits]
  by_cases h : a < 10
  · rw [dif_pos h, if_pos (by omega), Nat.mod_eq_of_lt h]; rfl
  · rw [dif_neg h, if_neg (by omega)]
theorem tmod10_neg (m : Int) (h : m < 0) : m.tmod 10 = -((m.natAbs % 10 : Nat) : Int) := by
  cases m with
  | ofNat a => exact absurd h (by simp)
  | negSucc a => rfl
theorem tmod10_pos (m : Int) (h : ¬ m < 0) : m.tmod 10 = ((m.natAbs % 10 : Nat) : Int) := by
  cases m with
  | ofNat a => rfl
  | negSucc a => exact absurd (Int.negSucc_lt_zero a) h
set_option maxRecDepth 100000 in
set_option maxHeartbeats 1000000 in
theorem digits_any (n : Int) (w : World) (hn : I64 n) : Calls Tryz.prog 24 #[.int .i64 n] w fun r w' => r = .returned (.string ⟨(Lib.itoa n).toArray⟩) ∧ w' = w := by
  have hlen := itoa_len n hn
  unfold I64 at hn
  by_cases h0 : n = 0
  · subst h0
    go_enter Tryz.func24, Tryz.ntmps24
    go_wp2
    go_ret
    refine ⟨?_, rfl⟩
    have : Lib.itoa 0 = [48] := by simp [Lib.itoa, Lib.decDigits]
    rw [this]
    rfl
  · have h0b : (n == 0) = false := by rw [beq_eq_false_iff_ne]; exact h0
    go_enter Tryz.func24, Tryz.ntmps24
    go_wp2
    go_loopw [3, 5, 6] (fun vs vm vk wr => ∃ (s : ByteArray) (m : Int), vs = .string s ∧ vm = .int .i64 m ∧ wr = w ∧ -9223372036854775808 ≤ m ∧ m ≤ 9223372036854775807 ∧ s.size ≤ 20 ∧ Hid (Lib.decDigits n.natAbs = (if m.natAbs = 0 then [] else Lib.decDigits m.natAbs) ++ s.data.toList)) (fun _ m _ _ => (intOf m).natAbs)
    case atStart => exact ⟨⟨#[]⟩, n, rfl, rfl, rfl, hn.1, hn.2, by decide, by show _ = _; rw [if_neg (by omega)]; simp⟩
    case round =>
      obtain ⟨s, m, rfl, rfl, hwr, hm1, hm2, hs, HD⟩ := hrel
      have hwr2 := hwr.symm
      subst hwr2
      clear hwr
      by_cases hm0 : m = 0
      · subst hm0
        have HD2 : Hid (Lib.decDigits n.natAbs = s.data.toList) := by show _ = _; rw [HD.out]; simp
        by_cases hneg : n < 0
        · have HNG := hid hneg
          have hng : ¬ (9223372036854775807 < 1 + s.size) := by omega
          go_wp2
          go_ret
          refine ⟨?_, rfl⟩
          have e : (⟨#[45]⟩ : ByteArray) ++ s = ⟨(Lib.itoa n).toArray⟩ := ba_eq (by rw [Lib.itoa, if_pos HNG.out, HD2.out]; simp [ByteArray.data_append])
          rw [← e]
          rfl
        · have HNG := hid hneg
          have hnd : decide (n < 0) = false := decide_eq_false hneg
          go_wp2
          go_ret
          refine ⟨?_, rfl⟩
          have e : s = ⟨(Lib.itoa n).toArray⟩ := ba_eq (by rw [Lib.itoa, if_neg (by have := HNG.out; omega), show n.toNat = n.natAbs by have := HNG.out; omega, HD2.out])
          rw [← e]
          rfl
      · have hmb : (m != 0) = true := by rw [bne_iff_ne]; exact hm0
        obtain ⟨k, hk⟩ : ∃ k : Nat, m.natAbs % 10 = k := ⟨_, rfl⟩
        have hk10 : k < 10 := by omega
        have hstep := decDigits_step m.natAbs
        rw [hk] at hstep
        have hcut := digit_cut k hk10
        obtain ⟨m', hm'⟩ : ∃ m' : Int, m.tdiv 10 = m' := ⟨_, rfl⟩
        have hma : m'.natAbs = m.natAbs / 10 := by rw [← hm', Int.natAbs_tdiv]; rfl
        have hlen2 : (Lib.decDigits n.natAbs).length ≤ 20 := by have := decDigits_len n.natAbs 18 (by omega); omega
        have hs2 : s.size + 1 ≤ 20 := by
          have h1 := HD.out
          rw [if_neg (by omega), hstep] at h1
          have h2 := congrArg List.length h1
          simp only [List.length_append, List.length_cons, List.length_nil] at h2
          have h3 : s.data.toList.length = s.size := by simp
          omega
        have HN : Hid (Lib.decDigits n.natAbs = (if m'.natAbs = 0 then [] else Lib.decDigits m'.natAbs) ++ (⟨#[UInt8.ofNat (48 + k)]⟩ ++ s : ByteArray).data.toList) := by
          show _ = _
          rw [HD.out, if_neg (by omega), hstep, hma]
          simp [ByteArray.data_append]
        have hmr : -9223372036854775808 ≤ m' ∧ m' ≤ 9223372036854775807 ∧ m'.natAbs < m.natAbs := by omega
        have hg : ¬ (9223372036854775807 < 1 + s.size) := by omega
        obtain ⟨c, hc⟩ : ∃ c, UInt8.ofNat (48 + k) = c := ⟨_, rfl⟩
        rw [hc] at hcut HN
        clear hc hstep
        have hrel2 : ∃ (s_1 : ByteArray) (m_1 : Int), Value.string ((⟨#[c]⟩ : ByteArray) ++ s) = .string s_1 ∧ Value.int .i64 m' = .int .i64 m_1 ∧ w = w ∧ -9223372036854775808 ≤ m_1 ∧ m_1 ≤ 9223372036854775807 ∧ s_1.size ≤ 20 ∧ Hid (Lib.decDigits n.natAbs = (if m_1.natAbs = 0 then [] else Lib.decDigits m_1.natAbs) ++ s_1.data.toList) :=
          ⟨_, m', rfl, rfl, rfl, hmr.1, hmr.2.1, by rw [ByteArray.size_append']; show 1 + s.size ≤ 20; omega, HN⟩
        have HREL := hid hrel2
        clear hrel2
        by_cases hneg : m < 0
        · have htm : m.tmod 10 = -(k : Int) := by rw [tmod10_neg m hneg, hk]
          by_cases hk0 : k = 0
          · have htm0 : m.tmod 10 = 0 := by rw [htm, hk0]; rfl
            have hcut0 : (⟨#[48, 49, 50, 51, 52, 53, 54, 55, 56, 57]⟩ : ByteArray).extract 0 1 = ⟨#[c]⟩ := by rw [← hcut, hk0]
            clear htm hcut hk0 hk
            go_wp2
            go_roundw
            case rel => obtain ⟨s1, m1, a1, a2, -, a4⟩ := HREL.out; exact ⟨s1, m1, a1, a2, by trivial, a4⟩
            case measure => simp [intOf]; omega
          · have hkn : -(k : Int) < 0 := by omega
            clear hk0
            go_wp2
            go_roundw
            case rel => obtain ⟨s1, m1, a1, a2, -, a4⟩ := HREL.out; exact ⟨s1, m1, a1, a2, by trivial, a4⟩
            case measure => simp [intOf]; omega
        · have htm : m.tmod 10 = (k : Int) := by rw [tmod10_pos m hneg, hk]
          go_wp2
          go_roundw
          case rel => obtain ⟨s1, m1, a1, a2, -, a4⟩ := HREL.out; exact ⟨s1, m1, a1, a2, by trivial, a4⟩
          case measure => simp [intOf]; omega
end Go.Proofs.YtnljhlmopjgogaaGreatDoor
namespace Go.Proofs.YtnljhlmopjgogaaGreatDoor
open Go.RowKit Px
namespace Px
/-- Blocks as lines: between two of them a line of their own. -/
def docB (o : Nat) (mid : List UInt8) : List (List UInt8) → Nat → List UInt8
  | [], _ => []
  | b :: r, i => (if i = 0 then [] else lin o mid) ++ (b ++ docB o mid r (i + 1))
theorem docB_rest (o : Nat) (word : List UInt8) (bs : List (List UInt8)) : ∀ i, ind o ++ (125 :: (blksT o word bs (i + 1) ++ [10])) = docB o (125 :: 32 :: (word ++ [32, 123])) bs (i + 1) ++ lin o [125] := by
  induction bs with
  | nil => intro i; simp [blksT, docB, lin]
  | cons b bs ih =>
    intro i
    simp only [blksT, docB, blkT, Nat.add_eq_zero_iff, Nat.succ_ne_self, and_false, if_false, List.append_assoc, List.cons_append, List.nil_append]
    rw [← ih (i + 1)]
    simp [lin]
/-- Blocks in braces, one behind the other, are these lines. -/
theorem docB_all (o : Nat) (word head : List UInt8) (b : List UInt8) (bs : List (List UInt8)) : ind o ++ (head ++ (blksT o word (b :: bs) 0 ++ [10])) = lin o (head ++ [32, 123]) ++ (docB o (125 :: 32 :: (word ++ [32, 123])) (b :: bs) 0 ++ lin o [125]) := by
  have := docB_rest o word bs 0
  simp only [blksT, docB, blkT, if_true, List.append_assoc, List.nil_append, List.cons_append]
  rw [← this]
  simp [lin]
end Px
set_option maxHeartbeats 1000000 in
theorem line_ref (o : Nat) (s : ByteArray) (w : World) (ho : o ≤ 1000) (hs : s.size ≤ 1000000000000) : Calls Tryz.prog 21 #[.int .i64 (o : Int), .string s] w fun r w' => r = .returned (.string ⟨(lin o s.data.toList).toArray⟩) ∧ w' = w := by
  go_enter Tryz.func21, Tryz.ntmps21
  go_wp2
  go_loopw [5, 6] (fun vp vi wr => ∃ (p : ByteArray) (i : Nat), vp = .string p ∧ vi = .int .i64 (i : Int) ∧ wr = w ∧ i ≤ o ∧ p.size = 2 * i ∧ Hid (p.data.toList = ind i)) (fun _ i _ => ((o : Int) - intOf i).toNat)
  case atStart => exact ⟨⟨#[]⟩, 0, rfl, rfl, rfl, by omega, rfl, by show _ = _; simp [ind]⟩
  case round =>
    obtain ⟨p, i, rfl, rfl, hwr, hi, hp, HP⟩ := hrel
    have hwr2 := hwr.symm
    subst hwr2
    clear hwr
    by_cases hio : i = o
    · subst hio
      have hg1 : ¬ (9223372036854775807 < p.size + s.size) := by omega
      have hg2 : ¬ (9223372036854775807 < p.size + s.size + 1) := by omega
      have HPS := hid hp
      clear hp
      go_wp2
      go_ret
      refine ⟨?_, rfl⟩
      have e : p ++ s ++ (⟨#[10]⟩ : ByteArray) = ⟨(lin i s.data.toList).toArray⟩ := ba_eq (by simp [ByteArray.data_append, lin, HP.out])
      rw [← e]
      rfl
    · have hlt : (i : Int) < (o : Int) := by omega
      have hg : ¬ (9223372036854775807 < p.size + 2) := by omega
      have HREL : Hid (∃ (p_1 : ByteArray) (i_1 : Nat), Value.string (p ++ (⟨#[32, 32]⟩ : ByteArray)) = .string p_1 ∧ Value.int .i64 ((i : Int) + 1) = .int .i64 (i_1 : Int) ∧ w = w ∧ i_1 ≤ o ∧ p_1.size = 2 * i_1 ∧ Hid (p_1.data.toList = ind i_1)) :=
        ⟨_, i + 1, rfl, by simp, rfl, by omega, by rw [ByteArray.size_append']; show p.size + 2 = _; omega, by show _ = _; rw [ind_succ, ← HP.out]; simp [ByteArray.data_append]⟩
      have HPS := hid hp
      clear hp
      go_wp2
      go_roundw
      case rel => obtain ⟨p1, i1, a1, a2, -, a4⟩ := HREL.out; exact ⟨p1, i1, a1, a2, by trivial, a4⟩
      case measure => simp [intOf]; omega
end Go.Proofs.YtnljhlmopjgogaaGreatDoor
namespace Go.Proofs.YtnljhlmopjgogaaGreatDoor
open Go.RowKit Px
/-- The document's nest tells how many levels lie within one another. -/
def RefNest (e : Ex) : Prop := ∀ (n₀ : Nat) (w : World) (l : Nat), n₀ ≤ w.heap.size → e.Is n₀ w → e.subs.length ≤ 1000000 →
  Calls Tryz.prog 44 #[e.val, .int .i64 (l : Int)] w fun r w' => r = .returned (.int .i64 ((e.nest l : Nat) : Int)) ∧ Below w.heap.size w w'
theorem own_pos (op : Int) (h : 1 ≤ op ∧ op ≤ 17) : 1 ≤ own op := by
  by_cases h1 : op < 5 ∨ op = 6 ∨ op = 7 ∨ 17 < op
  · rw [own_low op h1]; omega
  · by_cases h2 : 10 ≤ op ∧ op ≤ 15
    · rw [own_rel op h2]; omega
    · have : op = 5 ∨ op = 8 ∨ op = 9 ∨ op = 16 ∨ op = 17 := by omega
      rcases this with rfl | rfl | rfl | rfl | rfl <;> decide
set_option maxRecDepth 100000 in
set_option maxHeartbeats 2000000 in
theorem refNest_low (op : Int) (mon name : ByteArray) (n : Int) (ad : Option Addr) (cap : Nat) (kids : List Ex) (pos : Int) (ih : ∀ x ∈ kids, x.ok = true → RefNest x) (hok : (Ex.mk op mon name n ad cap kids pos).ok = true) (n₀ : Nat) (w : World) (l : Nat) (hll : l ≤ own op) (hn : n₀ ≤ w.heap.size) (hI : (Ex.mk op mon name n ad cap kids pos).Is n₀ w) (hlen : (Ex.mk op mon name n ad cap kids pos).subs.length ≤ 1000000) :
    Calls Tryz.prog 44 #[(Ex.mk op mon name n ad cap kids pos).val, .int .i64 (l : Int)] w fun r w' => r = .returned (.int .i64 (((Ex.mk op mon name n ad cap kids pos).nst : Nat) : Int)) ∧ Below w.heap.size w w' := by
  have hB9 : Below w.heap.size w (w.alloc (.cells #[.int .i64 op, .string mon, .string name, .int .i64 n, .slice ad kids.length cap, .int .i64 pos] 50)) := (Below.refl _ w).al le_rfl' _
  have hB0 : Below n₀ w (w.alloc (.cells #[.int .i64 op, .string mon, .string name, .int .i64 n, .slice ad kids.length cap, .int .i64 pos] 50)) := hB9.mono hn
  have bB : ExBox (w.alloc (.cells #[.int .i64 op, .string mon, .string name, .int .i64 n, .slice ad kids.length cap, .int .i64 pos] 50)) w.heap.size (.mk op mon name n ad cap kids pos) := ExBox.new w (.mk op mon name n ad cap kids pos)
  have hz0 : w.heap.size < (w.alloc (.cells #[.int .i64 op, .string mon, .string name, .int .i64 n, .slice ad kids.length cap, .int .i64 pos] 50)).heap.size := by simp
  have hIk := hI.down.2.2
  have hsl := hI.down.2.1
  have hl1 := hsl.1; have hl2 := hsl.2.1
  unfold maxLen at hl2
  rw [Ex.subs_mk, List.length_cons] at hlen
  obtain ⟨h1, hoks⟩ := Ex.ok_mk hok
  simp only [Ex.ok1, Bool.and_eq_true, decide_eq_true_iff] at h1
  obtain ⟨⟨ho1, ho2⟩, -, hkl⟩ := h1
  have hkl2 : Hid (kids.length = exKids op.toNat) := by have := eq_of_beq hkl; show _ = _; omega
  clear hkl hok
  have HN := fun ad' => hid (Ex.nst_mk op mon name n ad' cap kids pos)
  have hlv : decide (((own op : Nat) : Int) < (l : Int)) = false := by simp; omega
  simp only [Ex.val, Ex.cells]
  go_enter Tryz.func44, Tryz.ntmps44
  go_upto_region 1 with fail
  obtain ⟨W0, hW0⟩ : ∃ W0, w.alloc (.cells #[.int .i64 op, .string mon, .string name, .int .i64 n, .slice ad kids.length cap, .int .i64 pos] 50) = W0 := ⟨_, rfl⟩
  rw [hW0] at hB0 hB9 bB hz0 ⊢
  clear hW0
  have hlev := level_any op W0
  obtain ⟨d0, d1, d2, d3, d4, d5⟩ := bB.cells
  by_cases hk0 : kids.length = 0
  · have hk0b : ((kids.length : Int) == 0) = true := by rw [beq_iff_eq]; omega
    have HR : Hid ((Ex.mk op mon name n ad cap kids pos).nst = 0) := by
      show _ = _
      rw [(HN ad).out, nestOf, if_neg (by rw [List.length_map, hk0]; omega), if_neg (by rw [List.length_map, hk0]; omega)]
    clear hk0
    go_wp2_with (go_at_call 73; (with_reducible refine hlev.mono ?_); rintro r w' ⟨rfl, hw'⟩; have hw2 := hw'.symm; subst hw2)
    go_ret
    exact ⟨by rw [HR.out]; rfl, hB9⟩
  have hk0b : ((kids.length : Int) == 0) = false := by rw [beq_eq_false_iff_ne]; omega
  have hkp : 0 < kids.length := by omega
  have hkp' : (0 : Int) < (kids.length : Int) := by omega
  obtain ⟨kb, koff, rfl, hkb0, hrow0⟩ := hsl.2.2.resolve_left (by intro h; rw [h] at hkp; simp at hkp)
  have hkb : kb < W0.heap.size := by omega
  have hrow := hrow0.below hB0 hkb0
  have hbk0 := subs_one kids hkp
  clear hk0
  by_cases q5 : op = 5
  · subst q5
    have hkl3 : Hid (kids.length = 1) := by show _ = _; rw [hkl2.out]; rfl
    rcases hx0 : kids[0] with ⟨xop0, xmon0, xname0, xn0, xad0, xcap0, xkids0, xpos0⟩
    obtain ⟨y0, hy0⟩ : ∃ y, kids[0].nest 3 = y := ⟨_, rfl⟩
    have hyl0 : y0 ≤ 4000000 := by
      have h1 := nst_le kids[0]
      rw [← hy0]
      unfold Ex.nest nestL
      split <;> omega
    have hc0 : ∀ (W : World), Below W0.heap.size W0 W → Calls Tryz.prog 44 #[.agg #[.int .i64 xop0, .string xmon0, .string xname0, .int .i64 xn0, .slice xad0 xkids0.length xcap0, .int .i64 xpos0], .int .i64 3] W fun r w' => r = .returned (.int .i64 (y0 : Int)) ∧ Below W.heap.size W w' := fun W h1 => by
      have := ih kids[0] (List.getElem_mem _) (hoks _ (List.getElem_mem _)) n₀ W 3 (by have := h1.size; omega) ((hIk kids[0] (List.getElem_mem _)).below (hB0.trans (h1.mono (by omega)))) (by omega)
      rw [show kids[0].val = Value.agg #[.int .i64 xop0, .string xmon0, .string xname0, .int .i64 xn0, .slice xad0 xkids0.length xcap0, .int .i64 xpos0] by rw [hx0]; rfl, hy0] at this
      exact this
    have HY0 := hid hy0
    clear hy0
    obtain ⟨a00, a01, a02, a03, a04, a05⟩ := row6 hrow 0 (by omega) (by rw [hx0]; rfl)
    clear hx0
    simp only [Nat.zero_mul, Nat.add_zero] at a00 a01 a02 a03 a04 a05
    have HR : Hid ((Ex.mk 5 mon name n (some ⟨kb, koff, none⟩) cap kids pos).nst = 1 + y0) := by
      show _ = _
      rw [(HN _).out, nestOf, if_pos (by rw [List.length_map]; exact hkl3.out), nkid_at kids 0 _ hkp]
      show 1 + kids[0].nest 3 = _
      rw [HY0.out]
    have hc1 := hc0 W0 (Below.refl _ _)
    go_wp2_with (first | (go_at_call 73; (with_reducible refine hlev.mono ?_); rintro r w' ⟨rfl, hw'⟩; have hw2 := hw'.symm; subst hw2) | (go_at_call 44; (with_reducible refine hc1.mono ?_); rintro r u0 ⟨rfl, bb⟩))
    go_ret
    refine ⟨?_, hB9.tr le_rfl' bb⟩
    rw [HR.out]
    exact ret_int (by omega)
  have q5b : (op == 5) = false := by rw [beq_eq_false_iff_ne]; exact q5
  by_cases q6 : op = 6 ∨ op = 7
  · have hkl3 : Hid (kids.length = 1) := by show _ = _; rcases q6 with rfl | rfl <;> (rw [hkl2.out]; rfl)
    have hk1b : ((kids.length : Int) == 1) = true := by rw [beq_iff_eq]; have := hkl3.out; omega
    rcases hx0 : kids[0] with ⟨xop0, xmon0, xname0, xn0, xad0, xcap0, xkids0, xpos0⟩
    obtain ⟨y0, hy0⟩ : ∃ y, kids[0].nest 6 = y := ⟨_, rfl⟩
    have hyl0 : y0 ≤ 4000000 := by
      have h1 := nst_le kids[0]
      rw [← hy0]
      unfold Ex.nest nestL
      split <;> omega
    have hc0 : ∀ (W : World), Below W0.heap.size W0 W → Calls Tryz.prog 44 #[.agg #[.int .i64 xop0, .string xmon0, .string xname0, .int .i64 xn0, .slice xad0 xkids0.length xcap0, .int .i64 xpos0], .int .i64 6] W fun r w' => r = .returned (.int .i64 (y0 : Int)) ∧ Below W.heap.size W w' := fun W h1 => by
      have := ih kids[0] (List.getElem_mem _) (hoks _ (List.getElem_mem _)) n₀ W 6 (by have := h1.size; omega) ((hIk kids[0] (List.getElem_mem _)).below (hB0.trans (h1.mono (by omega)))) (by omega)
      rw [show kids[0].val = Value.agg #[.int .i64 xop0, .string xmon0, .string xname0, .int .i64 xn0, .slice xad0 xkids0.length xcap0, .int .i64 xpos0] by rw [hx0]; rfl, hy0] at this
      exact this
    have HY0 := hid hy0
    clear hy0
    obtain ⟨a00, a01, a02, a03, a04, a05⟩ := row6 hrow 0 (by omega) (by rw [hx0]; rfl)
    clear hx0
    simp only [Nat.zero_mul, Nat.add_zero] at a00 a01 a02 a03 a04 a05
    have HR : Hid ((Ex.mk op mon name n (some ⟨kb, koff, none⟩) cap kids pos).nst = 1 + y0) := by
      show _ = _
      rw [(HN _).out, nestOf, if_pos (by rw [List.length_map]; exact hkl3.out), nkid_at kids 0 _ hkp, show (sgnOf op).2.2.2 = 6 by rcases q6 with rfl | rfl <;> rfl, HY0.out]
    clear q6 q5
    have hc1 := hc0 W0 (Below.refl _ _)
    go_wp2_with (first | (go_at_call 73; (with_reducible refine hlev.mono ?_); rintro r w' ⟨rfl, hw'⟩; have hw2 := hw'.symm; subst hw2) | (go_at_call 44; (with_reducible refine hc1.mono ?_); rintro r u0 ⟨rfl, bb⟩))
    go_ret
    refine ⟨?_, hB9.tr le_rfl' bb⟩
    rw [HR.out]
    exact ret_int (by omega)
  have hkl3 : Hid (kids.length = 2) := by
    show _ = _
    rw [hkl2.out, exKids]
    have h8 : ¬ op.toNat < 8 := by
      intro h
      have h5 : op.toNat < 5 := by omega
      have := hkl2.out
      rw [exKids, if_pos h5] at this
      omega
    rw [if_neg (by omega), if_neg h8]
  have h8 : 8 ≤ op ∧ op ≤ 17 := by
    refine ⟨?_, ho2⟩
    rcases Int.lt_or_le op 8 with h | h
    · exfalso
      have := hkl2.out
      rw [hkl3.out, exKids] at this
      split at this
      · omega
      · split at this <;> omega
    · exact h
  have hk1b : ((kids.length : Int) == 1) = false := by rw [beq_eq_false_iff_ne]; have := hkl3.out; omega
  have hkx : 1 < kids.length := by rw [hkl3.out]; omega
  have hkx' : (1 : Int) < (kids.length : Int) := by omega
  have hbk1 := subs_both kids hkx
  have hsid := fun W => sides_any op W h8
  obtain ⟨mf, hmf⟩ : ∃ mf, (sgnOf op).2.2.1 = mf := ⟨_, rfl⟩
  obtain ⟨ml, hml⟩ : ∃ ml, (sgnOf op).2.2.2 = ml := ⟨_, rfl⟩
  simp only [hmf, hml] at hsid
  rcases hx0 : kids[0] with ⟨xop0, xmon0, xname0, xn0, xad0, xcap0, xkids0, xpos0⟩
  obtain ⟨y0, hy0⟩ : ∃ y, kids[0].nest mf = y := ⟨_, rfl⟩
  have hyl0 : y0 ≤ 4000000 := by
    have h1 := nst_le kids[0]
    rw [← hy0]
    unfold Ex.nest nestL
    split <;> omega
  have hc0 : ∀ (W : World), Below W0.heap.size W0 W → Calls Tryz.prog 44 #[.agg #[.int .i64 xop0, .string xmon0, .string xname0, .int .i64 xn0, .slice xad0 xkids0.length xcap0, .int .i64 xpos0], .int .i64 (mf : Int)] W fun r w' => r = .returned (.int .i64 (y0 : Int)) ∧ Below W.heap.size W w' := fun W h1 => by
    have := ih kids[0] (List.getElem_mem _) (hoks _ (List.getElem_mem _)) n₀ W mf (by have := h1.size; omega) ((hIk kids[0] (List.getElem_mem _)).below (hB0.trans (h1.mono (by omega)))) (by omega)
    rw [show kids[0].val = Value.agg #[.int .i64 xop0, .string xmon0, .string xname0, .int .i64 xn0, .slice xad0 xkids0.length xcap0, .int .i64 xpos0] by rw [hx0]; rfl, hy0] at this
    exact this
  have HY0 := hid hy0
  clear hy0
  obtain ⟨a00, a01, a02, a03, a04, a05⟩ := row6 hrow 0 (by omega) (by rw [hx0]; rfl)
  clear hx0
  rcases hx1 : kids[1] with ⟨xop1, xmon1, xname1, xn1, xad1, xcap1, xkids1, xpos1⟩
  obtain ⟨y1, hy1⟩ : ∃ y, kids[1].nest ml = y := ⟨_, rfl⟩
  have hyl1 : y1 ≤ 4000000 := by
    have h1 := nst_le kids[1]
    rw [← hy1]
    unfold Ex.nest nestL
    split <;> omega
  have hc1 : ∀ (W : World), Below W0.heap.size W0 W → Calls Tryz.prog 44 #[.agg #[.int .i64 xop1, .string xmon1, .string xname1, .int .i64 xn1, .slice xad1 xkids1.length xcap1, .int .i64 xpos1], .int .i64 (ml : Int)] W fun r w' => r = .returned (.int .i64 (y1 : Int)) ∧ Below W.heap.size W w' := fun W h1 => by
    have := ih kids[1] (List.getElem_mem _) (hoks _ (List.getElem_mem _)) n₀ W ml (by have := h1.size; omega) ((hIk kids[1] (List.getElem_mem _)).below (hB0.trans (h1.mono (by omega)))) (by omega)
    rw [show kids[1].val = Value.agg #[.int .i64 xop1, .string xmon1, .string xname1, .int .i64 xn1, .slice xad1 xkids1.length xcap1, .int .i64 xpos1] by rw [hx1]; rfl, hy1] at this
    exact this
  have HY1 := hid hy1
  clear hy1
  obtain ⟨a10, a11, a12, a13, a14, a15⟩ := row6 hrow 1 (by omega) (by rw [hx1]; rfl)
  clear hx1
  simp only [Nat.zero_mul, Nat.one_mul, Nat.add_zero, Nat.add_assoc, Nat.reduceAdd] at a00 a01 a02 a03 a04 a05 a10 a11 a12 a13 a14 a15
  have HK : Hid (∀ W, Below W0.heap.size W0 W → W.cell? ⟨w.heap.size, 4, none⟩ = some (.slice (some ⟨kb, koff, none⟩) kids.length cap) ∧ W.cell? ⟨kb, koff, none⟩ = some (.int .i64 xop0) ∧ W.cell? ⟨kb, koff + 1, none⟩ = some (.string xmon0) ∧ W.cell? ⟨kb, koff + 2, none⟩ = some (.string xname0) ∧ W.cell? ⟨kb, koff + 3, none⟩ = some (.int .i64 xn0) ∧ W.cell? ⟨kb, koff + 4, none⟩ = some (.slice xad0 xkids0.length xcap0) ∧ W.cell? ⟨kb, koff + 5, none⟩ = some (.int .i64 xpos0) ∧ W.cell? ⟨kb, koff + 6, none⟩ = some (.int .i64 xop1) ∧ W.cell? ⟨kb, koff + 7, none⟩ = some (.string xmon1) ∧ W.cell? ⟨kb, koff + 8, none⟩ = some (.string xname1) ∧ W.cell? ⟨kb, koff + 9, none⟩ = some (.int .i64 xn1) ∧ W.cell? ⟨kb, koff + 10, none⟩ = some (.slice xad1 xkids1.length xcap1) ∧ W.cell? ⟨kb, koff + 11, none⟩ = some (.int .i64 xpos1)) := fun W hW => by
    obtain ⟨f0, f1, f2, f3, f4, f5⟩ := (bB.below hW hz0).cells
    exact ⟨f4, (hW.cell (p := ⟨kb, _, none⟩) hkb).trans a00, (hW.cell (p := ⟨kb, _, none⟩) hkb).trans a01, (hW.cell (p := ⟨kb, _, none⟩) hkb).trans a02, (hW.cell (p := ⟨kb, _, none⟩) hkb).trans a03, (hW.cell (p := ⟨kb, _, none⟩) hkb).trans a04, (hW.cell (p := ⟨kb, _, none⟩) hkb).trans a05, (hW.cell (p := ⟨kb, _, none⟩) hkb).trans a10, (hW.cell (p := ⟨kb, _, none⟩) hkb).trans a11, (hW.cell (p := ⟨kb, _, none⟩) hkb).trans a12, (hW.cell (p := ⟨kb, _, none⟩) hkb).trans a13, (hW.cell (p := ⟨kb, _, none⟩) hkb).trans a14, (hW.cell (p := ⟨kb, _, none⟩) hkb).trans a15⟩
  have HR : Hid ((Ex.mk op mon name n (some ⟨kb, koff, none⟩) cap kids pos).nst = max y0 y1) := by
    show _ = _
    rw [(HN _).out, nestOf, if_neg (by rw [List.length_map, hkl3.out]; omega), if_pos (by rw [List.length_map]; exact hkl3.out), nkid_at kids 0 _ hkp, nkid_at kids 1 _ hkx, hmf, hml, HY0.out, HY1.out]
  clear a00 a01 a02 a03 a04 a05 a10 a11 a12 a13 a14 a15 hmf hml q5 q6
  have B := below_drewE (Below.refl W0.heap.size W0)
  go_wp2_with (first | (go_at_call 73; (with_reducible refine hlev.mono ?_); rintro r w' ⟨rfl, hw'⟩; have hw2 := hw'.symm; subst hw2) | (go_at_call 74; (with_reducible refine (hsid _).mono ?_); rintro r w' ⟨rfl, hw'⟩; have hw2 := hw'.symm; subst hw2))
  go_region_held3 (fun W => W.cell? ⟨w.heap.size, 4, none⟩ = some (.slice (some ⟨kb, koff, none⟩) kids.length cap) ∧ W.cell? ⟨kb, koff, none⟩ = some (.int .i64 xop0) ∧ W.cell? ⟨kb, koff + 1, none⟩ = some (.string xmon0) ∧ W.cell? ⟨kb, koff + 2, none⟩ = some (.string xname0) ∧ W.cell? ⟨kb, koff + 3, none⟩ = some (.int .i64 xn0) ∧ W.cell? ⟨kb, koff + 4, none⟩ = some (.slice xad0 xkids0.length xcap0) ∧ W.cell? ⟨kb, koff + 5, none⟩ = some (.int .i64 xpos0) ∧ W.cell? ⟨kb, koff + 6, none⟩ = some (.int .i64 xop1) ∧ W.cell? ⟨kb, koff + 7, none⟩ = some (.string xmon1) ∧ W.cell? ⟨kb, koff + 8, none⟩ = some (.string xname1) ∧ W.cell? ⟨kb, koff + 9, none⟩ = some (.int .i64 xn1) ∧ W.cell? ⟨kb, koff + 10, none⟩ = some (.slice xad1 xkids1.length xcap1) ∧ W.cell? ⟨kb, koff + 11, none⟩ = some (.int .i64 xpos1)) (exact HK.out _ B) (first | (go_at_call 44; (with_reducible refine (hc0 _ B).mono ?_); rintro r u0 ⟨rfl, bb⟩; have B := B.tr le_rfl' bb) | (go_at_call 44; (with_reducible refine (hc1 _ B).mono ?_); rintro r u1 ⟨rfl, bb⟩; have B := B.tr le_rfl' bb))
  all_goals go_wp2
  all_goals go_ret
  all_goals refine ⟨?_, hB9.trans (B.mono (by omega))⟩
  all_goals rw [HR.out]
  all_goals exact ret_int (by omega)
set_option maxRecDepth 100000 in
set_option maxHeartbeats 1000000 in
theorem refNest_any (e : Ex) : e.ok = true → RefNest e := by
  induction e using Ex.ind with
  | h op mon name n ad cap kids pos ih =>
  intro hok n₀ w l hn hI hlen
  have hlow := refNest_low op mon name n ad cap kids pos ih hok
  have ho : 1 ≤ op ∧ op ≤ 17 := by
    have h1 := (Ex.ok_mk hok).1
    simp only [Ex.ok1, Bool.and_eq_true, decide_eq_true_iff] at h1
    exact h1.1
  have HN : Hid ((Ex.mk op mon name n ad cap kids pos).nest l = (if own op < l then 1 else 0) + (Ex.mk op mon name n ad cap kids pos).nst) := rfl
  by_cases hll : own op < l
  · have hnl := nst_le (Ex.mk op mon name n ad cap kids pos)
    have hB9 : Below w.heap.size w (w.alloc (.cells #[.int .i64 op, .string mon, .string name, .int .i64 n, .slice ad kids.length cap, .int .i64 pos] 50)) := (Below.refl _ w).al le_rfl' _
    have hc := hlow n₀ (w.alloc (.cells #[.int .i64 op, .string mon, .string name, .int .i64 n, .slice ad kids.length cap, .int .i64 pos] 50)) 1 (own_pos op ho) (by simp; omega) (hI.below (hB9.mono hn)) hlen
    have hlev := level_any op (w.alloc (.cells #[.int .i64 op, .string mon, .string name, .int .i64 n, .slice ad kids.length cap, .int .i64 pos] 50))
    have hlv : ((own op : Nat) : Int) < (l : Int) := by omega
    rw [if_pos hll] at HN
    obtain ⟨y, hy⟩ : ∃ y, (Ex.mk op mon name n ad cap kids pos).nst = y := ⟨_, rfl⟩
    rw [hy] at HN hc hnl
    clear hy hll
    simp only [Ex.val, Ex.cells] at hc ⊢
    have hy2 : y ≤ 2000000 := by omega
    go_enter Tryz.func44, Tryz.ntmps44
    go_wp2_with (first | (go_at_call 73; (with_reducible refine hlev.mono ?_); rintro r w' ⟨rfl, hw'⟩; have hw2 := hw'.symm; subst hw2) | (go_at_call 44; refine hc.mono ?_; rintro r u0 ⟨rfl, bb⟩))
    go_ret
    refine ⟨?_, hB9.tr le_rfl' bb⟩
    rw [HN.out]
    exact ret_int (by omega)
  · have := hlow n₀ w l (by omega) hn hI hlen
    rw [if_neg hll, Nat.zero_add] at HN
    rw [HN.out]
    exact this
end Go.Proofs.YtnljhlmopjgogaaGreatDoor
namespace Go.Proofs.YtnljhlmopjgogaaGreatDoor
open Go.RowKit Px
set_option maxHeartbeats 1000000 in
theorem sign_is (op : Int) (h : 8 ≤ op ∧ op ≤ 17) : ∃ s : ByteArray, 32 :: (s.data.toList ++ [32]) = (sgnOf op).1.data.toList ∧ s.size ≤ 2 ∧ ∀ w : World, Calls Tryz.prog 86 #[.int .i64 op] w fun r w' => r = .returned (.string s) ∧ Below w.heap.size w w' := by
  have hc : op = 8 ∨ op = 9 ∨ op = 10 ∨ op = 11 ∨ op = 12 ∨ op = 13 ∨ op = 14 ∨ op = 15 ∨ op = 16 ∨ op = 17 := by omega
  rcases hc with rfl | rfl | rfl | rfl | rfl | rfl | rfl | rfl | rfl | rfl
  · refine ⟨⟨#[43]⟩, rfl, by decide, fun w => ?_⟩
    go_enter Tryz.func86, Tryz.ntmps86
    go_wp2
    go_ret
    exact ⟨rfl, (Below.refl _ w).al le_rfl' _⟩
  · refine ⟨⟨#[45]⟩, rfl, by decide, fun w => ?_⟩
    go_enter Tryz.func86, Tryz.ntmps86
    go_wp2
    go_ret
    exact ⟨rfl, (Below.refl _ w).al le_rfl' _⟩
  · refine ⟨⟨#[61, 61]⟩, rfl, by decide, fun w => ?_⟩
    go_enter Tryz.func86, Tryz.ntmps86
    go_wp2
    go_ret
    exact ⟨rfl, (Below.refl _ w).al le_rfl' _⟩
  · refine ⟨⟨#[33, 61]⟩, rfl, by decide, fun w => ?_⟩
    go_enter Tryz.func86, Tryz.ntmps86
    go_wp2
    go_ret
    exact ⟨rfl, (Below.refl _ w).al le_rfl' _⟩
  · refine ⟨⟨#[60]⟩, rfl, by decide, fun w => ?_⟩
    go_enter Tryz.func86, Tryz.ntmps86
    go_wp2
    go_ret
    exact ⟨rfl, (Below.refl _ w).al le_rfl' _⟩
  · refine ⟨⟨#[60, 61]⟩, rfl, by decide, fun w => ?_⟩
    go_enter Tryz.func86, Tryz.ntmps86
    go_wp2
    go_ret
    exact ⟨rfl, (Below.refl _ w).al le_rfl' _⟩
  · refine ⟨⟨#[62]⟩, rfl, by decide, fun w => ?_⟩
    go_enter Tryz.func86, Tryz.ntmps86
    go_wp2
    go_ret
    exact ⟨rfl, (Below.refl _ w).al le_rfl' _⟩
  · refine ⟨⟨#[62, 61]⟩, rfl, by decide, fun w => ?_⟩
    go_enter Tryz.func86, Tryz.ntmps86
    go_wp2
    go_ret
    exact ⟨rfl, (Below.refl _ w).al le_rfl' _⟩
  · refine ⟨⟨#[38, 38]⟩, rfl, by decide, fun w => ?_⟩
    go_enter Tryz.func86, Tryz.ntmps86
    go_wp2
    go_ret
    exact ⟨rfl, (Below.refl _ w).al le_rfl' _⟩
  · refine ⟨⟨#[124, 124]⟩, rfl, by decide, fun w => ?_⟩
    go_enter Tryz.func86, Tryz.ntmps86
    go_wp2
    go_ret
    exact ⟨rfl, (Below.refl _ w).al le_rfl' _⟩
/-- The document's expr tells an expression's text at a level. -/
def RefExpr (e : Ex) : Prop := ∀ (n₀ : Nat) (w : World) (l : Nat), n₀ ≤ w.heap.size → e.Is n₀ w → e.subs.length ≤ 1000000 →
  Calls Tryz.prog 72 #[e.val, .int .i64 (l : Int)] w fun r w' => r = .returned (.string ⟨(e.txt l).toArray⟩) ∧ Below w.heap.size w w'
theorem ret_str {a b : ByteArray} (h : a.data.toList = b.data.toList) : Ending.returned (.string a) = .returned (.string b) := by rw [ba_eq h]
set_option maxRecDepth 100000 in
set_option maxHeartbeats 2000000 in
theorem refExpr_low (op : Int) (mon name : ByteArray) (n : Int) (ad : Option Addr) (cap : Nat) (kids : List Ex) (pos : Int) (ih : ∀ x ∈ kids, x.ok = true → RefExpr x) (hok : (Ex.mk op mon name n ad cap kids pos).ok = true) (n₀ : Nat) (w : World) (l : Nat) (hll : l ≤ own op) (hn : n₀ ≤ w.heap.size) (hI : (Ex.mk op mon name n ad cap kids pos).Is n₀ w) (hlen : (Ex.mk op mon name n ad cap kids pos).subs.length ≤ 1000000) :
    Calls Tryz.prog 72 #[(Ex.mk op mon name n ad cap kids pos).val, .int .i64 (l : Int)] w fun r w' => r = .returned (.string ⟨((Ex.mk op mon name n ad cap kids pos).bare).toArray⟩) ∧ Below w.heap.size w w' := by
  have hB9 : Below w.heap.size w (w.alloc (.cells #[.int .i64 op, .string mon, .string name, .int .i64 n, .slice ad kids.length cap, .int .i64 pos] 50)) := (Below.refl _ w).al le_rfl' _
  have hB0 : Below n₀ w (w.alloc (.cells #[.int .i64 op, .string mon, .string name, .int .i64 n, .slice ad kids.length cap, .int .i64 pos] 50)) := hB9.mono hn
  have bB : ExBox (w.alloc (.cells #[.int .i64 op, .string mon, .string name, .int .i64 n, .slice ad kids.length cap, .int .i64 pos] 50)) w.heap.size (.mk op mon name n ad cap kids pos) := ExBox.new w (.mk op mon name n ad cap kids pos)
  have hz0 : w.heap.size < (w.alloc (.cells #[.int .i64 op, .string mon, .string name, .int .i64 n, .slice ad kids.length cap, .int .i64 pos] 50)).heap.size := by simp
  have hIk := hI.down.2.2
  have hsl := hI.down.2.1
  have hl1 := hsl.1; have hl2 := hsl.2.1
  unfold maxLen at hl2
  rw [Ex.subs_mk, List.length_cons] at hlen
  obtain ⟨h1, hoks⟩ := Ex.ok_mk hok
  simp only [Ex.ok1, Bool.and_eq_true, decide_eq_true_iff] at h1
  obtain ⟨⟨ho1, ho2⟩, ⟨⟨hfm, hfn⟩, -⟩, hkl⟩ := h1
  have hmon : mon.size ≤ 32 := by have := fits_len hfm; simpa using this
  have hname : name.size ≤ 32 := by have := fits_len hfn; simpa using this
  have hnm : I64 n := hI.down.1.2.1
  have hkl2 : Hid (kids.length = exKids op.toNat) := by have := eq_of_beq hkl; show _ = _; omega
  clear hkl hok hfm hfn
  have HB := fun ad' => hid (Ex.bare_mk op mon name n ad' cap kids pos)
  have hlv : decide (((own op : Nat) : Int) < (l : Int)) = false := by simp; omega
  simp only [Ex.val, Ex.cells]
  go_enter Tryz.func72, Tryz.ntmps72
  go_upto_region 1 with fail
  obtain ⟨W0, hW0⟩ : ∃ W0, w.alloc (.cells #[.int .i64 op, .string mon, .string name, .int .i64 n, .slice ad kids.length cap, .int .i64 pos] 50) = W0 := ⟨_, rfl⟩
  rw [hW0] at hB0 hB9 bB hz0 ⊢
  clear hW0
  have hlev := level_any op W0
  obtain ⟨d0, d1, d2, d3, d4, d5⟩ := bB.cells
  have hdig := fun W => digits_any n W hnm
  have hdl : (⟨(Lib.itoa n).toArray⟩ : ByteArray).size ≤ 20 := by show (Lib.itoa n).toArray.size ≤ 20; have := itoa_len n hnm; simpa using this
  obtain ⟨nd, hnd⟩ : ∃ nd : ByteArray, (⟨(Lib.itoa n).toArray⟩ : ByteArray) = nd := ⟨_, rfl⟩
  have HND : Hid (nd.data.toList = Lib.itoa n) := by show _ = _; rw [← hnd]
  rw [hnd] at hdl
  simp only [hnd] at hdig
  clear hnd
  have hdig1 := hdig W0
  by_cases q1 : op = 1
  · subst q1
    have HR : Hid (((Ex.mk 1 mon name n ad cap kids pos)).bare = Lib.itoa n) := by show _ = _; rw [(HB ad).out]; simp [bareOf]
    go_wp2_with (first | (go_at_call 73; (with_reducible refine hlev.mono ?_); rintro r w' ⟨rfl, hw'⟩; have hw2 := hw'.symm; subst hw2) | (go_at_call 24; (with_reducible refine hdig1.mono ?_); rintro r w' ⟨rfl, hw'⟩; have hw2 := hw'.symm; subst hw2))
    go_ret
    exact ⟨ret_str (by rw [HR.out]; exact HND.out), hB9⟩
  by_cases q2 : op = 2
  · subst q2
    have HR : Hid (((Ex.mk 2 mon name n ad cap kids pos)).bare = [116, 114, 117, 101]) := by show _ = _; rw [(HB ad).out]; simp [bareOf]
    go_wp2_with (go_at_call 73; (with_reducible refine hlev.mono ?_); rintro r w' ⟨rfl, hw'⟩; have hw2 := hw'.symm; subst hw2)
    go_ret
    exact ⟨ret_str (by rw [HR.out]), hB9⟩
  by_cases q3 : op = 3
  · subst q3
    have HR : Hid (((Ex.mk 3 mon name n ad cap kids pos)).bare = [102, 97, 108, 115, 101]) := by show _ = _; rw [(HB ad).out]; simp [bareOf]
    go_wp2_with (go_at_call 73; (with_reducible refine hlev.mono ?_); rintro r w' ⟨rfl, hw'⟩; have hw2 := hw'.symm; subst hw2)
    go_ret
    exact ⟨ret_str (by rw [HR.out]), hB9⟩
  by_cases q4 : op = 4
  · subst q4
    have HR : Hid (((Ex.mk 4 mon name n ad cap kids pos)).bare = mon.data.toList ++ 46 :: name.data.toList) := by show _ = _; rw [(HB ad).out]; simp [bareOf]
    have g1 : ¬ (9223372036854775807 < mon.size + 1) := by omega
    have g2 : ¬ (9223372036854775807 < mon.size + 1 + name.size) := by omega
    go_wp2_with (go_at_call 73; (with_reducible refine hlev.mono ?_); rintro r w' ⟨rfl, hw'⟩; have hw2 := hw'.symm; subst hw2)
    go_ret
    exact ⟨ret_str (by rw [HR.out]; simp [ByteArray.data_append]), hB9⟩
  have hkp : 0 < kids.length := by
    rw [hkl2.out, exKids]; split
    · omega
    · split <;> omega
  have hkp' : (0 : Int) < (kids.length : Int) := by omega
  obtain ⟨kb, koff, rfl, hkb0, hrow0⟩ := hsl.2.2.resolve_left (by intro h; rw [h] at hkp; simp at hkp)
  have hkb : kb < W0.heap.size := by omega
  have hrow := hrow0.below hB0 hkb0
  have hbk0 := subs_one kids hkp
  have q1b : (op == 1) = false := by rw [beq_eq_false_iff_ne]; exact q1
  have q2b : (op == 2) = false := by rw [beq_eq_false_iff_ne]; exact q2
  have q3b : (op == 3) = false := by rw [beq_eq_false_iff_ne]; exact q3
  have q4b : (op == 4) = false := by rw [beq_eq_false_iff_ne]; exact q4
  by_cases q5 : op = 5
  · subst q5
    have hkl3 : Hid (kids.length = 1) := by show _ = _; rw [hkl2.out]; rfl
    rcases hx0 : kids[0] with ⟨xop0, xmon0, xname0, xn0, xad0, xcap0, xkids0, xpos0⟩
    obtain ⟨y0, hy0⟩ : ∃ y : ByteArray, (⟨(kids[0].txt 3).toArray⟩ : ByteArray) = y := ⟨_, rfl⟩
    have hyl0 : y0.size ≤ 200000000 := by
      have h1 := bare_len kids[0] n₀ w (hIk _ (List.getElem_mem _)) (hoks _ (List.getElem_mem _))
      have h2 := atL_len 3 kids[0].opOf kids[0].bare
      rw [← hy0]
      show (kids[0].txt 3).toArray.size ≤ _
      rw [List.size_toArray]
      unfold Ex.txt; omega
    have hc0 : ∀ (W : World), Below W0.heap.size W0 W → Calls Tryz.prog 72 #[.agg #[.int .i64 xop0, .string xmon0, .string xname0, .int .i64 xn0, .slice xad0 xkids0.length xcap0, .int .i64 xpos0], .int .i64 3] W fun r w' => r = .returned (.string y0) ∧ Below W.heap.size W w' := fun W h1 => by
      have := ih kids[0] (List.getElem_mem _) (hoks _ (List.getElem_mem _)) n₀ W 3 (by have := h1.size; omega) ((hIk kids[0] (List.getElem_mem _)).below (hB0.trans (h1.mono (by omega)))) (by omega)
      rw [show kids[0].val = Value.agg #[.int .i64 xop0, .string xmon0, .string xname0, .int .i64 xn0, .slice xad0 xkids0.length xcap0, .int .i64 xpos0] by rw [hx0]; rfl, hy0] at this
      exact this
    have HY0 : Hid (y0.data.toList = kids[0].txt 3) := by show _ = _; rw [← hy0]
    clear hy0
    obtain ⟨a00, a01, a02, a03, a04, a05⟩ := row6 hrow 0 (by omega) (by rw [hx0]; rfl)
    clear hx0
    simp only [Nat.zero_mul, Nat.add_zero] at a00 a01 a02 a03 a04 a05
    have HR : Hid ((Ex.mk 5 mon name n (some ⟨kb, koff, none⟩) cap kids pos).bare = (33 : UInt8) :: kids[0].txt 3) := by
      show _ = _
      rw [(HB _).out, ← kid_at kids 0 3 hkp]
      simp [bareOf, sgnOf, signed, sgn]
    have hc1 := hc0 W0 (Below.refl _ _)
    have g1 : ¬ (9223372036854775807 < 1 + y0.size) := by omega
    go_wp2_with (first | (go_at_call 73; (with_reducible refine hlev.mono ?_); rintro r w' ⟨rfl, hw'⟩; have hw2 := hw'.symm; subst hw2) | (go_at_call 72; (with_reducible refine hc1.mono ?_); rintro r u0 ⟨rfl, bb⟩))
    go_ret
    exact ⟨ret_str (by rw [HR.out, ← HY0.out]; simp [ByteArray.data_append]), hB9.tr le_rfl' bb⟩
  have q5b : (op == 5) = false := by rw [beq_eq_false_iff_ne]; exact q5
  by_cases q6 : op = 6
  · subst q6
    have hkl3 : Hid (kids.length = 1) := by show _ = _; rw [hkl2.out]; rfl
    rcases hx0 : kids[0] with ⟨xop0, xmon0, xname0, xn0, xad0, xcap0, xkids0, xpos0⟩
    obtain ⟨y0, hy0⟩ : ∃ y : ByteArray, (⟨(kids[0].txt 6).toArray⟩ : ByteArray) = y := ⟨_, rfl⟩
    have hyl0 : y0.size ≤ 200000000 := by
      have h1 := bare_len kids[0] n₀ w (hIk _ (List.getElem_mem _)) (hoks _ (List.getElem_mem _))
      have h2 := atL_len 6 kids[0].opOf kids[0].bare
      rw [← hy0]
      show (kids[0].txt 6).toArray.size ≤ _
      rw [List.size_toArray]
      unfold Ex.txt; omega
    have hc0 : ∀ (W : World), Below W0.heap.size W0 W → Calls Tryz.prog 72 #[.agg #[.int .i64 xop0, .string xmon0, .string xname0, .int .i64 xn0, .slice xad0 xkids0.length xcap0, .int .i64 xpos0], .int .i64 6] W fun r w' => r = .returned (.string y0) ∧ Below W.heap.size W w' := fun W h1 => by
      have := ih kids[0] (List.getElem_mem _) (hoks _ (List.getElem_mem _)) n₀ W 6 (by have := h1.size; omega) ((hIk kids[0] (List.getElem_mem _)).below (hB0.trans (h1.mono (by omega)))) (by omega)
      rw [show kids[0].val = Value.agg #[.int .i64 xop0, .string xmon0, .string xname0, .int .i64 xn0, .slice xad0 xkids0.length xcap0, .int .i64 xpos0] by rw [hx0]; rfl, hy0] at this
      exact this
    have HY0 : Hid (y0.data.toList = kids[0].txt 6) := by show _ = _; rw [← hy0]
    clear hy0
    obtain ⟨a00, a01, a02, a03, a04, a05⟩ := row6 hrow 0 (by omega) (by rw [hx0]; rfl)
    clear hx0
    simp only [Nat.zero_mul, Nat.add_zero] at a00 a01 a02 a03 a04 a05
    have HR : Hid ((Ex.mk 6 mon name n (some ⟨kb, koff, none⟩) cap kids pos).bare = (45 : UInt8) :: kids[0].txt 6) := by
      show _ = _
      rw [(HB _).out, ← kid_at kids 0 6 hkp]
      simp [bareOf, sgnOf, signed, sgn]
    have hc1 := hc0 W0 (Below.refl _ _)
    have g1 : ¬ (9223372036854775807 < 1 + y0.size) := by omega
    go_wp2_with (first | (go_at_call 73; (with_reducible refine hlev.mono ?_); rintro r w' ⟨rfl, hw'⟩; have hw2 := hw'.symm; subst hw2) | (go_at_call 72; (with_reducible refine hc1.mono ?_); rintro r u0 ⟨rfl, bb⟩))
    go_ret
    exact ⟨ret_str (by rw [HR.out, ← HY0.out]; simp [ByteArray.data_append]), hB9.tr le_rfl' bb⟩
  have q6b : (op == 6) = false := by rw [beq_eq_false_iff_ne]; exact q6
  by_cases q7 : op = 7
  · subst q7
    have hkl3 : Hid (kids.length = 1) := by show _ = _; rw [hkl2.out]; rfl
    rcases hx0 : kids[0] with ⟨xop0, xmon0, xname0, xn0, xad0, xcap0, xkids0, xpos0⟩
    obtain ⟨y0, hy0⟩ : ∃ y : ByteArray, (⟨(kids[0].txt 6).toArray⟩ : ByteArray) = y := ⟨_, rfl⟩
    have hyl0 : y0.size ≤ 200000000 := by
      have h1 := bare_len kids[0] n₀ w (hIk _ (List.getElem_mem _)) (hoks _ (List.getElem_mem _))
      have h2 := atL_len 6 kids[0].opOf kids[0].bare
      rw [← hy0]
      show (kids[0].txt 6).toArray.size ≤ _
      rw [List.size_toArray]
      unfold Ex.txt; omega
    have hc0 : ∀ (W : World), Below W0.heap.size W0 W → Calls Tryz.prog 72 #[.agg #[.int .i64 xop0, .string xmon0, .string xname0, .int .i64 xn0, .slice xad0 xkids0.length xcap0, .int .i64 xpos0], .int .i64 6] W fun r w' => r = .returned (.string y0) ∧ Below W.heap.size W w' := fun W h1 => by
      have := ih kids[0] (List.getElem_mem _) (hoks _ (List.getElem_mem _)) n₀ W 6 (by have := h1.size; omega) ((hIk kids[0] (List.getElem_mem _)).below (hB0.trans (h1.mono (by omega)))) (by omega)
      rw [show kids[0].val = Value.agg #[.int .i64 xop0, .string xmon0, .string xname0, .int .i64 xn0, .slice xad0 xkids0.length xcap0, .int .i64 xpos0] by rw [hx0]; rfl, hy0] at this
      exact this
    have HY0 : Hid (y0.data.toList = kids[0].txt 6) := by show _ = _; rw [← hy0]
    clear hy0
    obtain ⟨a00, a01, a02, a03, a04, a05⟩ := row6 hrow 0 (by omega) (by rw [hx0]; rfl)
    clear hx0
    simp only [Nat.zero_mul, Nat.add_zero] at a00 a01 a02 a03 a04 a05
    have HK : Hid (∀ W, Below W0.heap.size W0 W → W.cell? ⟨w.heap.size, 4, none⟩ = some (.slice (some ⟨kb, koff, none⟩) kids.length cap) ∧ W.cell? ⟨w.heap.size, 3, none⟩ = some (.int .i64 n) ∧ W.cell? ⟨kb, koff, none⟩ = some (.int .i64 xop0) ∧ W.cell? ⟨kb, koff + 1, none⟩ = some (.string xmon0) ∧ W.cell? ⟨kb, koff + 2, none⟩ = some (.string xname0) ∧ W.cell? ⟨kb, koff + 3, none⟩ = some (.int .i64 xn0) ∧ W.cell? ⟨kb, koff + 4, none⟩ = some (.slice xad0 xkids0.length xcap0) ∧ W.cell? ⟨kb, koff + 5, none⟩ = some (.int .i64 xpos0)) := fun W hW => by
      obtain ⟨f0, f1, f2, f3, f4, f5⟩ := (bB.below hW hz0).cells
      exact ⟨f4, f3, (hW.cell (p := ⟨kb, _, none⟩) hkb).trans a00, (hW.cell (p := ⟨kb, _, none⟩) hkb).trans a01, (hW.cell (p := ⟨kb, _, none⟩) hkb).trans a02, (hW.cell (p := ⟨kb, _, none⟩) hkb).trans a03, (hW.cell (p := ⟨kb, _, none⟩) hkb).trans a04, (hW.cell (p := ⟨kb, _, none⟩) hkb).trans a05⟩
    have HR : Hid ((Ex.mk 7 mon name n (some ⟨kb, koff, none⟩) cap kids pos).bare = Lib.itoa n ++ (([32, 42, 32] : List UInt8) ++ kids[0].txt 6)) := by
      show _ = _
      rw [(HB _).out, ← kid_at kids 0 6 hkp]
      simp [bareOf, sgnOf, signed, sgn]
    have g1 : ¬ (9223372036854775807 < nd.size + 3) := by omega
    have g2 : ¬ (9223372036854775807 < nd.size + 3 + y0.size) := by omega
    clear a00 a01 a02 a03 a04 a05
    have B := below_drewE (Below.refl W0.heap.size W0)
    go_wp2_with (go_at_call 73; (with_reducible refine hlev.mono ?_); rintro r w' ⟨rfl, hw'⟩; have hw2 := hw'.symm; subst hw2)
    go_region_held3 (fun W => W.cell? ⟨w.heap.size, 4, none⟩ = some (.slice (some ⟨kb, koff, none⟩) kids.length cap) ∧ W.cell? ⟨w.heap.size, 3, none⟩ = some (.int .i64 n) ∧ W.cell? ⟨kb, koff, none⟩ = some (.int .i64 xop0) ∧ W.cell? ⟨kb, koff + 1, none⟩ = some (.string xmon0) ∧ W.cell? ⟨kb, koff + 2, none⟩ = some (.string xname0) ∧ W.cell? ⟨kb, koff + 3, none⟩ = some (.int .i64 xn0) ∧ W.cell? ⟨kb, koff + 4, none⟩ = some (.slice xad0 xkids0.length xcap0) ∧ W.cell? ⟨kb, koff + 5, none⟩ = some (.int .i64 xpos0)) (exact HK.out _ B) (first | (go_at_call 72; (with_reducible refine (hc0 _ B).mono ?_); rintro r u0 ⟨rfl, bb⟩; have B := B.tr le_rfl' bb) | (go_at_call 24; (with_reducible refine (hdig _).mono ?_); rintro r w' ⟨rfl, hw'⟩; have hw2 := hw'.symm; subst hw2))
    all_goals go_wp2
    all_goals go_ret
    all_goals exact ⟨ret_str (by rw [HR.out, ← HY0.out, ← HND.out]; simp [ByteArray.data_append]), hB9.trans (B.mono (by omega))⟩
  have q7b : (op == 7) = false := by rw [beq_eq_false_iff_ne]; exact q7
  have h8 : 8 ≤ op ∧ op ≤ 17 := by omega
  have hkl3 : Hid (kids.length = 2) := by show _ = _; rw [hkl2.out, exKids, if_neg (by omega), if_neg (by omega)]
  have hkx : 1 < kids.length := by rw [hkl3.out]; omega
  have hkx' : (1 : Int) < (kids.length : Int) := by omega
  have hbk1 := subs_both kids hkx
  have hsid := fun W => sides_any op W h8
  obtain ⟨sg, hsg, hsgl, hsign⟩ := sign_is op h8
  obtain ⟨mf, hmf⟩ : ∃ mf, (sgnOf op).2.2.1 = mf := ⟨_, rfl⟩
  obtain ⟨ml, hml⟩ : ∃ ml, (sgnOf op).2.2.2 = ml := ⟨_, rfl⟩
  simp only [hmf, hml] at hsid
  rcases hx0 : kids[0] with ⟨xop0, xmon0, xname0, xn0, xad0, xcap0, xkids0, xpos0⟩
  obtain ⟨y0, hy0⟩ : ∃ y : ByteArray, (⟨(kids[0].txt mf).toArray⟩ : ByteArray) = y := ⟨_, rfl⟩
  have hyl0 : y0.size ≤ 200000000 := by
    have h1 := bare_len kids[0] n₀ w (hIk _ (List.getElem_mem _)) (hoks _ (List.getElem_mem _))
    have h2 := atL_len mf kids[0].opOf kids[0].bare
    rw [← hy0]
    show (kids[0].txt mf).toArray.size ≤ _
    rw [List.size_toArray]
    unfold Ex.txt; omega
  have hc0 : ∀ (W : World), Below W0.heap.size W0 W → Calls Tryz.prog 72 #[.agg #[.int .i64 xop0, .string xmon0, .string xname0, .int .i64 xn0, .slice xad0 xkids0.length xcap0, .int .i64 xpos0], .int .i64 (mf : Int)] W fun r w' => r = .returned (.string y0) ∧ Below W.heap.size W w' := fun W h1 => by
    have := ih kids[0] (List.getElem_mem _) (hoks _ (List.getElem_mem _)) n₀ W mf (by have := h1.size; omega) ((hIk kids[0] (List.getElem_mem _)).below (hB0.trans (h1.mono (by omega)))) (by omega)
    rw [show kids[0].val = Value.agg #[.int .i64 xop0, .string xmon0, .string xname0, .int .i64 xn0, .slice xad0 xkids0.length xcap0, .int .i64 xpos0] by rw [hx0]; rfl, hy0] at this
    exact this
  have HY0 : Hid (y0.data.toList = kids[0].txt mf) := by show _ = _; rw [← hy0]
  clear hy0
  obtain ⟨a00, a01, a02, a03, a04, a05⟩ := row6 hrow 0 (by omega) (by rw [hx0]; rfl)
  clear hx0
  rcases hx1 : kids[1] with ⟨xop1, xmon1, xname1, xn1, xad1, xcap1, xkids1, xpos1⟩
  obtain ⟨y1, hy1⟩ : ∃ y : ByteArray, (⟨(kids[1].txt ml).toArray⟩ : ByteArray) = y := ⟨_, rfl⟩
  have hyl1 : y1.size ≤ 200000000 := by
    have h1 := bare_len kids[1] n₀ w (hIk _ (List.getElem_mem _)) (hoks _ (List.getElem_mem _))
    have h2 := atL_len ml kids[1].opOf kids[1].bare
    rw [← hy1]
    show (kids[1].txt ml).toArray.size ≤ _
    rw [List.size_toArray]
    unfold Ex.txt; omega
  have hc1 : ∀ (W : World), Below W0.heap.size W0 W → Calls Tryz.prog 72 #[.agg #[.int .i64 xop1, .string xmon1, .string xname1, .int .i64 xn1, .slice xad1 xkids1.length xcap1, .int .i64 xpos1], .int .i64 (ml : Int)] W fun r w' => r = .returned (.string y1) ∧ Below W.heap.size W w' := fun W h1 => by
    have := ih kids[1] (List.getElem_mem _) (hoks _ (List.getElem_mem _)) n₀ W ml (by have := h1.size; omega) ((hIk kids[1] (List.getElem_mem _)).below (hB0.trans (h1.mono (by omega)))) (by omega)
    rw [show kids[1].val = Value.agg #[.int .i64 xop1, .string xmon1, .string xname1, .int .i64 xn1, .slice xad1 xkids1.length xcap1, .int .i64 xpos1] by rw [hx1]; rfl, hy1] at this
    exact this
  have HY1 : Hid (y1.data.toList = kids[1].txt ml) := by show _ = _; rw [← hy1]
  clear hy1
  obtain ⟨a10, a11, a12, a13, a14, a15⟩ := row6 hrow 1 (by omega) (by rw [hx1]; rfl)
  clear hx1
  simp only [Nat.zero_mul, Nat.one_mul, Nat.add_zero, Nat.add_assoc, Nat.reduceAdd] at a00 a01 a02 a03 a04 a05 a10 a11 a12 a13 a14 a15
  have HK : Hid (∀ W, Below W0.heap.size W0 W → W.cell? ⟨w.heap.size, 4, none⟩ = some (.slice (some ⟨kb, koff, none⟩) kids.length cap) ∧ W.cell? ⟨w.heap.size, 0, none⟩ = some (.int .i64 op) ∧ W.cell? ⟨kb, koff, none⟩ = some (.int .i64 xop0) ∧ W.cell? ⟨kb, koff + 1, none⟩ = some (.string xmon0) ∧ W.cell? ⟨kb, koff + 2, none⟩ = some (.string xname0) ∧ W.cell? ⟨kb, koff + 3, none⟩ = some (.int .i64 xn0) ∧ W.cell? ⟨kb, koff + 4, none⟩ = some (.slice xad0 xkids0.length xcap0) ∧ W.cell? ⟨kb, koff + 5, none⟩ = some (.int .i64 xpos0) ∧ W.cell? ⟨kb, koff + 6, none⟩ = some (.int .i64 xop1) ∧ W.cell? ⟨kb, koff + 7, none⟩ = some (.string xmon1) ∧ W.cell? ⟨kb, koff + 8, none⟩ = some (.string xname1) ∧ W.cell? ⟨kb, koff + 9, none⟩ = some (.int .i64 xn1) ∧ W.cell? ⟨kb, koff + 10, none⟩ = some (.slice xad1 xkids1.length xcap1) ∧ W.cell? ⟨kb, koff + 11, none⟩ = some (.int .i64 xpos1)) := fun W hW => by
    obtain ⟨f0, f1, f2, f3, f4, f5⟩ := (bB.below hW hz0).cells
    exact ⟨f4, f0, (hW.cell (p := ⟨kb, _, none⟩) hkb).trans a00, (hW.cell (p := ⟨kb, _, none⟩) hkb).trans a01, (hW.cell (p := ⟨kb, _, none⟩) hkb).trans a02, (hW.cell (p := ⟨kb, _, none⟩) hkb).trans a03, (hW.cell (p := ⟨kb, _, none⟩) hkb).trans a04, (hW.cell (p := ⟨kb, _, none⟩) hkb).trans a05, (hW.cell (p := ⟨kb, _, none⟩) hkb).trans a10, (hW.cell (p := ⟨kb, _, none⟩) hkb).trans a11, (hW.cell (p := ⟨kb, _, none⟩) hkb).trans a12, (hW.cell (p := ⟨kb, _, none⟩) hkb).trans a13, (hW.cell (p := ⟨kb, _, none⟩) hkb).trans a14, (hW.cell (p := ⟨kb, _, none⟩) hkb).trans a15⟩
  have HR : Hid ((Ex.mk op mon name n (some ⟨kb, koff, none⟩) cap kids pos).bare = kids[0].txt mf ++ ((32 : UInt8) :: (sg.data.toList ++ [32]) ++ kids[1].txt ml)) := by
    show _ = _
    rw [(HB _).out, ← kid_at kids 0 mf hkp, ← kid_at kids 1 ml hkx, hsg, ← hmf, ← hml]
    simp [bareOf, q1, q2, q3, q4, q5, q6, q7]
  have g1 : ¬ (9223372036854775807 < y0.size + 1) := by omega
  have g2 : ¬ (9223372036854775807 < y0.size + 1 + sg.size) := by omega
  have g3 : ¬ (9223372036854775807 < y0.size + 1 + sg.size + 1) := by omega
  have g4 : ¬ (9223372036854775807 < y0.size + 1 + sg.size + 1 + y1.size) := by omega
  clear a00 a01 a02 a03 a04 a05 a10 a11 a12 a13 a14 a15 hmf hml hsg q1 q2 q3 q4 q5 q6 q7
  have B := below_drewE (Below.refl W0.heap.size W0)
  go_wp2_with (first | (go_at_call 73; (with_reducible refine hlev.mono ?_); rintro r w' ⟨rfl, hw'⟩; have hw2 := hw'.symm; subst hw2) | (go_at_call 74; (with_reducible refine (hsid _).mono ?_); rintro r w' ⟨rfl, hw'⟩; have hw2 := hw'.symm; subst hw2))
  go_region_held3 (fun W => W.cell? ⟨w.heap.size, 4, none⟩ = some (.slice (some ⟨kb, koff, none⟩) kids.length cap) ∧ W.cell? ⟨w.heap.size, 0, none⟩ = some (.int .i64 op) ∧ W.cell? ⟨kb, koff, none⟩ = some (.int .i64 xop0) ∧ W.cell? ⟨kb, koff + 1, none⟩ = some (.string xmon0) ∧ W.cell? ⟨kb, koff + 2, none⟩ = some (.string xname0) ∧ W.cell? ⟨kb, koff + 3, none⟩ = some (.int .i64 xn0) ∧ W.cell? ⟨kb, koff + 4, none⟩ = some (.slice xad0 xkids0.length xcap0) ∧ W.cell? ⟨kb, koff + 5, none⟩ = some (.int .i64 xpos0) ∧ W.cell? ⟨kb, koff + 6, none⟩ = some (.int .i64 xop1) ∧ W.cell? ⟨kb, koff + 7, none⟩ = some (.string xmon1) ∧ W.cell? ⟨kb, koff + 8, none⟩ = some (.string xname1) ∧ W.cell? ⟨kb, koff + 9, none⟩ = some (.int .i64 xn1) ∧ W.cell? ⟨kb, koff + 10, none⟩ = some (.slice xad1 xkids1.length xcap1) ∧ W.cell? ⟨kb, koff + 11, none⟩ = some (.int .i64 xpos1)) (exact HK.out _ B) (first | (go_at_call 72; (with_reducible refine (hc0 _ B).mono ?_); rintro r u0 ⟨rfl, bb⟩; have B := B.tr le_rfl' bb) | (go_at_call 72; (with_reducible refine (hc1 _ B).mono ?_); rintro r u1 ⟨rfl, bb⟩; have B := B.tr le_rfl' bb) | (go_at_call 86; (with_reducible refine (hsign _).mono ?_); rintro r u3 ⟨rfl, bb⟩; have B := B.tr le_rfl' bb))
  all_goals go_wp2
  all_goals go_ret
  all_goals exact ⟨ret_str (by rw [HR.out, ← HY0.out, ← HY1.out]; simp [ByteArray.data_append]), hB9.trans (B.mono (by omega))⟩
set_option maxRecDepth 100000 in
set_option maxHeartbeats 1000000 in
theorem refExpr_any (e : Ex) : e.ok = true → RefExpr e := by
  induction e using Ex.ind with
  | h op mon name n ad cap kids pos ih =>
  intro hok n₀ w l hn hI hlen
  have hlow := refExpr_low op mon name n ad cap kids pos ih hok
  have ho : 1 ≤ op ∧ op ≤ 17 := by
    have h1 := (Ex.ok_mk hok).1
    simp only [Ex.ok1, Bool.and_eq_true, decide_eq_true_iff] at h1
    exact h1.1
  have HN : Hid ((Ex.mk op mon name n ad cap kids pos).txt l = if own op < l then 40 :: ((Ex.mk op mon name n ad cap kids pos).bare ++ [41]) else (Ex.mk op mon name n ad cap kids pos).bare) := rfl
  by_cases hll : own op < l
  · have hnl := bare_len (Ex.mk op mon name n ad cap kids pos) n₀ w hI hok
    have hB9 : Below w.heap.size w (w.alloc (.cells #[.int .i64 op, .string mon, .string name, .int .i64 n, .slice ad kids.length cap, .int .i64 pos] 50)) := (Below.refl _ w).al le_rfl' _
    have hc := hlow n₀ (w.alloc (.cells #[.int .i64 op, .string mon, .string name, .int .i64 n, .slice ad kids.length cap, .int .i64 pos] 50)) 1 (own_pos op ho) (by simp; omega) (hI.below (hB9.mono hn)) hlen
    have hlev := level_any op (w.alloc (.cells #[.int .i64 op, .string mon, .string name, .int .i64 n, .slice ad kids.length cap, .int .i64 pos] 50))
    have hlv : ((own op : Nat) : Int) < (l : Int) := by omega
    rw [if_pos hll] at HN
    obtain ⟨y, hy⟩ : ∃ y : ByteArray, (⟨((Ex.mk op mon name n ad cap kids pos).bare).toArray⟩ : ByteArray) = y := ⟨_, rfl⟩
    have hys : y.size ≤ 200000000 := by
      rw [← hy]
      show ((Ex.mk op mon name n ad cap kids pos).bare).toArray.size ≤ _
      rw [List.size_toArray]; omega
    have HY : Hid (y.data.toList = (Ex.mk op mon name n ad cap kids pos).bare) := by show _ = _; rw [← hy]
    rw [hy] at hc
    clear hy hll
    obtain ⟨res, hres⟩ : ∃ res, (Ex.mk op mon name n ad cap kids pos).txt l = res := ⟨_, rfl⟩
    rw [hres] at HN ⊢
    clear hres
    simp only [Ex.val, Ex.cells] at hc ⊢
    have g1 : ¬ (9223372036854775807 < 1 + y.size) := by omega
    have g2 : ¬ (9223372036854775807 < 1 + y.size + 1) := by omega
    go_enter Tryz.func72, Tryz.ntmps72
    go_wp2_with (first | (go_at_call 73; (with_reducible refine hlev.mono ?_); rintro r w' ⟨rfl, hw'⟩; have hw2 := hw'.symm; subst hw2) | (go_at_call 72; refine hc.mono ?_; rintro r u0 ⟨rfl, bb⟩))
    go_ret
    exact ⟨ret_str (by rw [HN.out, ← HY.out]; simp [ByteArray.data_append]), hB9.tr le_rfl' bb⟩
  · have := hlow n₀ w l (by omega) hn hI hlen
    rw [if_neg hll] at HN
    rw [HN.out]
    exact this
end Go.Proofs.YtnljhlmopjgogaaGreatDoor
