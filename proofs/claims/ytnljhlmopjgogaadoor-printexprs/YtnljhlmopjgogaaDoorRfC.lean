/-
  expr of the document's answer for package print.
-/
import Derived.Test.YtnljhlmopjgogaaDoorRfB
import Derived.Test.YtnljhlmopjgogaaDoorPnC
namespace Go.Proofs.YtnljhlmopjgogaaDoor
open Go.RowKit Px
set_option maxHeartbeats 1000000 in
theorem sign_is (op : Int) (h : 8 ≤ op ∧ op ≤ 17) : ∃ s : ByteArray, 32 :: (s.data.toList ++ [32]) = (sgnOf op).1.data.toList ∧ s.size ≤ 2 ∧ ∀ w : World, Calls Tryd.prog 49 #[.int .i64 op] w fun r w' => r = .returned (.string s) ∧ Below w.heap.size w w' := by
  have hc : op = 8 ∨ op = 9 ∨ op = 10 ∨ op = 11 ∨ op = 12 ∨ op = 13 ∨ op = 14 ∨ op = 15 ∨ op = 16 ∨ op = 17 := by omega
  rcases hc with rfl | rfl | rfl | rfl | rfl | rfl | rfl | rfl | rfl | rfl
  · refine ⟨⟨#[43]⟩, rfl, by decide, fun w => ?_⟩
    go_enter Tryd.func49, Tryd.ntmps49
    go_wp2
    go_ret
    exact ⟨rfl, (Below.refl _ w).al le_rfl' _⟩
  · refine ⟨⟨#[45]⟩, rfl, by decide, fun w => ?_⟩
    go_enter Tryd.func49, Tryd.ntmps49
    go_wp2
    go_ret
    exact ⟨rfl, (Below.refl _ w).al le_rfl' _⟩
  · refine ⟨⟨#[61, 61]⟩, rfl, by decide, fun w => ?_⟩
    go_enter Tryd.func49, Tryd.ntmps49
    go_wp2
    go_ret
    exact ⟨rfl, (Below.refl _ w).al le_rfl' _⟩
  · refine ⟨⟨#[33, 61]⟩, rfl, by decide, fun w => ?_⟩
    go_enter Tryd.func49, Tryd.ntmps49
    go_wp2
    go_ret
    exact ⟨rfl, (Below.refl _ w).al le_rfl' _⟩
  · refine ⟨⟨#[60]⟩, rfl, by decide, fun w => ?_⟩
    go_enter Tryd.func49, Tryd.ntmps49
    go_wp2
    go_ret
    exact ⟨rfl, (Below.refl _ w).al le_rfl' _⟩
  · refine ⟨⟨#[60, 61]⟩, rfl, by decide, fun w => ?_⟩
    go_enter Tryd.func49, Tryd.ntmps49
    go_wp2
    go_ret
    exact ⟨rfl, (Below.refl _ w).al le_rfl' _⟩
  · refine ⟨⟨#[62]⟩, rfl, by decide, fun w => ?_⟩
    go_enter Tryd.func49, Tryd.ntmps49
    go_wp2
    go_ret
    exact ⟨rfl, (Below.refl _ w).al le_rfl' _⟩
  · refine ⟨⟨#[62, 61]⟩, rfl, by decide, fun w => ?_⟩
    go_enter Tryd.func49, Tryd.ntmps49
    go_wp2
    go_ret
    exact ⟨rfl, (Below.refl _ w).al le_rfl' _⟩
  · refine ⟨⟨#[38, 38]⟩, rfl, by decide, fun w => ?_⟩
    go_enter Tryd.func49, Tryd.ntmps49
    go_wp2
    go_ret
    exact ⟨rfl, (Below.refl _ w).al le_rfl' _⟩
  · refine ⟨⟨#[124, 124]⟩, rfl, by decide, fun w => ?_⟩
    go_enter Tryd.func49, Tryd.ntmps49
    go_wp2
    go_ret
    exact ⟨rfl, (Below.refl _ w).al le_rfl' _⟩
/-- The document's expr tells an expression's text at a level. -/
def RefExpr (e : Ex) : Prop := ∀ (n₀ : Nat) (w : World) (l : Nat), n₀ ≤ w.heap.size → e.Is n₀ w → e.subs.length ≤ 1000000 →
  Calls Tryd.prog 27 #[e.val, .int .i64 (l : Int)] w fun r w' => r = .returned (.string ⟨(e.txt l).toArray⟩) ∧ Below w.heap.size w w'
theorem ret_str {a b : ByteArray} (h : a.data.toList = b.data.toList) : Ending.returned (.string a) = .returned (.string b) := by rw [ba_eq h]
set_option maxRecDepth 100000 in
set_option maxHeartbeats 2000000 in
theorem refExpr_low (op : Int) (mon name : ByteArray) (n : Int) (ad : Option Addr) (cap : Nat) (kids : List Ex) (pos : Int) (ih : ∀ x ∈ kids, x.ok = true → RefExpr x) (hok : (Ex.mk op mon name n ad cap kids pos).ok = true) (n₀ : Nat) (w : World) (l : Nat) (hll : l ≤ own op) (hn : n₀ ≤ w.heap.size) (hI : (Ex.mk op mon name n ad cap kids pos).Is n₀ w) (hlen : (Ex.mk op mon name n ad cap kids pos).subs.length ≤ 1000000) :
    Calls Tryd.prog 27 #[(Ex.mk op mon name n ad cap kids pos).val, .int .i64 (l : Int)] w fun r w' => r = .returned (.string ⟨((Ex.mk op mon name n ad cap kids pos).bare).toArray⟩) ∧ Below w.heap.size w w' := by
  have hB9 : Below w.heap.size w (w.alloc (.cells #[.int .i64 op, .string mon, .string name, .int .i64 n, .slice ad kids.length cap, .int .i64 pos] 24)) := (Below.refl _ w).al le_rfl' _
  have hB0 : Below n₀ w (w.alloc (.cells #[.int .i64 op, .string mon, .string name, .int .i64 n, .slice ad kids.length cap, .int .i64 pos] 24)) := hB9.mono hn
  have bB : ExBox (w.alloc (.cells #[.int .i64 op, .string mon, .string name, .int .i64 n, .slice ad kids.length cap, .int .i64 pos] 24)) w.heap.size (.mk op mon name n ad cap kids pos) := ExBox.new w (.mk op mon name n ad cap kids pos)
  have hz0 : w.heap.size < (w.alloc (.cells #[.int .i64 op, .string mon, .string name, .int .i64 n, .slice ad kids.length cap, .int .i64 pos] 24)).heap.size := by simp
  have hIk := hI.down.2.2
  have hsl := hI.down.2.1
  have hl1 := hsl.1; have hl2 := hsl.2.1
  unfold maxLen at hl2
  rw [Ex.subs_mk, List.length_cons] at hlen
  obtain ⟨h1, hoks⟩ := Ex.ok_mk hok
  simp only [Ex.ok1, Bool.and_eq_true, decide_eq_true_iff] at h1
  obtain ⟨⟨ho1, ho2⟩, ⟨⟨hfm, hfn⟩, -⟩, hkl⟩ := h1
  have hmon : mon.size ≤ 32 := by have := fits_len hfm; simpa using this
  have hname : name.size ≤ 32 := by have := fits_len hfn; simpa using this
  have hnm : I64 n := hI.down.1.2.1
  have hkl2 : Hid (kids.length = exKids op.toNat) := by have := eq_of_beq hkl; show _ = _; omega
  clear hkl hok hfm hfn
  have HB := fun ad' => hid (Ex.bare_mk op mon name n ad' cap kids pos)
  have hlv : decide (((own op : Nat) : Int) < (l : Int)) = false := by simp; omega
  simp only [Ex.val, Ex.cells]
  go_enter Tryd.func27, Tryd.ntmps27
  go_upto_region 1 with fail
  obtain ⟨W0, hW0⟩ : ∃ W0, w.alloc (.cells #[.int .i64 op, .string mon, .string name, .int .i64 n, .slice ad kids.length cap, .int .i64 pos] 24) = W0 := ⟨_, rfl⟩
  rw [hW0] at hB0 hB9 bB hz0 ⊢
  clear hW0
  have hlev := level_any op W0
  obtain ⟨d0, d1, d2, d3, d4, d5⟩ := bB.cells
  have hdig := fun W => digits_any n W hnm
  have hdl : (⟨(Lib.itoa n).toArray⟩ : ByteArray).size ≤ 20 := by show (Lib.itoa n).toArray.size ≤ 20; have := itoa_len n hnm; simpa using this
  obtain ⟨nd, hnd⟩ : ∃ nd : ByteArray, (⟨(Lib.itoa n).toArray⟩ : ByteArray) = nd := ⟨_, rfl⟩
  have HND : Hid (nd.data.toList = Lib.itoa n) := by show _ = _; rw [← hnd]
  rw [hnd] at hdl
  simp only [hnd] at hdig
  clear hnd
  have hdig1 := hdig W0
  by_cases q1 : op = 1
  · subst q1
    have HR : Hid (((Ex.mk 1 mon name n ad cap kids pos)).bare = Lib.itoa n) := by show _ = _; rw [(HB ad).out]; simp [bareOf]
    go_wp2_with (first | (go_at_call 46; (with_reducible refine hlev.mono ?_); rintro r w' ⟨rfl, hw'⟩; have hw2 := hw'.symm; subst hw2) | (go_at_call 48; (with_reducible refine hdig1.mono ?_); rintro r w' ⟨rfl, hw'⟩; have hw2 := hw'.symm; subst hw2))
    go_ret
    exact ⟨ret_str (by rw [HR.out]; exact HND.out), hB9⟩
  by_cases q2 : op = 2
  · subst q2
    have HR : Hid (((Ex.mk 2 mon name n ad cap kids pos)).bare = [116, 114, 117, 101]) := by show _ = _; rw [(HB ad).out]; simp [bareOf]
    go_wp2_with (go_at_call 46; (with_reducible refine hlev.mono ?_); rintro r w' ⟨rfl, hw'⟩; have hw2 := hw'.symm; subst hw2)
    go_ret
    exact ⟨ret_str (by rw [HR.out]), hB9⟩
  by_cases q3 : op = 3
  · subst q3
    have HR : Hid (((Ex.mk 3 mon name n ad cap kids pos)).bare = [102, 97, 108, 115, 101]) := by show _ = _; rw [(HB ad).out]; simp [bareOf]
    go_wp2_with (go_at_call 46; (with_reducible refine hlev.mono ?_); rintro r w' ⟨rfl, hw'⟩; have hw2 := hw'.symm; subst hw2)
    go_ret
    exact ⟨ret_str (by rw [HR.out]), hB9⟩
  by_cases q4 : op = 4
  · subst q4
    have HR : Hid (((Ex.mk 4 mon name n ad cap kids pos)).bare = mon.data.toList ++ 46 :: name.data.toList) := by show _ = _; rw [(HB ad).out]; simp [bareOf]
    have g1 : ¬ (9223372036854775807 < mon.size + 1) := by omega
    have g2 : ¬ (9223372036854775807 < mon.size + 1 + name.size) := by omega
    go_wp2_with (go_at_call 46; (with_reducible refine hlev.mono ?_); rintro r w' ⟨rfl, hw'⟩; have hw2 := hw'.symm; subst hw2)
    go_ret
    exact ⟨ret_str (by rw [HR.out]; simp [ByteArray.data_append]), hB9⟩
  have hkp : 0 < kids.length := by
    rw [hkl2.out, exKids]; split
    · omega
    · split <;> omega
  have hkp' : (0 : Int) < (kids.length : Int) := by omega
  obtain ⟨kb, koff, rfl, hkb0, hrow0⟩ := hsl.2.2.resolve_left (by intro h; rw [h] at hkp; simp at hkp)
  have hkb : kb < W0.heap.size := by omega
  have hrow := hrow0.below hB0 hkb0
  have hbk0 := subs_one kids hkp
  have q1b : (op == 1) = false := by rw [beq_eq_false_iff_ne]; exact q1
  have q2b : (op == 2) = false := by rw [beq_eq_false_iff_ne]; exact q2
  have q3b : (op == 3) = false := by rw [beq_eq_false_iff_ne]; exact q3
  have q4b : (op == 4) = false := by rw [beq_eq_false_iff_ne]; exact q4
  by_cases q5 : op = 5
  · subst q5
    have hkl3 : Hid (kids.length = 1) := by show _ = _; rw [hkl2.out]; rfl
    rcases hx0 : kids[0] with ⟨xop0, xmon0, xname0, xn0, xad0, xcap0, xkids0, xpos0⟩
    obtain ⟨y0, hy0⟩ : ∃ y : ByteArray, (⟨(kids[0].txt 3).toArray⟩ : ByteArray) = y := ⟨_, rfl⟩
    have hyl0 : y0.size ≤ 200000000 := by
      have h1 := bare_len kids[0] n₀ w (hIk _ (List.getElem_mem _)) (hoks _ (List.getElem_mem _))
      have h2 := atL_len 3 kids[0].opOf kids[0].bare
      rw [← hy0]
      show (kids[0].txt 3).toArray.size ≤ _
      rw [List.size_toArray]
      unfold Ex.txt; omega
    have hc0 : ∀ (W : World), Below W0.heap.size W0 W → Calls Tryd.prog 27 #[.agg #[.int .i64 xop0, .string xmon0, .string xname0, .int .i64 xn0, .slice xad0 xkids0.length xcap0, .int .i64 xpos0], .int .i64 3] W fun r w' => r = .returned (.string y0) ∧ Below W.heap.size W w' := fun W h1 => by
      have := ih kids[0] (List.getElem_mem _) (hoks _ (List.getElem_mem _)) n₀ W 3 (by have := h1.size; omega) ((hIk kids[0] (List.getElem_mem _)).below (hB0.trans (h1.mono (by omega)))) (by omega)
      rw [show kids[0].val = Value.agg #[.int .i64 xop0, .string xmon0, .string xname0, .int .i64 xn0, .slice xad0 xkids0.length xcap0, .int .i64 xpos0] by rw [hx0]; rfl, hy0] at this
      exact this
    have HY0 : Hid (y0.data.toList = kids[0].txt 3) := by show _ = _; rw [← hy0]
    clear hy0
    obtain ⟨a00, a01, a02, a03, a04, a05⟩ := row6 hrow 0 (by omega) (by rw [hx0]; rfl)
    clear hx0
    simp only [Nat.zero_mul, Nat.add_zero] at a00 a01 a02 a03 a04 a05
    have HR : Hid ((Ex.mk 5 mon name n (some ⟨kb, koff, none⟩) cap kids pos).bare = (33 : UInt8) :: kids[0].txt 3) := by
      show _ = _
      rw [(HB _).out, ← kid_at kids 0 3 hkp]
      simp [bareOf, sgnOf, signed, sgn]
    have hc1 := hc0 W0 (Below.refl _ _)
    have g1 : ¬ (9223372036854775807 < 1 + y0.size) := by omega
    go_wp2_with (first | (go_at_call 46; (with_reducible refine hlev.mono ?_); rintro r w' ⟨rfl, hw'⟩; have hw2 := hw'.symm; subst hw2) | (go_at_call 27; (with_reducible refine hc1.mono ?_); rintro r u0 ⟨rfl, bb⟩))
    go_ret
    exact ⟨ret_str (by rw [HR.out, ← HY0.out]; simp [ByteArray.data_append]), hB9.tr le_rfl' bb⟩
  have q5b : (op == 5) = false := by rw [beq_eq_false_iff_ne]; exact q5
  by_cases q6 : op = 6
  · subst q6
    have hkl3 : Hid (kids.length = 1) := by show _ = _; rw [hkl2.out]; rfl
    rcases hx0 : kids[0] with ⟨xop0, xmon0, xname0, xn0, xad0, xcap0, xkids0, xpos0⟩
    obtain ⟨y0, hy0⟩ : ∃ y : ByteArray, (⟨(kids[0].txt 6).toArray⟩ : ByteArray) = y := ⟨_, rfl⟩
    have hyl0 : y0.size ≤ 200000000 := by
      have h1 := bare_len kids[0] n₀ w (hIk _ (List.getElem_mem _)) (hoks _ (List.getElem_mem _))
      have h2 := atL_len 6 kids[0].opOf kids[0].bare
      rw [← hy0]
      show (kids[0].txt 6).toArray.size ≤ _
      rw [List.size_toArray]
      unfold Ex.txt; omega
    have hc0 : ∀ (W : World), Below W0.heap.size W0 W → Calls Tryd.prog 27 #[.agg #[.int .i64 xop0, .string xmon0, .string xname0, .int .i64 xn0, .slice xad0 xkids0.length xcap0, .int .i64 xpos0], .int .i64 6] W fun r w' => r = .returned (.string y0) ∧ Below W.heap.size W w' := fun W h1 => by
      have := ih kids[0] (List.getElem_mem _) (hoks _ (List.getElem_mem _)) n₀ W 6 (by have := h1.size; omega) ((hIk kids[0] (List.getElem_mem _)).below (hB0.trans (h1.mono (by omega)))) (by omega)
      rw [show kids[0].val = Value.agg #[.int .i64 xop0, .string xmon0, .string xname0, .int .i64 xn0, .slice xad0 xkids0.length xcap0, .int .i64 xpos0] by rw [hx0]; rfl, hy0] at this
      exact this
    have HY0 : Hid (y0.data.toList = kids[0].txt 6) := by show _ = _; rw [← hy0]
    clear hy0
    obtain ⟨a00, a01, a02, a03, a04, a05⟩ := row6 hrow 0 (by omega) (by rw [hx0]; rfl)
    clear hx0
    simp only [Nat.zero_mul, Nat.add_zero] at a00 a01 a02 a03 a04 a05
    have HR : Hid ((Ex.mk 6 mon name n (some ⟨kb, koff, none⟩) cap kids pos).bare = (45 : UInt8) :: kids[0].txt 6) := by
      show _ = _
      rw [(HB _).out, ← kid_at kids 0 6 hkp]
      simp [bareOf, sgnOf, signed, sgn]
    have hc1 := hc0 W0 (Below.refl _ _)
    have g1 : ¬ (9223372036854775807 < 1 + y0.size) := by omega
    go_wp2_with (first | (go_at_call 46; (with_reducible refine hlev.mono ?_); rintro r w' ⟨rfl, hw'⟩; have hw2 := hw'.symm; subst hw2) | (go_at_call 27; (with_reducible refine hc1.mono ?_); rintro r u0 ⟨rfl, bb⟩))
    go_ret
    exact ⟨ret_str (by rw [HR.out, ← HY0.out]; simp [ByteArray.data_append]), hB9.tr le_rfl' bb⟩
  have q6b : (op == 6) = false := by rw [beq_eq_false_iff_ne]; exact q6
  by_cases q7 : op = 7
  · subst q7
    have hkl3 : Hid (kids.length = 1) := by show _ = _; rw [hkl2.out]; rfl
    rcases hx0 : kids[0] with ⟨xop0, xmon0, xname0, xn0, xad0, xcap0, xkids0, xpos0⟩
    obtain ⟨y0, hy0⟩ : ∃ y : ByteArray, (⟨(kids[0].txt 6).toArray⟩ : ByteArray) = y := ⟨_, rfl⟩
    have hyl0 : y0.size ≤ 200000000 := by
      have h1 := bare_len kids[0] n₀ w (hIk _ (List.getElem_mem _)) (hoks _ (List.getElem_mem _))
      have h2 := atL_len 6 kids[0].opOf kids[0].bare
      rw [← hy0]
      show (kids[0].txt 6).toArray.size ≤ _
      rw [List.size_toArray]
      unfold Ex.txt; omega
    have hc0 : ∀ (W : World), Below W0.heap.size W0 W → Calls Tryd.prog 27 #[.agg #[.int .i64 xop0, .string xmon0, .string xname0, .int .i64 xn0, .slice xad0 xkids0.length xcap0, .int .i64 xpos0], .int .i64 6] W fun r w' => r = .returned (.string y0) ∧ Below W.heap.size W w' := fun W h1 => by
      have := ih kids[0] (List.getElem_mem _) (hoks _ (List.getElem_mem _)) n₀ W 6 (by have := h1.size; omega) ((hIk kids[0] (List.getElem_mem _)).below (hB0.trans (h1.mono (by omega)))) (by omega)
      rw [show kids[0].val = Value.agg #[.int .i64 xop0, .string xmon0, .string xname0, .int .i64 xn0, .slice xad0 xkids0.length xcap0, .int .i64 xpos0] by rw [hx0]; rfl, hy0] at this
      exact this
    have HY0 : Hid (y0.data.toList = kids[0].txt 6) := by show _ = _; rw [← hy0]
    clear hy0
    obtain ⟨a00, a01, a02, a03, a04, a05⟩ := row6 hrow 0 (by omega) (by rw [hx0]; rfl)
    clear hx0
    simp only [Nat.zero_mul, Nat.add_zero] at a00 a01 a02 a03 a04 a05
    have HK : Hid (∀ W, Below W0.heap.size W0 W → W.cell? ⟨w.heap.size, 4, none⟩ = some (.slice (some ⟨kb, koff, none⟩) kids.length cap) ∧ W.cell? ⟨w.heap.size, 3, none⟩ = some (.int .i64 n) ∧ W.cell? ⟨kb, koff, none⟩ = some (.int .i64 xop0) ∧ W.cell? ⟨kb, koff + 1, none⟩ = some (.string xmon0) ∧ W.cell? ⟨kb, koff + 2, none⟩ = some (.string xname0) ∧ W.cell? ⟨kb, koff + 3, none⟩ = some (.int .i64 xn0) ∧ W.cell? ⟨kb, koff + 4, none⟩ = some (.slice xad0 xkids0.length xcap0) ∧ W.cell? ⟨kb, koff + 5, none⟩ = some (.int .i64 xpos0)) := fun W hW => by
      obtain ⟨f0, f1, f2, f3, f4, f5⟩ := (bB.below hW hz0).cells
      exact ⟨f4, f3, (hW.cell (p := ⟨kb, _, none⟩) hkb).trans a00, (hW.cell (p := ⟨kb, _, none⟩) hkb).trans a01, (hW.cell (p := ⟨kb, _, none⟩) hkb).trans a02, (hW.cell (p := ⟨kb, _, none⟩) hkb).trans a03, (hW.cell (p := ⟨kb, _, none⟩) hkb).trans a04, (hW.cell (p := ⟨kb, _, none⟩) hkb).trans a05⟩
    have HR : Hid ((Ex.mk 7 mon name n (some ⟨kb, koff, none⟩) cap kids pos).bare = Lib.itoa n ++ (([32, 42, 32] : List UInt8) ++ kids[0].txt 6)) := by
      show _ = _
      rw [(HB _).out, ← kid_at kids 0 6 hkp]
      simp [bareOf, sgnOf, signed, sgn]
    have g1 : ¬ (9223372036854775807 < nd.size + 3) := by omega
    have g2 : ¬ (9223372036854775807 < nd.size + 3 + y0.size) := by omega
    clear a00 a01 a02 a03 a04 a05
    have B := below_drewE (Below.refl W0.heap.size W0)
    go_wp2_with (go_at_call 46; (with_reducible refine hlev.mono ?_); rintro r w' ⟨rfl, hw'⟩; have hw2 := hw'.symm; subst hw2)
    go_region_held3 (fun W => W.cell? ⟨w.heap.size, 4, none⟩ = some (.slice (some ⟨kb, koff, none⟩) kids.length cap) ∧ W.cell? ⟨w.heap.size, 3, none⟩ = some (.int .i64 n) ∧ W.cell? ⟨kb, koff, none⟩ = some (.int .i64 xop0) ∧ W.cell? ⟨kb, koff + 1, none⟩ = some (.string xmon0) ∧ W.cell? ⟨kb, koff + 2, none⟩ = some (.string xname0) ∧ W.cell? ⟨kb, koff + 3, none⟩ = some (.int .i64 xn0) ∧ W.cell? ⟨kb, koff + 4, none⟩ = some (.slice xad0 xkids0.length xcap0) ∧ W.cell? ⟨kb, koff + 5, none⟩ = some (.int .i64 xpos0)) (exact HK.out _ B) (first | (go_at_call 27; (with_reducible refine (hc0 _ B).mono ?_); rintro r u0 ⟨rfl, bb⟩; have B := B.tr le_rfl' bb) | (go_at_call 48; (with_reducible refine (hdig _).mono ?_); rintro r w' ⟨rfl, hw'⟩; have hw2 := hw'.symm; subst hw2))
    all_goals go_wp2
    all_goals go_ret
    all_goals exact ⟨ret_str (by rw [HR.out, ← HY0.out, ← HND.out]; simp [ByteArray.data_append]), hB9.trans (B.mono (by omega))⟩
  have q7b : (op == 7) = false := by rw [beq_eq_false_iff_ne]; exact q7
  have h8 : 8 ≤ op ∧ op ≤ 17 := by omega
  have hkl3 : Hid (kids.length = 2) := by show _ = _; rw [hkl2.out, exKids, if_neg (by omega), if_neg (by omega)]
  have hkx : 1 < kids.length := by rw [hkl3.out]; omega
  have hkx' : (1 : Int) < (kids.length : Int) := by omega
  have hbk1 := subs_both kids hkx
  have hsid := fun W => sides_any op W h8
  obtain ⟨sg, hsg, hsgl, hsign⟩ := sign_is op h8
  obtain ⟨mf, hmf⟩ : ∃ mf, (sgnOf op).2.2.1 = mf := ⟨_, rfl⟩
  obtain ⟨ml, hml⟩ : ∃ ml, (sgnOf op).2.2.2 = ml := ⟨_, rfl⟩
  simp only [hmf, hml] at hsid
  rcases hx0 : kids[0] with ⟨xop0, xmon0, xname0, xn0, xad0, xcap0, xkids0, xpos0⟩
  obtain ⟨y0, hy0⟩ : ∃ y : ByteArray, (⟨(kids[0].txt mf).toArray⟩ : ByteArray) = y := ⟨_, rfl⟩
  have hyl0 : y0.size ≤ 200000000 := by
    have h1 := bare_len kids[0] n₀ w (hIk _ (List.getElem_mem _)) (hoks _ (List.getElem_mem _))
    have h2 := atL_len mf kids[0].opOf kids[0].bare
    rw [← hy0]
    show (kids[0].txt mf).toArray.size ≤ _
    rw [List.size_toArray]
    unfold Ex.txt; omega
  have hc0 : ∀ (W : World), Below W0.heap.size W0 W → Calls Tryd.prog 27 #[.agg #[.int .i64 xop0, .string xmon0, .string xname0, .int .i64 xn0, .slice xad0 xkids0.length xcap0, .int .i64 xpos0], .int .i64 (mf : Int)] W fun r w' => r = .returned (.string y0) ∧ Below W.heap.size W w' := fun W h1 => by
    have := ih kids[0] (List.getElem_mem _) (hoks _ (List.getElem_mem _)) n₀ W mf (by have := h1.size; omega) ((hIk kids[0] (List.getElem_mem _)).below (hB0.trans (h1.mono (by omega)))) (by omega)
    rw [show kids[0].val = Value.agg #[.int .i64 xop0, .string xmon0, .string xname0, .int .i64 xn0, .slice xad0 xkids0.length xcap0, .int .i64 xpos0] by rw [hx0]; rfl, hy0] at this
    exact this
  have HY0 : Hid (y0.data.toList = kids[0].txt mf) := by show _ = _; rw [← hy0]
  clear hy0
  obtain ⟨a00, a01, a02, a03, a04, a05⟩ := row6 hrow 0 (by omega) (by rw [hx0]; rfl)
  clear hx0
  rcases hx1 : kids[1] with ⟨xop1, xmon1, xname1, xn1, xad1, xcap1, xkids1, xpos1⟩
  obtain ⟨y1, hy1⟩ : ∃ y : ByteArray, (⟨(kids[1].txt ml).toArray⟩ : ByteArray) = y := ⟨_, rfl⟩
  have hyl1 : y1.size ≤ 200000000 := by
    have h1 := bare_len kids[1] n₀ w (hIk _ (List.getElem_mem _)) (hoks _ (List.getElem_mem _))
    have h2 := atL_len ml kids[1].opOf kids[1].bare
    rw [← hy1]
    show (kids[1].txt ml).toArray.size ≤ _
    rw [List.size_toArray]
    unfold Ex.txt; omega
  have hc1 : ∀ (W : World), Below W0.heap.size W0 W → Calls Tryd.prog 27 #[.agg #[.int .i64 xop1, .string xmon1, .string xname1, .int .i64 xn1, .slice xad1 xkids1.length xcap1, .int .i64 xpos1], .int .i64 (ml : Int)] W fun r w' => r = .returned (.string y1) ∧ Below W.heap.size W w' := fun W h1 => by
    have := ih kids[1] (List.getElem_mem _) (hoks _ (List.getElem_mem _)) n₀ W ml (by have := h1.size; omega) ((hIk kids[1] (List.getElem_mem _)).below (hB0.trans (h1.mono (by omega)))) (by omega)
    rw [show kids[1].val = Value.agg #[.int .i64 xop1, .string xmon1, .string xname1, .int .i64 xn1, .slice xad1 xkids1.length xcap1, .int .i64 xpos1] by rw [hx1]; rfl, hy1] at this
    exact this
  have HY1 : Hid (y1.data.toList = kids[1].txt ml) := by show _ = _; rw [← hy1]
  clear hy1
  obtain ⟨a10, a11, a12, a13, a14, a15⟩ := row6 hrow 1 (by omega) (by rw [hx1]; rfl)
  clear hx1
  simp only [Nat.zero_mul, Nat.one_mul, Nat.add_zero, Nat.add_assoc, Nat.reduceAdd] at a00 a01 a02 a03 a04 a05 a10 a11 a12 a13 a14 a15
  have HK : Hid (∀ W, Below W0.heap.size W0 W → W.cell? ⟨w.heap.size, 4, none⟩ = some (.slice (some ⟨kb, koff, none⟩) kids.length cap) ∧ W.cell? ⟨w.heap.size, 0, none⟩ = some (.int .i64 op) ∧ W.cell? ⟨kb, koff, none⟩ = some (.int .i64 xop0) ∧ W.cell? ⟨kb, koff + 1, none⟩ = some (.string xmon0) ∧ W.cell? ⟨kb, koff + 2, none⟩ = some (.string xname0) ∧ W.cell? ⟨kb, koff + 3, none⟩ = some (.int .i64 xn0) ∧ W.cell? ⟨kb, koff + 4, none⟩ = some (.slice xad0 xkids0.length xcap0) ∧ W.cell? ⟨kb, koff + 5, none⟩ = some (.int .i64 xpos0) ∧ W.cell? ⟨kb, koff + 6, none⟩ = some (.int .i64 xop1) ∧ W.cell? ⟨kb, koff + 7, none⟩ = some (.string xmon1) ∧ W.cell? ⟨kb, koff + 8, none⟩ = some (.string xname1) ∧ W.cell? ⟨kb, koff + 9, none⟩ = some (.int .i64 xn1) ∧ W.cell? ⟨kb, koff + 10, none⟩ = some (.slice xad1 xkids1.length xcap1) ∧ W.cell? ⟨kb, koff + 11, none⟩ = some (.int .i64 xpos1)) := fun W hW => by
    obtain ⟨f0, f1, f2, f3, f4, f5⟩ := (bB.below hW hz0).cells
    exact ⟨f4, f0, (hW.cell (p := ⟨kb, _, none⟩) hkb).trans a00, (hW.cell (p := ⟨kb, _, none⟩) hkb).trans a01, (hW.cell (p := ⟨kb, _, none⟩) hkb).trans a02, (hW.cell (p := ⟨kb, _, none⟩) hkb).trans a03, (hW.cell (p := ⟨kb, _, none⟩) hkb).trans a04, (hW.cell (p := ⟨kb, _, none⟩) hkb).trans a05, (hW.cell (p := ⟨kb, _, none⟩) hkb).trans a10, (hW.cell (p := ⟨kb, _, none⟩) hkb).trans a11, (hW.cell (p := ⟨kb, _, none⟩) hkb).trans a12, (hW.cell (p := ⟨kb, _, none⟩) hkb).trans a13, (hW.cell (p := ⟨kb, _, none⟩) hkb).trans a14, (hW.cell (p := ⟨kb, _, none⟩) hkb).trans a15⟩
  have HR : Hid ((Ex.mk op mon name n (some ⟨kb, koff, none⟩) cap kids pos).bare = kids[0].txt mf ++ ((32 : UInt8) :: (sg.data.toList ++ [32]) ++ kids[1].txt ml)) := by
    show _ = _
    rw [(HB _).out, ← kid_at kids 0 mf hkp, ← kid_at kids 1 ml hkx, hsg, ← hmf, ← hml]
    simp [bareOf, q1, q2, q3, q4, q5, q6, q7]
  have g1 : ¬ (9223372036854775807 < y0.size + 1) := by omega
  have g2 : ¬ (9223372036854775807 < y0.size + 1 + sg.size) := by omega
  have g3 : ¬ (9223372036854775807 < y0.size + 1 + sg.size + 1) := by omega
  have g4 : ¬ (9223372036854775807 < y0.size + 1 + sg.size + 1 + y1.size) := by omega
  clear a00 a01 a02 a03 a04 a05 a10 a11 a12 a13 a14 a15 hmf hml hsg q1 q2 q3 q4 q5 q6 q7
  have B := below_drewE (Below.refl W0.heap.size W0)
  go_wp2_with (first | (go_at_call 46; (with_reducible refine hlev.mono ?_); rintro r w' ⟨rfl, hw'⟩; have hw2 := hw'.symm; subst hw2) | (go_at_call 47; (with_reducible refine (hsid _).mono ?_); rintro r w' ⟨rfl, hw'⟩; have hw2 := hw'.symm; subst hw2))
  go_region_held3 (fun W => W.cell? ⟨w.heap.size, 4, none⟩ = some (.slice (some ⟨kb, koff, none⟩) kids.length cap) ∧ W.cell? ⟨w.heap.size, 0, none⟩ = some (.int .i64 op) ∧ W.cell? ⟨kb, koff, none⟩ = some (.int .i64 xop0) ∧ W.cell? ⟨kb, koff + 1, none⟩ = some (.string xmon0) ∧ W.cell? ⟨kb, koff + 2, none⟩ = some (.string xname0) ∧ W.cell? ⟨kb, koff + 3, none⟩ = some (.int .i64 xn0) ∧ W.cell? ⟨kb, koff + 4, none⟩ = some (.slice xad0 xkids0.length xcap0) ∧ W.cell? ⟨kb, koff + 5, none⟩ = some (.int .i64 xpos0) ∧ W.cell? ⟨kb, koff + 6, none⟩ = some (.int .i64 xop1) ∧ W.cell? ⟨kb, koff + 7, none⟩ = some (.string xmon1) ∧ W.cell? ⟨kb, koff + 8, none⟩ = some (.string xname1) ∧ W.cell? ⟨kb, koff + 9, none⟩ = some (.int .i64 xn1) ∧ W.cell? ⟨kb, koff + 10, none⟩ = some (.slice xad1 xkids1.length xcap1) ∧ W.cell? ⟨kb, koff + 11, none⟩ = some (.int .i64 xpos1)) (exact HK.out _ B) (first | (go_at_call 27; (with_reducible refine (hc0 _ B).mono ?_); rintro r u0 ⟨rfl, bb⟩; have B := B.tr le_rfl' bb) | (go_at_call 27; (with_reducible refine (hc1 _ B).mono ?_); rintro r u1 ⟨rfl, bb⟩; have B := B.tr le_rfl' bb) | (go_at_call 49; (with_reducible refine (hsign _).mono ?_); rintro r u3 ⟨rfl, bb⟩; have B := B.tr le_rfl' bb))
  all_goals go_wp2
  all_goals go_ret
  all_goals exact ⟨ret_str (by rw [HR.out, ← HY0.out, ← HY1.out]; simp [ByteArray.data_append]), hB9.trans (B.mono (by omega))⟩
set_option maxRecDepth 100000 in
set_option maxHeartbeats 1000000 in
theorem refExpr_any (e : Ex) : e.ok = true → RefExpr e := by
  induction e using Ex.ind with
  | h op mon name n ad cap kids pos ih =>
  intro hok n₀ w l hn hI hlen
  have hlow := refExpr_low op mon name n ad cap kids pos ih hok
  have ho : 1 ≤ op ∧ op ≤ 17 := by
    have h1 := (Ex.ok_mk hok).1
    simp only [Ex.ok1, Bool.and_eq_true, decide_eq_true_iff] at h1
    exact h1.1
  have HN : Hid ((Ex.mk op mon name n ad cap kids pos).txt l = if own op < l then 40 :: ((Ex.mk op mon name n ad cap kids pos).bare ++ [41]) else (Ex.mk op mon name n ad cap kids pos).bare) := rfl
  by_cases hll : own op < l
  · have hnl := bare_len (Ex.mk op mon name n ad cap kids pos) n₀ w hI hok
    have hB9 : Below w.heap.size w (w.alloc (.cells #[.int .i64 op, .string mon, .string name, .int .i64 n, .slice ad kids.length cap, .int .i64 pos] 24)) := (Below.refl _ w).al le_rfl' _
    have hc := hlow n₀ (w.alloc (.cells #[.int .i64 op, .string mon, .string name, .int .i64 n, .slice ad kids.length cap, .int .i64 pos] 24)) 1 (own_pos op ho) (by simp; omega) (hI.below (hB9.mono hn)) hlen
    have hlev := level_any op (w.alloc (.cells #[.int .i64 op, .string mon, .string name, .int .i64 n, .slice ad kids.length cap, .int .i64 pos] 24))
    have hlv : ((own op : Nat) : Int) < (l : Int) := by omega
    rw [if_pos hll] at HN
    obtain ⟨y, hy⟩ : ∃ y : ByteArray, (⟨((Ex.mk op mon name n ad cap kids pos).bare).toArray⟩ : ByteArray) = y := ⟨_, rfl⟩
    have hys : y.size ≤ 200000000 := by
      rw [← hy]
      show ((Ex.mk op mon name n ad cap kids pos).bare).toArray.size ≤ _
      rw [List.size_toArray]; omega
    have HY : Hid (y.data.toList = (Ex.mk op mon name n ad cap kids pos).bare) := by show _ = _; rw [← hy]
    rw [hy] at hc
    clear hy hll
    obtain ⟨res, hres⟩ : ∃ res, (Ex.mk op mon name n ad cap kids pos).txt l = res := ⟨_, rfl⟩
    rw [hres] at HN ⊢
    clear hres
    simp only [Ex.val, Ex.cells] at hc ⊢
    have g1 : ¬ (9223372036854775807 < 1 + y.size) := by omega
    have g2 : ¬ (9223372036854775807 < 1 + y.size + 1) := by omega
    go_enter Tryd.func27, Tryd.ntmps27
    go_wp2_with (first | (go_at_call 46; (with_reducible refine hlev.mono ?_); rintro r w' ⟨rfl, hw'⟩; have hw2 := hw'.symm; subst hw2) | (go_at_call 27; refine hc.mono ?_; rintro r u0 ⟨rfl, bb⟩))
    go_ret
    exact ⟨ret_str (by rw [HN.out, ← HY.out]; simp [ByteArray.data_append]), hB9.tr le_rfl' bb⟩
  · have := hlow n₀ w l (by omega) hn hI hlen
    rw [if_neg hll] at HN
    rw [HN.out]
    exact this
end Go.Proofs.YtnljhlmopjgogaaDoor
