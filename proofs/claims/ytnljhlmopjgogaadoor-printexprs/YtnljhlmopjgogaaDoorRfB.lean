/-
  nest of the document's answer for package print.
-/
import Derived.Test.YtnljhlmopjgogaaDoorRfA
import Derived.Test.YtnljhlmopjgogaaDoorNsA
import Derived.Deep.Cut
namespace Go.Proofs.YtnljhlmopjgogaaDoor
open Go.RowKit Px
/-- The document's nest tells how many levels lie within one another. -/
def RefNest (e : Ex) : Prop := ∀ (n₀ : Nat) (w : World) (l : Nat), n₀ ≤ w.heap.size → e.Is n₀ w → e.subs.length ≤ 1000000 →
  Calls Tryd.prog 26 #[e.val, .int .i64 (l : Int)] w fun r w' => r = .returned (.int .i64 ((e.nest l : Nat) : Int)) ∧ Below w.heap.size w w'
theorem own_pos (op : Int) (h : 1 ≤ op ∧ op ≤ 17) : 1 ≤ own op := by
  by_cases h1 : op < 5 ∨ op = 6 ∨ op = 7 ∨ 17 < op
  · rw [own_low op h1]; omega
  · by_cases h2 : 10 ≤ op ∧ op ≤ 15
    · rw [own_rel op h2]; omega
    · have : op = 5 ∨ op = 8 ∨ op = 9 ∨ op = 16 ∨ op = 17 := by omega
      rcases this with rfl | rfl | rfl | rfl | rfl <;> decide
set_option maxRecDepth 100000 in
set_option maxHeartbeats 2000000 in
theorem refNest_low (op : Int) (mon name : ByteArray) (n : Int) (ad : Option Addr) (cap : Nat) (kids : List Ex) (pos : Int) (ih : ∀ x ∈ kids, x.ok = true → RefNest x) (hok : (Ex.mk op mon name n ad cap kids pos).ok = true) (n₀ : Nat) (w : World) (l : Nat) (hll : l ≤ own op) (hn : n₀ ≤ w.heap.size) (hI : (Ex.mk op mon name n ad cap kids pos).Is n₀ w) (hlen : (Ex.mk op mon name n ad cap kids pos).subs.length ≤ 1000000) :
    Calls Tryd.prog 26 #[(Ex.mk op mon name n ad cap kids pos).val, .int .i64 (l : Int)] w fun r w' => r = .returned (.int .i64 (((Ex.mk op mon name n ad cap kids pos).nst : Nat) : Int)) ∧ Below w.heap.size w w' := by
  have hB9 : Below w.heap.size w (w.alloc (.cells #[.int .i64 op, .string mon, .string name, .int .i64 n, .slice ad kids.length cap, .int .i64 pos] 24)) := (Below.refl _ w).al le_rfl' _
  have hB0 : Below n₀ w (w.alloc (.cells #[.int .i64 op, .string mon, .string name, .int .i64 n, .slice ad kids.length cap, .int .i64 pos] 24)) := hB9.mono hn
  have bB : ExBox (w.alloc (.cells #[.int .i64 op, .string mon, .string name, .int .i64 n, .slice ad kids.length cap, .int .i64 pos] 24)) w.heap.size (.mk op mon name n ad cap kids pos) := ExBox.new w (.mk op mon name n ad cap kids pos)
  have hz0 : w.heap.size < (w.alloc (.cells #[.int .i64 op, .string mon, .string name, .int .i64 n, .slice ad kids.length cap, .int .i64 pos] 24)).heap.size := by simp
  have hIk := hI.down.2.2
  have hsl := hI.down.2.1
  have hl1 := hsl.1; have hl2 := hsl.2.1
  unfold maxLen at hl2
  rw [Ex.subs_mk, List.length_cons] at hlen
  obtain ⟨h1, hoks⟩ := Ex.ok_mk hok
  simp only [Ex.ok1, Bool.and_eq_true, decide_eq_true_iff] at h1
  obtain ⟨⟨ho1, ho2⟩, -, hkl⟩ := h1
  have hkl2 : Hid (kids.length = exKids op.toNat) := by have := eq_of_beq hkl; show _ = _; omega
  clear hkl hok
  have HN := fun ad' => hid (Ex.nst_mk op mon name n ad' cap kids pos)
  have hlv : decide (((own op : Nat) : Int) < (l : Int)) = false := by simp; omega
  simp only [Ex.val, Ex.cells]
  go_enter Tryd.func26, Tryd.ntmps26
  go_upto_region 1 with fail
  obtain ⟨W0, hW0⟩ : ∃ W0, w.alloc (.cells #[.int .i64 op, .string mon, .string name, .int .i64 n, .slice ad kids.length cap, .int .i64 pos] 24) = W0 := ⟨_, rfl⟩
  rw [hW0] at hB0 hB9 bB hz0 ⊢
  clear hW0
  have hlev := level_any op W0
  obtain ⟨d0, d1, d2, d3, d4, d5⟩ := bB.cells
  by_cases hk0 : kids.length = 0
  · have hk0b : ((kids.length : Int) == 0) = true := by rw [beq_iff_eq]; omega
    have HR : Hid ((Ex.mk op mon name n ad cap kids pos).nst = 0) := by
      show _ = _
      rw [(HN ad).out, nestOf, if_neg (by rw [List.length_map, hk0]; omega), if_neg (by rw [List.length_map, hk0]; omega)]
    clear hk0
    go_wp2_with (go_at_call 46; (with_reducible refine hlev.mono ?_); rintro r w' ⟨rfl, hw'⟩; have hw2 := hw'.symm; subst hw2)
    go_ret
    exact ⟨by rw [HR.out]; rfl, hB9⟩
  have hk0b : ((kids.length : Int) == 0) = false := by rw [beq_eq_false_iff_ne]; omega
  have hkp : 0 < kids.length := by omega
  have hkp' : (0 : Int) < (kids.length : Int) := by omega
  obtain ⟨kb, koff, rfl, hkb0, hrow0⟩ := hsl.2.2.resolve_left (by intro h; rw [h] at hkp; simp at hkp)
  have hkb : kb < W0.heap.size := by omega
  have hrow := hrow0.below hB0 hkb0
  have hbk0 := subs_one kids hkp
  clear hk0
  by_cases q5 : op = 5
  · subst q5
    have hkl3 : Hid (kids.length = 1) := by show _ = _; rw [hkl2.out]; rfl
    rcases hx0 : kids[0] with ⟨xop0, xmon0, xname0, xn0, xad0, xcap0, xkids0, xpos0⟩
    obtain ⟨y0, hy0⟩ : ∃ y, kids[0].nest 3 = y := ⟨_, rfl⟩
    have hyl0 : y0 ≤ 4000000 := by
      have h1 := nst_le kids[0]
      rw [← hy0]
      unfold Ex.nest nestL
      split <;> omega
    have hc0 : ∀ (W : World), Below W0.heap.size W0 W → Calls Tryd.prog 26 #[.agg #[.int .i64 xop0, .string xmon0, .string xname0, .int .i64 xn0, .slice xad0 xkids0.length xcap0, .int .i64 xpos0], .int .i64 3] W fun r w' => r = .returned (.int .i64 (y0 : Int)) ∧ Below W.heap.size W w' := fun W h1 => by
      have := ih kids[0] (List.getElem_mem _) (hoks _ (List.getElem_mem _)) n₀ W 3 (by have := h1.size; omega) ((hIk kids[0] (List.getElem_mem _)).below (hB0.trans (h1.mono (by omega)))) (by omega)
      rw [show kids[0].val = Value.agg #[.int .i64 xop0, .string xmon0, .string xname0, .int .i64 xn0, .slice xad0 xkids0.length xcap0, .int .i64 xpos0] by rw [hx0]; rfl, hy0] at this
      exact this
    have HY0 := hid hy0
    clear hy0
    obtain ⟨a00, a01, a02, a03, a04, a05⟩ := row6 hrow 0 (by omega) (by rw [hx0]; rfl)
    clear hx0
    simp only [Nat.zero_mul, Nat.add_zero] at a00 a01 a02 a03 a04 a05
    have HR : Hid ((Ex.mk 5 mon name n (some ⟨kb, koff, none⟩) cap kids pos).nst = 1 + y0) := by
      show _ = _
      rw [(HN _).out, nestOf, if_pos (by rw [List.length_map]; exact hkl3.out), nkid_at kids 0 _ hkp]
      show 1 + kids[0].nest 3 = _
      rw [HY0.out]
    have hc1 := hc0 W0 (Below.refl _ _)
    go_wp2_with (first | (go_at_call 46; (with_reducible refine hlev.mono ?_); rintro r w' ⟨rfl, hw'⟩; have hw2 := hw'.symm; subst hw2) | (go_at_call 26; (with_reducible refine hc1.mono ?_); rintro r u0 ⟨rfl, bb⟩))
    go_ret
    refine ⟨?_, hB9.tr le_rfl' bb⟩
    rw [HR.out]
    exact ret_int (by omega)
  have q5b : (op == 5) = false := by rw [beq_eq_false_iff_ne]; exact q5
  by_cases q6 : op = 6 ∨ op = 7
  · have hkl3 : Hid (kids.length = 1) := by show _ = _; rcases q6 with rfl | rfl <;> (rw [hkl2.out]; rfl)
    have hk1b : ((kids.length : Int) == 1) = true := by rw [beq_iff_eq]; have := hkl3.out; omega
    rcases hx0 : kids[0] with ⟨xop0, xmon0, xname0, xn0, xad0, xcap0, xkids0, xpos0⟩
    obtain ⟨y0, hy0⟩ : ∃ y, kids[0].nest 6 = y := ⟨_, rfl⟩
    have hyl0 : y0 ≤ 4000000 := by
      have h1 := nst_le kids[0]
      rw [← hy0]
      unfold Ex.nest nestL
      split <;> omega
    have hc0 : ∀ (W : World), Below W0.heap.size W0 W → Calls Tryd.prog 26 #[.agg #[.int .i64 xop0, .string xmon0, .string xname0, .int .i64 xn0, .slice xad0 xkids0.length xcap0, .int .i64 xpos0], .int .i64 6] W fun r w' => r = .returned (.int .i64 (y0 : Int)) ∧ Below W.heap.size W w' := fun W h1 => by
      have := ih kids[0] (List.getElem_mem _) (hoks _ (List.getElem_mem _)) n₀ W 6 (by have := h1.size; omega) ((hIk kids[0] (List.getElem_mem _)).below (hB0.trans (h1.mono (by omega)))) (by omega)
      rw [show kids[0].val = Value.agg #[.int .i64 xop0, .string xmon0, .string xname0, .int .i64 xn0, .slice xad0 xkids0.length xcap0, .int .i64 xpos0] by rw [hx0]; rfl, hy0] at this
      exact this
    have HY0 := hid hy0
    clear hy0
    obtain ⟨a00, a01, a02, a03, a04, a05⟩ := row6 hrow 0 (by omega) (by rw [hx0]; rfl)
    clear hx0
    simp only [Nat.zero_mul, Nat.add_zero] at a00 a01 a02 a03 a04 a05
    have HR : Hid ((Ex.mk op mon name n (some ⟨kb, koff, none⟩) cap kids pos).nst = 1 + y0) := by
      show _ = _
      rw [(HN _).out, nestOf, if_pos (by rw [List.length_map]; exact hkl3.out), nkid_at kids 0 _ hkp, show (sgnOf op).2.2.2 = 6 by rcases q6 with rfl | rfl <;> rfl, HY0.out]
    clear q6 q5
    have hc1 := hc0 W0 (Below.refl _ _)
    go_wp2_with (first | (go_at_call 46; (with_reducible refine hlev.mono ?_); rintro r w' ⟨rfl, hw'⟩; have hw2 := hw'.symm; subst hw2) | (go_at_call 26; (with_reducible refine hc1.mono ?_); rintro r u0 ⟨rfl, bb⟩))
    go_ret
    refine ⟨?_, hB9.tr le_rfl' bb⟩
    rw [HR.out]
    exact ret_int (by omega)
  have hkl3 : Hid (kids.length = 2) := by
    show _ = _
    rw [hkl2.out, exKids]
    have h8 : ¬ op.toNat < 8 := by
      intro h
      have h5 : op.toNat < 5 := by omega
      have := hkl2.out
      rw [exKids, if_pos h5] at this
      omega
    rw [if_neg (by omega), if_neg h8]
  have h8 : 8 ≤ op ∧ op ≤ 17 := by
    refine ⟨?_, ho2⟩
    rcases Int.lt_or_le op 8 with h | h
    · exfalso
      have := hkl2.out
      rw [hkl3.out, exKids] at this
      split at this
      · omega
      · split at this <;> omega
    · exact h
  have hk1b : ((kids.length : Int) == 1) = false := by rw [beq_eq_false_iff_ne]; have := hkl3.out; omega
  have hkx : 1 < kids.length := by rw [hkl3.out]; omega
  have hkx' : (1 : Int) < (kids.length : Int) := by omega
  have hbk1 := subs_both kids hkx
  have hsid := fun W => sides_any op W h8
  obtain ⟨mf, hmf⟩ : ∃ mf, (sgnOf op).2.2.1 = mf := ⟨_, rfl⟩
  obtain ⟨ml, hml⟩ : ∃ ml, (sgnOf op).2.2.2 = ml := ⟨_, rfl⟩
  simp only [hmf, hml] at hsid
  rcases hx0 : kids[0] with ⟨xop0, xmon0, xname0, xn0, xad0, xcap0, xkids0, xpos0⟩
  obtain ⟨y0, hy0⟩ : ∃ y, kids[0].nest mf = y := ⟨_, rfl⟩
  have hyl0 : y0 ≤ 4000000 := by
    have h1 := nst_le kids[0]
    rw [← hy0]
    unfold Ex.nest nestL
    split <;> omega
  have hc0 : ∀ (W : World), Below W0.heap.size W0 W → Calls Tryd.prog 26 #[.agg #[.int .i64 xop0, .string xmon0, .string xname0, .int .i64 xn0, .slice xad0 xkids0.length xcap0, .int .i64 xpos0], .int .i64 (mf : Int)] W fun r w' => r = .returned (.int .i64 (y0 : Int)) ∧ Below W.heap.size W w' := fun W h1 => by
    have := ih kids[0] (List.getElem_mem _) (hoks _ (List.getElem_mem _)) n₀ W mf (by have := h1.size; omega) ((hIk kids[0] (List.getElem_mem _)).below (hB0.trans (h1.mono (by omega)))) (by omega)
    rw [show kids[0].val = Value.agg #[.int .i64 xop0, .string xmon0, .string xname0, .int .i64 xn0, .slice xad0 xkids0.length xcap0, .int .i64 xpos0] by rw [hx0]; rfl, hy0] at this
    exact this
  have HY0 := hid hy0
  clear hy0
  obtain ⟨a00, a01, a02, a03, a04, a05⟩ := row6 hrow 0 (by omega) (by rw [hx0]; rfl)
  clear hx0
  rcases hx1 : kids[1] with ⟨xop1, xmon1, xname1, xn1, xad1, xcap1, xkids1, xpos1⟩
  obtain ⟨y1, hy1⟩ : ∃ y, kids[1].nest ml = y := ⟨_, rfl⟩
  have hyl1 : y1 ≤ 4000000 := by
    have h1 := nst_le kids[1]
    rw [← hy1]
    unfold Ex.nest nestL
    split <;> omega
  have hc1 : ∀ (W : World), Below W0.heap.size W0 W → Calls Tryd.prog 26 #[.agg #[.int .i64 xop1, .string xmon1, .string xname1, .int .i64 xn1, .slice xad1 xkids1.length xcap1, .int .i64 xpos1], .int .i64 (ml : Int)] W fun r w' => r = .returned (.int .i64 (y1 : Int)) ∧ Below W.heap.size W w' := fun W h1 => by
    have := ih kids[1] (List.getElem_mem _) (hoks _ (List.getElem_mem _)) n₀ W ml (by have := h1.size; omega) ((hIk kids[1] (List.getElem_mem _)).below (hB0.trans (h1.mono (by omega)))) (by omega)
    rw [show kids[1].val = Value.agg #[.int .i64 xop1, .string xmon1, .string xname1, .int .i64 xn1, .slice xad1 xkids1.length xcap1, .int .i64 xpos1] by rw [hx1]; rfl, hy1] at this
    exact this
  have HY1 := hid hy1
  clear hy1
  obtain ⟨a10, a11, a12, a13, a14, a15⟩ := row6 hrow 1 (by omega) (by rw [hx1]; rfl)
  clear hx1
  simp only [Nat.zero_mul, Nat.one_mul, Nat.add_zero, Nat.add_assoc, Nat.reduceAdd] at a00 a01 a02 a03 a04 a05 a10 a11 a12 a13 a14 a15
  have HK : Hid (∀ W, Below W0.heap.size W0 W → W.cell? ⟨w.heap.size, 4, none⟩ = some (.slice (some ⟨kb, koff, none⟩) kids.length cap) ∧ W.cell? ⟨kb, koff, none⟩ = some (.int .i64 xop0) ∧ W.cell? ⟨kb, koff + 1, none⟩ = some (.string xmon0) ∧ W.cell? ⟨kb, koff + 2, none⟩ = some (.string xname0) ∧ W.cell? ⟨kb, koff + 3, none⟩ = some (.int .i64 xn0) ∧ W.cell? ⟨kb, koff + 4, none⟩ = some (.slice xad0 xkids0.length xcap0) ∧ W.cell? ⟨kb, koff + 5, none⟩ = some (.int .i64 xpos0) ∧ W.cell? ⟨kb, koff + 6, none⟩ = some (.int .i64 xop1) ∧ W.cell? ⟨kb, koff + 7, none⟩ = some (.string xmon1) ∧ W.cell? ⟨kb, koff + 8, none⟩ = some (.string xname1) ∧ W.cell? ⟨kb, koff + 9, none⟩ = some (.int .i64 xn1) ∧ W.cell? ⟨kb, koff + 10, none⟩ = some (.slice xad1 xkids1.length xcap1) ∧ W.cell? ⟨kb, koff + 11, none⟩ = some (.int .i64 xpos1)) := fun W hW => by
    obtain ⟨f0, f1, f2, f3, f4, f5⟩ := (bB.below hW hz0).cells
    exact ⟨f4, (hW.cell (p := ⟨kb, _, none⟩) hkb).trans a00, (hW.cell (p := ⟨kb, _, none⟩) hkb).trans a01, (hW.cell (p := ⟨kb, _, none⟩) hkb).trans a02, (hW.cell (p := ⟨kb, _, none⟩) hkb).trans a03, (hW.cell (p := ⟨kb, _, none⟩) hkb).trans a04, (hW.cell (p := ⟨kb, _, none⟩) hkb).trans a05, (hW.cell (p := ⟨kb, _, none⟩) hkb).trans a10, (hW.cell (p := ⟨kb, _, none⟩) hkb).trans a11, (hW.cell (p := ⟨kb, _, none⟩) hkb).trans a12, (hW.cell (p := ⟨kb, _, none⟩) hkb).trans a13, (hW.cell (p := ⟨kb, _, none⟩) hkb).trans a14, (hW.cell (p := ⟨kb, _, none⟩) hkb).trans a15⟩
  have HR : Hid ((Ex.mk op mon name n (some ⟨kb, koff, none⟩) cap kids pos).nst = max y0 y1) := by
    show _ = _
    rw [(HN _).out, nestOf, if_neg (by rw [List.length_map, hkl3.out]; omega), if_pos (by rw [List.length_map]; exact hkl3.out), nkid_at kids 0 _ hkp, nkid_at kids 1 _ hkx, hmf, hml, HY0.out, HY1.out]
  clear a00 a01 a02 a03 a04 a05 a10 a11 a12 a13 a14 a15 hmf hml q5 q6
  have B := below_drewE (Below.refl W0.heap.size W0)
  go_wp2_with (first | (go_at_call 46; (with_reducible refine hlev.mono ?_); rintro r w' ⟨rfl, hw'⟩; have hw2 := hw'.symm; subst hw2) | (go_at_call 47; (with_reducible refine (hsid _).mono ?_); rintro r w' ⟨rfl, hw'⟩; have hw2 := hw'.symm; subst hw2))
  go_region_held3 (fun W => W.cell? ⟨w.heap.size, 4, none⟩ = some (.slice (some ⟨kb, koff, none⟩) kids.length cap) ∧ W.cell? ⟨kb, koff, none⟩ = some (.int .i64 xop0) ∧ W.cell? ⟨kb, koff + 1, none⟩ = some (.string xmon0) ∧ W.cell? ⟨kb, koff + 2, none⟩ = some (.string xname0) ∧ W.cell? ⟨kb, koff + 3, none⟩ = some (.int .i64 xn0) ∧ W.cell? ⟨kb, koff + 4, none⟩ = some (.slice xad0 xkids0.length xcap0) ∧ W.cell? ⟨kb, koff + 5, none⟩ = some (.int .i64 xpos0) ∧ W.cell? ⟨kb, koff + 6, none⟩ = some (.int .i64 xop1) ∧ W.cell? ⟨kb, koff + 7, none⟩ = some (.string xmon1) ∧ W.cell? ⟨kb, koff + 8, none⟩ = some (.string xname1) ∧ W.cell? ⟨kb, koff + 9, none⟩ = some (.int .i64 xn1) ∧ W.cell? ⟨kb, koff + 10, none⟩ = some (.slice xad1 xkids1.length xcap1) ∧ W.cell? ⟨kb, koff + 11, none⟩ = some (.int .i64 xpos1)) (exact HK.out _ B) (first | (go_at_call 26; (with_reducible refine (hc0 _ B).mono ?_); rintro r u0 ⟨rfl, bb⟩; have B := B.tr le_rfl' bb) | (go_at_call 26; (with_reducible refine (hc1 _ B).mono ?_); rintro r u1 ⟨rfl, bb⟩; have B := B.tr le_rfl' bb))
  all_goals go_wp2
  all_goals go_ret
  all_goals refine ⟨?_, hB9.trans (B.mono (by omega))⟩
  all_goals rw [HR.out]
  all_goals exact ret_int (by omega)
set_option maxRecDepth 100000 in
set_option maxHeartbeats 1000000 in
theorem refNest_any (e : Ex) : e.ok = true → RefNest e := by
  induction e using Ex.ind with
  | h op mon name n ad cap kids pos ih =>
  intro hok n₀ w l hn hI hlen
  have hlow := refNest_low op mon name n ad cap kids pos ih hok
  have ho : 1 ≤ op ∧ op ≤ 17 := by
    have h1 := (Ex.ok_mk hok).1
    simp only [Ex.ok1, Bool.and_eq_true, decide_eq_true_iff] at h1
    exact h1.1
  have HN : Hid ((Ex.mk op mon name n ad cap kids pos).nest l = (if own op < l then 1 else 0) + (Ex.mk op mon name n ad cap kids pos).nst) := rfl
  by_cases hll : own op < l
  · have hnl := nst_le (Ex.mk op mon name n ad cap kids pos)
    have hB9 : Below w.heap.size w (w.alloc (.cells #[.int .i64 op, .string mon, .string name, .int .i64 n, .slice ad kids.length cap, .int .i64 pos] 24)) := (Below.refl _ w).al le_rfl' _
    have hc := hlow n₀ (w.alloc (.cells #[.int .i64 op, .string mon, .string name, .int .i64 n, .slice ad kids.length cap, .int .i64 pos] 24)) 1 (own_pos op ho) (by simp; omega) (hI.below (hB9.mono hn)) hlen
    have hlev := level_any op (w.alloc (.cells #[.int .i64 op, .string mon, .string name, .int .i64 n, .slice ad kids.length cap, .int .i64 pos] 24))
    have hlv : ((own op : Nat) : Int) < (l : Int) := by omega
    rw [if_pos hll] at HN
    obtain ⟨y, hy⟩ : ∃ y, (Ex.mk op mon name n ad cap kids pos).nst = y := ⟨_, rfl⟩
    rw [hy] at HN hc hnl
    clear hy hll
    simp only [Ex.val, Ex.cells] at hc ⊢
    have hy2 : y ≤ 2000000 := by omega
    go_enter Tryd.func26, Tryd.ntmps26
    go_wp2_with (first | (go_at_call 46; (with_reducible refine hlev.mono ?_); rintro r w' ⟨rfl, hw'⟩; have hw2 := hw'.symm; subst hw2) | (go_at_call 26; refine hc.mono ?_; rintro r u0 ⟨rfl, bb⟩))
    go_ret
    refine ⟨?_, hB9.tr le_rfl' bb⟩
    rw [HN.out]
    exact ret_int (by omega)
  · have := hlow n₀ w l (by omega) hn hI hlen
    rw [if_neg hll, Nat.zero_add] at HN
    rw [HN.out]
    exact this
end Go.Proofs.YtnljhlmopjgogaaDoor
