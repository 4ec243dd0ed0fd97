/-
  nest of package print: how many levels lie within one another in an expression at a level.
-/
import Derived.Test.YtnljhlmopjgogaaGreatDoorExB
namespace Go.Proofs.YtnljhlmopjgogaaGreatDoor
open Go.RowKit Px
theorem wrap_id (x : Int) (h1 : -9223372036854775808 ≤ x) (h2 : x ≤ 9223372036854775807) : IntKind.i64.wrap x = x := by
  rw [IntKind.wrap_i64]; omega
set_option maxRecDepth 100000 in
set_option maxHeartbeats 4000000 in
theorem nest_any (e : Ex) : ∀ (n₀ m l : Nat) (w : World), n₀ ≤ w.heap.size → e.Is n₀ w → SignsAt w m → e.subs.length ≤ 1000000 →
    Calls Tryz.prog 28 #[.map (some m), e.val, .int .i64 (l : Int)] w fun r w' => r = .returned (.int .i64 ((e.nest l : Nat) : Int)) ∧ Below w.heap.size w w' := by
  induction e using Ex.ind with
  | h op mon name n ad cap kids pos ih =>
  intro n₀ m l w hn hI hs hlen
  have hml := hs.lt
  obtain ⟨mt, mo, mf, ml, hm⟩ : ∃ mt mo mf ml, sgnOf op = (mt, mo, mf, ml) := ⟨_, _, _, _, rfl⟩
  have HM := hid hm
  have hl0 : ∀ W, SignsAt W m → (Instr.lookup 59 (.map (some m)) (.int .i64 op) false).run Tryz.prog W = .ok (.agg #[.string mt, .int .i64 (mo : Int), .int .i64 (mf : Int), .int .i64 (ml : Int)]) W := fun W h => by
    rw [lookup_one h op, hm]; rfl
  clear hm
  have bB : ExBox (w.alloc (.cells #[.int .i64 op, .string mon, .string name, .int .i64 n, .slice ad kids.length cap, .int .i64 pos] 50)) w.heap.size (.mk op mon name n ad cap kids pos) := ExBox.new w (.mk op mon name n ad cap kids pos)
  have hB0 : Below n₀ w (w.alloc (.cells #[.int .i64 op, .string mon, .string name, .int .i64 n, .slice ad kids.length cap, .int .i64 pos] 50)) := (Below.refl _ w).al hn _
  have hB9 : Below w.heap.size w (w.alloc (.cells #[.int .i64 op, .string mon, .string name, .int .i64 n, .slice ad kids.length cap, .int .i64 pos] 50)) := (Below.refl _ w).al le_rfl' _
  have hs0 := hs.below hB9 hml
  have hz0 : (w.alloc (.cells #[.int .i64 op, .string mon, .string name, .int .i64 n, .slice ad kids.length cap, .int .i64 pos] 50)).heap.size = w.heap.size + 1 := by simp
  have hIk := hI.down.2.2
  have hsl := hI.down.2.1
  have hl1 := hsl.1; have hl2 := hsl.2.1
  unfold maxLen at hl2
  rw [Ex.subs_mk, List.length_cons] at hlen
  simp only [Ex.val, Ex.cells]
  go_enter Tryz.func28, Tryz.ntmps28
  go_wp2_with fail
  obtain ⟨W0, hW0⟩ : ∃ W0, w.alloc (.cells #[.int .i64 op, .string mon, .string name, .int .i64 n, .slice ad kids.length cap, .int .i64 pos] 50) = W0 := ⟨_, rfl⟩
  rw [hW0] at bB hB0 hB9 hs0 hz0 ⊢
  clear hW0
  obtain ⟨d0, d1, d2, d3, d4, d5⟩ := bB.cells
  have hq := enclosed_any m op l W0 hs0
  cases henc : decide ((own op : Int) < l)
  · rw [henc] at hq
    have HN : Hid (∀ ad : Option Addr, (Ex.mk op mon name n ad cap kids pos).nest l = 0 + (Ex.mk op mon name n ad cap kids pos).nst) := fun ad => by
      have := of_decide_eq_false henc
      rw [Ex.nest, nestL]
      show (if own op < l then 1 else 0) + _ = _
      rw [if_neg (by omega)]
    clear henc
    by_cases hk1 : kids.length = 1
    · have hk1b : ((kids.length : Int) == 1) = true := by rw [beq_iff_eq]; omega
      have HKL := hid hk1
      have hk0 : 0 < kids.length := by omega
      have hk0' : (0 : Int) < (kids.length : Int) := by omega
      have hbk0 : kids[0].subs.length ≤ 1000000 := by have := subs_one kids hk0; omega
      obtain ⟨kb, koff, rfl, hkb0, hrow0⟩ := hsl.2.2.resolve_left (by intro h; rw [h] at hk0; simp at hk0)
      clear hk1
      go_wp2_with (go_at_call 47; (refine hq.mono ?_; rintro e u1 ⟨rfl, B⟩; have hs1 := hs0.below B (by omega); have l1 := hl0 u1 hs1; have bB1 := bB.below B (by omega); obtain ⟨d0, d1, d2, d3, d4, d5⟩ := bB1.cells; have hz1 := B.size; have d4b := fun o => ((bB1.below ((Below.refl _ u1).al le_rfl' o) (by omega)).cells).2.2.2.2.1))
      have hB : Below n₀ w (u1.alloc (.cells #[.string mt, .int .i64 (mo : Int), .int .i64 (mf : Int), .int .i64 (ml : Int)] 81)) := ((hB0.trans (B.mono (by omega))).al hn _)
      have hB9 : Below w.heap.size w (u1.alloc (.cells #[.string mt, .int .i64 (mo : Int), .int .i64 (mf : Int), .int .i64 (ml : Int)] 81)) := ((hB9.trans (B.mono (by omega))).al le_rfl' _)
      have hs1 := hs1.below ((Below.refl _ u1).al le_rfl' (.cells #[.string mt, .int .i64 (mo : Int), .int .i64 (mf : Int), .int .i64 (ml : Int)] 81)) (by omega)
      have bB1 := bB1.below ((Below.refl _ u1).al le_rfl' (.cells #[.string mt, .int .i64 (mo : Int), .int .i64 (mf : Int), .int .i64 (ml : Int)] 81)) (by omega)
      have bS1 : (u1.alloc (.cells #[.string mt, .int .i64 (mo : Int), .int .i64 (mf : Int), .int .i64 (ml : Int)] 81)).heap[u1.heap.size]? = some (.cells #[.string mt, .int .i64 (mo : Int), .int .i64 (mf : Int), .int .i64 (ml : Int)] 81 (0, 0)) := heap_alloc_new u1 _
      have hzz : (u1.alloc (.cells #[.string mt, .int .i64 (mo : Int), .int .i64 (mf : Int), .int .i64 (ml : Int)] 81)).heap.size = u1.heap.size + 1 := by simp
      obtain ⟨Bs, hBs⟩ : ∃ Bs, u1.heap.size = Bs := ⟨_, rfl⟩
      obtain ⟨W1, hW1⟩ : ∃ W1, u1.alloc (.cells #[.string mt, .int .i64 (mo : Int), .int .i64 (mf : Int), .int .i64 (ml : Int)] 81) = W1 := ⟨_, rfl⟩
      rw [hW1] at hB hB9 hs1 bB1 bS1 hzz ⊢
      rw [hBs] at bS1 hzz hz1 ⊢
      have hkb : kb < W1.heap.size := by omega
      have hrow := hrow0.below hB hkb0
      clear hBs hW1 l1 d0 d1 d2 d3 d4 d5 d4b hq B
      rcases hx0 : kids[0] with ⟨xop0, xmon0, xname0, xn0, xad0, xcap0, xkids0, xpos0⟩
      obtain ⟨y0, hy0⟩ : ∃ y, kids[0].nest ml = y := ⟨_, rfl⟩
      have hyl0 : y0 ≤ 4000000 := by
        have h1 := nst_le kids[0]
        have h2 := hbk0
        rw [← hy0]
        unfold Ex.nest nestL
        split <;> omega
      have hc0 : ∀ (W : World), Below W1.heap.size W1 W → Calls Tryz.prog 28 #[.map (some m), .agg #[.int .i64 xop0, .string xmon0, .string xname0, .int .i64 xn0, .slice xad0 xkids0.length xcap0, .int .i64 xpos0], .int .i64 (ml : Int)] W fun r w' => r = .returned (.int .i64 (y0 : Int)) ∧ Below W.heap.size W w' := fun W h1 => by
        have := ih kids[0] (List.getElem_mem _) n₀ m ml W (by have := h1.size; omega) ((hIk kids[0] (List.getElem_mem _)).below (hB.trans (h1.mono (by omega)))) (hs1.below h1 (by omega)) (by omega)
        rw [show kids[0].val = Value.agg #[.int .i64 xop0, .string xmon0, .string xname0, .int .i64 xn0, .slice xad0 xkids0.length xcap0, .int .i64 xpos0] by rw [hx0]; rfl, hy0] at this
        exact this
      obtain ⟨a00, a01, a02, a03, a04, a05⟩ := row6 hrow 0 (by omega) (by rw [hx0]; rfl)
      have HY0 := hid hy0
      clear hx0 hy0
      simp only [Nat.zero_mul, Nat.add_zero] at a00 a01 a02 a03 a04 a05
      have HK : Hid (∀ W, Below W1.heap.size W1 W → W.cell? ⟨w.heap.size, 4, none⟩ = some (.slice (some ⟨kb, koff, none⟩) kids.length cap) ∧ W.cell? ⟨Bs, 2, none⟩ = some (.int .i64 (mf : Int)) ∧ W.cell? ⟨Bs, 3, none⟩ = some (.int .i64 (ml : Int)) ∧ W.cell? ⟨kb, koff, none⟩ = some (.int .i64 xop0) ∧ W.cell? ⟨kb, koff + 1, none⟩ = some (.string xmon0) ∧ W.cell? ⟨kb, koff + 2, none⟩ = some (.string xname0) ∧ W.cell? ⟨kb, koff + 3, none⟩ = some (.int .i64 xn0) ∧ W.cell? ⟨kb, koff + 4, none⟩ = some (.slice xad0 xkids0.length xcap0) ∧ W.cell? ⟨kb, koff + 5, none⟩ = some (.int .i64 xpos0)) := fun W hW => by
        obtain ⟨f0, f1, f2, f3, f4, f5⟩ := (bB1.below hW (by omega)).cells
        have g := (hW.block Bs (by omega)).trans bS1
        exact ⟨f4, cell_of' g 2, cell_of' g 3, (hW.cell (p := ⟨kb, _, none⟩) hkb).trans a00, (hW.cell (p := ⟨kb, _, none⟩) hkb).trans a01, (hW.cell (p := ⟨kb, _, none⟩) hkb).trans a02, (hW.cell (p := ⟨kb, _, none⟩) hkb).trans a03, (hW.cell (p := ⟨kb, _, none⟩) hkb).trans a04, (hW.cell (p := ⟨kb, _, none⟩) hkb).trans a05⟩
      have HZZ := hid hzz
      clear a00 a01 a02 a03 a04 a05 hzz
      have B := below_drewE (Below.refl W1.heap.size W1)
      have HR : Hid ((Ex.mk op mon name n (some ⟨kb, koff, none⟩) cap kids pos).nest l = 0 + (1 + y0)) := by
        show _ = _
        rw [HN.out, Ex.nst_mk, nestOf, if_pos (by rw [List.length_map]; exact HKL.out), nkid_at kids 0 _ hk0, HM.out]
        show _ + (1 + kids[0].nest ml) = _
        rw [HY0.out]
      go_region_held3 (fun W => W.cell? ⟨w.heap.size, 4, none⟩ = some (.slice (some ⟨kb, koff, none⟩) kids.length cap) ∧ W.cell? ⟨Bs, 2, none⟩ = some (.int .i64 (mf : Int)) ∧ W.cell? ⟨Bs, 3, none⟩ = some (.int .i64 (ml : Int)) ∧ W.cell? ⟨kb, koff, none⟩ = some (.int .i64 xop0) ∧ W.cell? ⟨kb, koff + 1, none⟩ = some (.string xmon0) ∧ W.cell? ⟨kb, koff + 2, none⟩ = some (.string xname0) ∧ W.cell? ⟨kb, koff + 3, none⟩ = some (.int .i64 xn0) ∧ W.cell? ⟨kb, koff + 4, none⟩ = some (.slice xad0 xkids0.length xcap0) ∧ W.cell? ⟨kb, koff + 5, none⟩ = some (.int .i64 xpos0)) (exact HK.out _ B) ((go_at_call 28; with_reducible refine (hc0 _ B).mono ?_; rintro r u0 ⟨rfl, bb⟩; have B := B.tr le_rfl' bb))
      go_wp2
      go_ret
      have e1 : IntKind.i64.wrap (IntKind.i64.wrap (1 + (y0 : Int))) = ((0 + (1 + y0) : Nat) : Int) := by rw [wrap_id (1 + (y0 : Int)) (by omega) (by omega), wrap_id _ (by omega) (by omega)]; omega
      exact ⟨by rw [HR.out, ← e1]; rfl, hB9.trans (B.mono (by have := HZZ.out; omega))⟩
    by_cases hk2 : kids.length = 2
    · have hk1b : ((kids.length : Int) == 1) = false := by rw [beq_eq_false_iff_ne]; omega
      have hk2b : ((kids.length : Int) == 2) = true := by rw [beq_iff_eq]; omega
      have HKL := hid hk2
      have hk0 : 0 < kids.length := by omega
      have hk0' : (0 : Int) < (kids.length : Int) := by omega
      have hk1' : (1 : Int) < (kids.length : Int) := by omega
      have hkx : 1 < kids.length := by omega
      have hbk0 : kids[0].subs.length ≤ 1000000 := by have := subs_both kids hkx; omega
      have hbk1 : kids[1].subs.length ≤ 1000000 := by have := subs_both kids hkx; omega
      obtain ⟨kb, koff, rfl, hkb0, hrow0⟩ := hsl.2.2.resolve_left (by intro h; rw [h] at hk0; simp at hk0)
      clear hk2 hk1
      go_wp2_with (go_at_call 47; (refine hq.mono ?_; rintro e u1 ⟨rfl, B⟩; have hs1 := hs0.below B (by omega); have l1 := hl0 u1 hs1; have bB1 := bB.below B (by omega); obtain ⟨d0, d1, d2, d3, d4, d5⟩ := bB1.cells; have hz1 := B.size; have d4b := fun o => ((bB1.below ((Below.refl _ u1).al le_rfl' o) (by omega)).cells).2.2.2.2.1))
      have hB : Below n₀ w (u1.alloc (.cells #[.string mt, .int .i64 (mo : Int), .int .i64 (mf : Int), .int .i64 (ml : Int)] 81)) := ((hB0.trans (B.mono (by omega))).al hn _)
      have hB9 : Below w.heap.size w (u1.alloc (.cells #[.string mt, .int .i64 (mo : Int), .int .i64 (mf : Int), .int .i64 (ml : Int)] 81)) := ((hB9.trans (B.mono (by omega))).al le_rfl' _)
      have hs1 := hs1.below ((Below.refl _ u1).al le_rfl' (.cells #[.string mt, .int .i64 (mo : Int), .int .i64 (mf : Int), .int .i64 (ml : Int)] 81)) (by omega)
      have bB1 := bB1.below ((Below.refl _ u1).al le_rfl' (.cells #[.string mt, .int .i64 (mo : Int), .int .i64 (mf : Int), .int .i64 (ml : Int)] 81)) (by omega)
      have bS1 : (u1.alloc (.cells #[.string mt, .int .i64 (mo : Int), .int .i64 (mf : Int), .int .i64 (ml : Int)] 81)).heap[u1.heap.size]? = some (.cells #[.string mt, .int .i64 (mo : Int), .int .i64 (mf : Int), .int .i64 (ml : Int)] 81 (0, 0)) := heap_alloc_new u1 _
      have hzz : (u1.alloc (.cells #[.string mt, .int .i64 (mo : Int), .int .i64 (mf : Int), .int .i64 (ml : Int)] 81)).heap.size = u1.heap.size + 1 := by simp
      obtain ⟨Bs, hBs⟩ : ∃ Bs, u1.heap.size = Bs := ⟨_, rfl⟩
      obtain ⟨W1, hW1⟩ : ∃ W1, u1.alloc (.cells #[.string mt, .int .i64 (mo : Int), .int .i64 (mf : Int), .int .i64 (ml : Int)] 81) = W1 := ⟨_, rfl⟩
      rw [hW1] at hB hB9 hs1 bB1 bS1 hzz ⊢
      rw [hBs] at bS1 hzz hz1 ⊢
      have hkb : kb < W1.heap.size := by omega
      have hrow := hrow0.below hB hkb0
      clear hBs hW1 l1 d0 d1 d2 d3 d4 d5 d4b hq B
      rcases hx0 : kids[0] with ⟨xop0, xmon0, xname0, xn0, xad0, xcap0, xkids0, xpos0⟩
      obtain ⟨y0, hy0⟩ : ∃ y, kids[0].nest mf = y := ⟨_, rfl⟩
      have hyl0 : y0 ≤ 4000000 := by
        have h1 := nst_le kids[0]
        have h2 := hbk0
        rw [← hy0]
        unfold Ex.nest nestL
        split <;> omega
      have hc0 : ∀ (W : World), Below W1.heap.size W1 W → Calls Tryz.prog 28 #[.map (some m), .agg #[.int .i64 xop0, .string xmon0, .string xname0, .int .i64 xn0, .slice xad0 xkids0.length xcap0, .int .i64 xpos0], .int .i64 (mf : Int)] W fun r w' => r = .returned (.int .i64 (y0 : Int)) ∧ Below W.heap.size W w' := fun W h1 => by
        have := ih kids[0] (List.getElem_mem _) n₀ m mf W (by have := h1.size; omega) ((hIk kids[0] (List.getElem_mem _)).below (hB.trans (h1.mono (by omega)))) (hs1.below h1 (by omega)) (by omega)
        rw [show kids[0].val = Value.agg #[.int .i64 xop0, .string xmon0, .string xname0, .int .i64 xn0, .slice xad0 xkids0.length xcap0, .int .i64 xpos0] by rw [hx0]; rfl, hy0] at this
        exact this
      obtain ⟨a00, a01, a02, a03, a04, a05⟩ := row6 hrow 0 (by omega) (by rw [hx0]; rfl)
      have HY0 := hid hy0
      clear hx0 hy0
      rcases hx1 : kids[1] with ⟨xop1, xmon1, xname1, xn1, xad1, xcap1, xkids1, xpos1⟩
      obtain ⟨y1, hy1⟩ : ∃ y, kids[1].nest ml = y := ⟨_, rfl⟩
      have hyl1 : y1 ≤ 4000000 := by
        have h1 := nst_le kids[1]
        have h2 := hbk1
        rw [← hy1]
        unfold Ex.nest nestL
        split <;> omega
      have hc1 : ∀ (W : World), Below W1.heap.size W1 W → Calls Tryz.prog 28 #[.map (some m), .agg #[.int .i64 xop1, .string xmon1, .string xname1, .int .i64 xn1, .slice xad1 xkids1.length xcap1, .int .i64 xpos1], .int .i64 (ml : Int)] W fun r w' => r = .returned (.int .i64 (y1 : Int)) ∧ Below W.heap.size W w' := fun W h1 => by
        have := ih kids[1] (List.getElem_mem _) n₀ m ml W (by have := h1.size; omega) ((hIk kids[1] (List.getElem_mem _)).below (hB.trans (h1.mono (by omega)))) (hs1.below h1 (by omega)) (by omega)
        rw [show kids[1].val = Value.agg #[.int .i64 xop1, .string xmon1, .string xname1, .int .i64 xn1, .slice xad1 xkids1.length xcap1, .int .i64 xpos1] by rw [hx1]; rfl, hy1] at this
        exact this
      obtain ⟨a10, a11, a12, a13, a14, a15⟩ := row6 hrow 1 (by omega) (by rw [hx1]; rfl)
      have HY1 := hid hy1
      clear hx1 hy1
      simp only [Nat.zero_mul, Nat.one_mul, Nat.add_zero, Nat.add_assoc, Nat.reduceAdd] at a00 a01 a02 a03 a04 a05 a10 a11 a12 a13 a14 a15
      have HK : Hid (∀ W, Below W1.heap.size W1 W → W.cell? ⟨w.heap.size, 4, none⟩ = some (.slice (some ⟨kb, koff, none⟩) kids.length cap) ∧ W.cell? ⟨Bs, 2, none⟩ = some (.int .i64 (mf : Int)) ∧ W.cell? ⟨Bs, 3, none⟩ = some (.int .i64 (ml : Int)) ∧ W.cell? ⟨kb, koff, none⟩ = some (.int .i64 xop0) ∧ W.cell? ⟨kb, koff + 1, none⟩ = some (.string xmon0) ∧ W.cell? ⟨kb, koff + 2, none⟩ = some (.string xname0) ∧ W.cell? ⟨kb, koff + 3, none⟩ = some (.int .i64 xn0) ∧ W.cell? ⟨kb, koff + 4, none⟩ = some (.slice xad0 xkids0.length xcap0) ∧ W.cell? ⟨kb, koff + 5, none⟩ = some (.int .i64 xpos0) ∧ W.cell? ⟨kb, koff + 6, none⟩ = some (.int .i64 xop1) ∧ W.cell? ⟨kb, koff + 7, none⟩ = some (.string xmon1) ∧ W.cell? ⟨kb, koff + 8, none⟩ = some (.string xname1) ∧ W.cell? ⟨kb, koff + 9, none⟩ = some (.int .i64 xn1) ∧ W.cell? ⟨kb, koff + 10, none⟩ = some (.slice xad1 xkids1.length xcap1) ∧ W.cell? ⟨kb, koff + 11, none⟩ = some (.int .i64 xpos1)) := fun W hW => by
        obtain ⟨f0, f1, f2, f3, f4, f5⟩ := (bB1.below hW (by omega)).cells
        have g := (hW.block Bs (by omega)).trans bS1
        exact ⟨f4, cell_of' g 2, cell_of' g 3, (hW.cell (p := ⟨kb, _, none⟩) hkb).trans a00, (hW.cell (p := ⟨kb, _, none⟩) hkb).trans a01, (hW.cell (p := ⟨kb, _, none⟩) hkb).trans a02, (hW.cell (p := ⟨kb, _, none⟩) hkb).trans a03, (hW.cell (p := ⟨kb, _, none⟩) hkb).trans a04, (hW.cell (p := ⟨kb, _, none⟩) hkb).trans a05, (hW.cell (p := ⟨kb, _, none⟩) hkb).trans a10, (hW.cell (p := ⟨kb, _, none⟩) hkb).trans a11, (hW.cell (p := ⟨kb, _, none⟩) hkb).trans a12, (hW.cell (p := ⟨kb, _, none⟩) hkb).trans a13, (hW.cell (p := ⟨kb, _, none⟩) hkb).trans a14, (hW.cell (p := ⟨kb, _, none⟩) hkb).trans a15⟩
      have HZZ := hid hzz
      clear a00 a01 a02 a03 a04 a05 a10 a11 a12 a13 a14 a15 hzz
      have B := below_drewE (Below.refl W1.heap.size W1)
      have HR : Hid ((Ex.mk op mon name n (some ⟨kb, koff, none⟩) cap kids pos).nest l = 0 + max y0 y1) := by
        show _ = _
        rw [HN.out, Ex.nst_mk, nestOf, if_neg (by rw [List.length_map, HKL.out]; omega), if_pos (by rw [List.length_map]; exact HKL.out), nkid_at kids 0 _ hk0, nkid_at kids 1 _ hkx, HM.out]
        show _ + max (kids[0].nest mf) (kids[1].nest ml) = _
        rw [HY0.out, HY1.out]
      go_region_held3 (fun W => W.cell? ⟨w.heap.size, 4, none⟩ = some (.slice (some ⟨kb, koff, none⟩) kids.length cap) ∧ W.cell? ⟨Bs, 2, none⟩ = some (.int .i64 (mf : Int)) ∧ W.cell? ⟨Bs, 3, none⟩ = some (.int .i64 (ml : Int)) ∧ W.cell? ⟨kb, koff, none⟩ = some (.int .i64 xop0) ∧ W.cell? ⟨kb, koff + 1, none⟩ = some (.string xmon0) ∧ W.cell? ⟨kb, koff + 2, none⟩ = some (.string xname0) ∧ W.cell? ⟨kb, koff + 3, none⟩ = some (.int .i64 xn0) ∧ W.cell? ⟨kb, koff + 4, none⟩ = some (.slice xad0 xkids0.length xcap0) ∧ W.cell? ⟨kb, koff + 5, none⟩ = some (.int .i64 xpos0) ∧ W.cell? ⟨kb, koff + 6, none⟩ = some (.int .i64 xop1) ∧ W.cell? ⟨kb, koff + 7, none⟩ = some (.string xmon1) ∧ W.cell? ⟨kb, koff + 8, none⟩ = some (.string xname1) ∧ W.cell? ⟨kb, koff + 9, none⟩ = some (.int .i64 xn1) ∧ W.cell? ⟨kb, koff + 10, none⟩ = some (.slice xad1 xkids1.length xcap1) ∧ W.cell? ⟨kb, koff + 11, none⟩ = some (.int .i64 xpos1)) (exact HK.out _ B) (first | (go_at_call 28; with_reducible refine (hc0 _ B).mono ?_; rintro r u0 ⟨rfl, bb⟩; have B := B.tr le_rfl' bb) | (go_at_call 28; with_reducible refine (hc1 _ B).mono ?_; rintro r u1 ⟨rfl, bb⟩; have B := B.tr le_rfl' bb))
      all_goals go_wp2
      all_goals go_ret
      all_goals have e1 : IntKind.i64.wrap (max (y0 : Int) y1) = ((0 + max y0 y1 : Nat) : Int) := by rw [wrap_id _ (by omega) (by omega)]; omega
      all_goals exact ⟨by rw [HR.out, ← e1]; rfl, hB9.trans (B.mono (by have := HZZ.out; omega))⟩
    · have hk1b : ((kids.length : Int) == 1) = false := by rw [beq_eq_false_iff_ne]; omega
      have hk2b : ((kids.length : Int) == 2) = false := by rw [beq_eq_false_iff_ne]; omega
      have HR : Hid ((Ex.mk op mon name n ad cap kids pos).nest l = 0) := by
        show _ = _
        rw [HN.out, Ex.nst_mk, nestOf, if_neg (by rw [List.length_map]; exact hk1), if_neg (by rw [List.length_map]; exact hk2)]
      go_wp2_with (go_at_call 47; (refine hq.mono ?_; rintro e u1 ⟨rfl, B⟩; have hs1 := hs0.below B (by omega); have l1 := hl0 u1 hs1; have bB1 := bB.below B (by omega); obtain ⟨d0, d1, d2, d3, d4, d5⟩ := bB1.cells; have hz1 := B.size; have d4b := fun o => ((bB1.below ((Below.refl _ u1).al le_rfl' o) (by omega)).cells).2.2.2.2.1))
      go_ret
      exact ⟨by rw [HR.out]; rfl, (hB9.trans (B.mono (by omega))).al le_rfl' _⟩
  · rw [henc] at hq
    have HN : Hid (∀ ad : Option Addr, (Ex.mk op mon name n ad cap kids pos).nest l = 1 + (Ex.mk op mon name n ad cap kids pos).nst) := fun ad => by
      have := of_decide_eq_true henc
      rw [Ex.nest, nestL]
      show (if own op < l then 1 else 0) + _ = _
      rw [if_pos (by omega)]
    clear henc
    by_cases hk1 : kids.length = 1
    · have hk1b : ((kids.length : Int) == 1) = true := by rw [beq_iff_eq]; omega
      have HKL := hid hk1
      have hk0 : 0 < kids.length := by omega
      have hk0' : (0 : Int) < (kids.length : Int) := by omega
      have hbk0 : kids[0].subs.length ≤ 1000000 := by have := subs_one kids hk0; omega
      obtain ⟨kb, koff, rfl, hkb0, hrow0⟩ := hsl.2.2.resolve_left (by intro h; rw [h] at hk0; simp at hk0)
      clear hk1
      go_wp2_with (go_at_call 47; (refine hq.mono ?_; rintro e u1 ⟨rfl, B⟩; have hs1 := hs0.below B (by omega); have l1 := hl0 u1 hs1; have bB1 := bB.below B (by omega); obtain ⟨d0, d1, d2, d3, d4, d5⟩ := bB1.cells; have hz1 := B.size; have d4b := fun o => ((bB1.below ((Below.refl _ u1).al le_rfl' o) (by omega)).cells).2.2.2.2.1))
      have hB : Below n₀ w (u1.alloc (.cells #[.string mt, .int .i64 (mo : Int), .int .i64 (mf : Int), .int .i64 (ml : Int)] 81)) := ((hB0.trans (B.mono (by omega))).al hn _)
      have hB9 : Below w.heap.size w (u1.alloc (.cells #[.string mt, .int .i64 (mo : Int), .int .i64 (mf : Int), .int .i64 (ml : Int)] 81)) := ((hB9.trans (B.mono (by omega))).al le_rfl' _)
      have hs1 := hs1.below ((Below.refl _ u1).al le_rfl' (.cells #[.string mt, .int .i64 (mo : Int), .int .i64 (mf : Int), .int .i64 (ml : Int)] 81)) (by omega)
      have bB1 := bB1.below ((Below.refl _ u1).al le_rfl' (.cells #[.string mt, .int .i64 (mo : Int), .int .i64 (mf : Int), .int .i64 (ml : Int)] 81)) (by omega)
      have bS1 : (u1.alloc (.cells #[.string mt, .int .i64 (mo : Int), .int .i64 (mf : Int), .int .i64 (ml : Int)] 81)).heap[u1.heap.size]? = some (.cells #[.string mt, .int .i64 (mo : Int), .int .i64 (mf : Int), .int .i64 (ml : Int)] 81 (0, 0)) := heap_alloc_new u1 _
      have hzz : (u1.alloc (.cells #[.string mt, .int .i64 (mo : Int), .int .i64 (mf : Int), .int .i64 (ml : Int)] 81)).heap.size = u1.heap.size + 1 := by simp
      obtain ⟨Bs, hBs⟩ : ∃ Bs, u1.heap.size = Bs := ⟨_, rfl⟩
      obtain ⟨W1, hW1⟩ : ∃ W1, u1.alloc (.cells #[.string mt, .int .i64 (mo : Int), .int .i64 (mf : Int), .int .i64 (ml : Int)] 81) = W1 := ⟨_, rfl⟩
      rw [hW1] at hB hB9 hs1 bB1 bS1 hzz ⊢
      rw [hBs] at bS1 hzz hz1 ⊢
      have hkb : kb < W1.heap.size := by omega
      have hrow := hrow0.below hB hkb0
      clear hBs hW1 l1 d0 d1 d2 d3 d4 d5 d4b hq B
      rcases hx0 : kids[0] with ⟨xop0, xmon0, xname0, xn0, xad0, xcap0, xkids0, xpos0⟩
      obtain ⟨y0, hy0⟩ : ∃ y, kids[0].nest ml = y := ⟨_, rfl⟩
      have hyl0 : y0 ≤ 4000000 := by
        have h1 := nst_le kids[0]
        have h2 := hbk0
        rw [← hy0]
        unfold Ex.nest nestL
        split <;> omega
      have hc0 : ∀ (W : World), Below W1.heap.size W1 W → Calls Tryz.prog 28 #[.map (some m), .agg #[.int .i64 xop0, .string xmon0, .string xname0, .int .i64 xn0, .slice xad0 xkids0.length xcap0, .int .i64 xpos0], .int .i64 (ml : Int)] W fun r w' => r = .returned (.int .i64 (y0 : Int)) ∧ Below W.heap.size W w' := fun W h1 => by
        have := ih kids[0] (List.getElem_mem _) n₀ m ml W (by have := h1.size; omega) ((hIk kids[0] (List.getElem_mem _)).below (hB.trans (h1.mono (by omega)))) (hs1.below h1 (by omega)) (by omega)
        rw [show kids[0].val = Value.agg #[.int .i64 xop0, .string xmon0, .string xname0, .int .i64 xn0, .slice xad0 xkids0.length xcap0, .int .i64 xpos0] by rw [hx0]; rfl, hy0] at this
        exact this
      obtain ⟨a00, a01, a02, a03, a04, a05⟩ := row6 hrow 0 (by omega) (by rw [hx0]; rfl)
      have HY0 := hid hy0
      clear hx0 hy0
      simp only [Nat.zero_mul, Nat.add_zero] at a00 a01 a02 a03 a04 a05
      have HK : Hid (∀ W, Below W1.heap.size W1 W → W.cell? ⟨w.heap.size, 4, none⟩ = some (.slice (some ⟨kb, koff, none⟩) kids.length cap) ∧ W.cell? ⟨Bs, 2, none⟩ = some (.int .i64 (mf : Int)) ∧ W.cell? ⟨Bs, 3, none⟩ = some (.int .i64 (ml : Int)) ∧ W.cell? ⟨kb, koff, none⟩ = some (.int .i64 xop0) ∧ W.cell? ⟨kb, koff + 1, none⟩ = some (.string xmon0) ∧ W.cell? ⟨kb, koff + 2, none⟩ = some (.string xname0) ∧ W.cell? ⟨kb, koff + 3, none⟩ = some (.int .i64 xn0) ∧ W.cell? ⟨kb, koff + 4, none⟩ = some (.slice xad0 xkids0.length xcap0) ∧ W.cell? ⟨kb, koff + 5, none⟩ = some (.int .i64 xpos0)) := fun W hW => by
        obtain ⟨f0, f1, f2, f3, f4, f5⟩ := (bB1.below hW (by omega)).cells
        have g := (hW.block Bs (by omega)).trans bS1
        exact ⟨f4, cell_of' g 2, cell_of' g 3, (hW.cell (p := ⟨kb, _, none⟩) hkb).trans a00, (hW.cell (p := ⟨kb, _, none⟩) hkb).trans a01, (hW.cell (p := ⟨kb, _, none⟩) hkb).trans a02, (hW.cell (p := ⟨kb, _, none⟩) hkb).trans a03, (hW.cell (p := ⟨kb, _, none⟩) hkb).trans a04, (hW.cell (p := ⟨kb, _, none⟩) hkb).trans a05⟩
      have HZZ := hid hzz
      clear a00 a01 a02 a03 a04 a05 hzz
      have B := below_drewE (Below.refl W1.heap.size W1)
      have HR : Hid ((Ex.mk op mon name n (some ⟨kb, koff, none⟩) cap kids pos).nest l = 1 + (1 + y0)) := by
        show _ = _
        rw [HN.out, Ex.nst_mk, nestOf, if_pos (by rw [List.length_map]; exact HKL.out), nkid_at kids 0 _ hk0, HM.out]
        show _ + (1 + kids[0].nest ml) = _
        rw [HY0.out]
      go_region_held3 (fun W => W.cell? ⟨w.heap.size, 4, none⟩ = some (.slice (some ⟨kb, koff, none⟩) kids.length cap) ∧ W.cell? ⟨Bs, 2, none⟩ = some (.int .i64 (mf : Int)) ∧ W.cell? ⟨Bs, 3, none⟩ = some (.int .i64 (ml : Int)) ∧ W.cell? ⟨kb, koff, none⟩ = some (.int .i64 xop0) ∧ W.cell? ⟨kb, koff + 1, none⟩ = some (.string xmon0) ∧ W.cell? ⟨kb, koff + 2, none⟩ = some (.string xname0) ∧ W.cell? ⟨kb, koff + 3, none⟩ = some (.int .i64 xn0) ∧ W.cell? ⟨kb, koff + 4, none⟩ = some (.slice xad0 xkids0.length xcap0) ∧ W.cell? ⟨kb, koff + 5, none⟩ = some (.int .i64 xpos0)) (exact HK.out _ B) ((go_at_call 28; with_reducible refine (hc0 _ B).mono ?_; rintro r u0 ⟨rfl, bb⟩; have B := B.tr le_rfl' bb))
      go_wp2
      go_ret
      have e1 : IntKind.i64.wrap (1 + IntKind.i64.wrap (1 + (y0 : Int))) = ((1 + (1 + y0) : Nat) : Int) := by rw [wrap_id (1 + (y0 : Int)) (by omega) (by omega), wrap_id _ (by omega) (by omega)]; omega
      exact ⟨by rw [HR.out, ← e1]; rfl, hB9.trans (B.mono (by have := HZZ.out; omega))⟩
    by_cases hk2 : kids.length = 2
    · have hk1b : ((kids.length : Int) == 1) = false := by rw [beq_eq_false_iff_ne]; omega
      have hk2b : ((kids.length : Int) == 2) = true := by rw [beq_iff_eq]; omega
      have HKL := hid hk2
      have hk0 : 0 < kids.length := by omega
      have hk0' : (0 : Int) < (kids.length : Int) := by omega
      have hk1' : (1 : Int) < (kids.length : Int) := by omega
      have hkx : 1 < kids.length := by omega
      have hbk0 : kids[0].subs.length ≤ 1000000 := by have := subs_both kids hkx; omega
      have hbk1 : kids[1].subs.length ≤ 1000000 := by have := subs_both kids hkx; omega
      obtain ⟨kb, koff, rfl, hkb0, hrow0⟩ := hsl.2.2.resolve_left (by intro h; rw [h] at hk0; simp at hk0)
      clear hk2 hk1
      go_wp2_with (go_at_call 47; (refine hq.mono ?_; rintro e u1 ⟨rfl, B⟩; have hs1 := hs0.below B (by omega); have l1 := hl0 u1 hs1; have bB1 := bB.below B (by omega); obtain ⟨d0, d1, d2, d3, d4, d5⟩ := bB1.cells; have hz1 := B.size; have d4b := fun o => ((bB1.below ((Below.refl _ u1).al le_rfl' o) (by omega)).cells).2.2.2.2.1))
      have hB : Below n₀ w (u1.alloc (.cells #[.string mt, .int .i64 (mo : Int), .int .i64 (mf : Int), .int .i64 (ml : Int)] 81)) := ((hB0.trans (B.mono (by omega))).al hn _)
      have hB9 : Below w.heap.size w (u1.alloc (.cells #[.string mt, .int .i64 (mo : Int), .int .i64 (mf : Int), .int .i64 (ml : Int)] 81)) := ((hB9.trans (B.mono (by omega))).al le_rfl' _)
      have hs1 := hs1.below ((Below.refl _ u1).al le_rfl' (.cells #[.string mt, .int .i64 (mo : Int), .int .i64 (mf : Int), .int .i64 (ml : Int)] 81)) (by omega)
      have bB1 := bB1.below ((Below.refl _ u1).al le_rfl' (.cells #[.string mt, .int .i64 (mo : Int), .int .i64 (mf : Int), .int .i64 (ml : Int)] 81)) (by omega)
      have bS1 : (u1.alloc (.cells #[.string mt, .int .i64 (mo : Int), .int .i64 (mf : Int), .int .i64 (ml : Int)] 81)).heap[u1.heap.size]? = some (.cells #[.string mt, .int .i64 (mo : Int), .int .i64 (mf : Int), .int .i64 (ml : Int)] 81 (0, 0)) := heap_alloc_new u1 _
      have hzz : (u1.alloc (.cells #[.string mt, .int .i64 (mo : Int), .int .i64 (mf : Int), .int .i64 (ml : Int)] 81)).heap.size = u1.heap.size + 1 := by simp
      obtain ⟨Bs, hBs⟩ : ∃ Bs, u1.heap.size = Bs := ⟨_, rfl⟩
      obtain ⟨W1, hW1⟩ : ∃ W1, u1.alloc (.cells #[.string mt, .int .i64 (mo : Int), .int .i64 (mf : Int), .int .i64 (ml : Int)] 81) = W1 := ⟨_, rfl⟩
      rw [hW1] at hB hB9 hs1 bB1 bS1 hzz ⊢
      rw [hBs] at bS1 hzz hz1 ⊢
      have hkb : kb < W1.heap.size := by omega
      have hrow := hrow0.below hB hkb0
      clear hBs hW1 l1 d0 d1 d2 d3 d4 d5 d4b hq B
      rcases hx0 : kids[0] with ⟨xop0, xmon0, xname0, xn0, xad0, xcap0, xkids0, xpos0⟩
      obtain ⟨y0, hy0⟩ : ∃ y, kids[0].nest mf = y := ⟨_, rfl⟩
      have hyl0 : y0 ≤ 4000000 := by
        have h1 := nst_le kids[0]
        have h2 := hbk0
        rw [← hy0]
        unfold Ex.nest nestL
        split <;> omega
      have hc0 : ∀ (W : World), Below W1.heap.size W1 W → Calls Tryz.prog 28 #[.map (some m), .agg #[.int .i64 xop0, .string xmon0, .string xname0, .int .i64 xn0, .slice xad0 xkids0.length xcap0, .int .i64 xpos0], .int .i64 (mf : Int)] W fun r w' => r = .returned (.int .i64 (y0 : Int)) ∧ Below W.heap.size W w' := fun W h1 => by
        have := ih kids[0] (List.getElem_mem _) n₀ m mf W (by have := h1.size; omega) ((hIk kids[0] (List.getElem_mem _)).below (hB.trans (h1.mono (by omega)))) (hs1.below h1 (by omega)) (by omega)
        rw [show kids[0].val = Value.agg #[.int .i64 xop0, .string xmon0, .string xname0, .int .i64 xn0, .slice xad0 xkids0.length xcap0, .int .i64 xpos0] by rw [hx0]; rfl, hy0] at this
        exact this
      obtain ⟨a00, a01, a02, a03, a04, a05⟩ := row6 hrow 0 (by omega) (by rw [hx0]; rfl)
      have HY0 := hid hy0
      clear hx0 hy0
      rcases hx1 : kids[1] with ⟨xop1, xmon1, xname1, xn1, xad1, xcap1, xkids1, xpos1⟩
      obtain ⟨y1, hy1⟩ : ∃ y, kids[1].nest ml = y := ⟨_, rfl⟩
      have hyl1 : y1 ≤ 4000000 := by
        have h1 := nst_le kids[1]
        have h2 := hbk1
        rw [← hy1]
        unfold Ex.nest nestL
        split <;> omega
      have hc1 : ∀ (W : World), Below W1.heap.size W1 W → Calls Tryz.prog 28 #[.map (some m), .agg #[.int .i64 xop1, .string xmon1, .string xname1, .int .i64 xn1, .slice xad1 xkids1.length xcap1, .int .i64 xpos1], .int .i64 (ml : Int)] W fun r w' => r = .returned (.int .i64 (y1 : Int)) ∧ Below W.heap.size W w' := fun W h1 => by
        have := ih kids[1] (List.getElem_mem _) n₀ m ml W (by have := h1.size; omega) ((hIk kids[1] (List.getElem_mem _)).below (hB.trans (h1.mono (by omega)))) (hs1.below h1 (by omega)) (by omega)
        rw [show kids[1].val = Value.agg #[.int .i64 xop1, .string xmon1, .string xname1, .int .i64 xn1, .slice xad1 xkids1.length xcap1, .int .i64 xpos1] by rw [hx1]; rfl, hy1] at this
        exact this
      obtain ⟨a10, a11, a12, a13, a14, a15⟩ := row6 hrow 1 (by omega) (by rw [hx1]; rfl)
      have HY1 := hid hy1
      clear hx1 hy1
      simp only [Nat.zero_mul, Nat.one_mul, Nat.add_zero, Nat.add_assoc, Nat.reduceAdd] at a00 a01 a02 a03 a04 a05 a10 a11 a12 a13 a14 a15
      have HK : Hid (∀ W, Below W1.heap.size W1 W → W.cell? ⟨w.heap.size, 4, none⟩ = some (.slice (some ⟨kb, koff, none⟩) kids.length cap) ∧ W.cell? ⟨Bs, 2, none⟩ = some (.int .i64 (mf : Int)) ∧ W.cell? ⟨Bs, 3, none⟩ = some (.int .i64 (ml : Int)) ∧ W.cell? ⟨kb, koff, none⟩ = some (.int .i64 xop0) ∧ W.cell? ⟨kb, koff + 1, none⟩ = some (.string xmon0) ∧ W.cell? ⟨kb, koff + 2, none⟩ = some (.string xname0) ∧ W.cell? ⟨kb, koff + 3, none⟩ = some (.int .i64 xn0) ∧ W.cell? ⟨kb, koff + 4, none⟩ = some (.slice xad0 xkids0.length xcap0) ∧ W.cell? ⟨kb, koff + 5, none⟩ = some (.int .i64 xpos0) ∧ W.cell? ⟨kb, koff + 6, none⟩ = some (.int .i64 xop1) ∧ W.cell? ⟨kb, koff + 7, none⟩ = some (.string xmon1) ∧ W.cell? ⟨kb, koff + 8, none⟩ = some (.string xname1) ∧ W.cell? ⟨kb, koff + 9, none⟩ = some (.int .i64 xn1) ∧ W.cell? ⟨kb, koff + 10, none⟩ = some (.slice xad1 xkids1.length xcap1) ∧ W.cell? ⟨kb, koff + 11, none⟩ = some (.int .i64 xpos1)) := fun W hW => by
        obtain ⟨f0, f1, f2, f3, f4, f5⟩ := (bB1.below hW (by omega)).cells
        have g := (hW.block Bs (by omega)).trans bS1
        exact ⟨f4, cell_of' g 2, cell_of' g 3, (hW.cell (p := ⟨kb, _, none⟩) hkb).trans a00, (hW.cell (p := ⟨kb, _, none⟩) hkb).trans a01, (hW.cell (p := ⟨kb, _, none⟩) hkb).trans a02, (hW.cell (p := ⟨kb, _, none⟩) hkb).trans a03, (hW.cell (p := ⟨kb, _, none⟩) hkb).trans a04, (hW.cell (p := ⟨kb, _, none⟩) hkb).trans a05, (hW.cell (p := ⟨kb, _, none⟩) hkb).trans a10, (hW.cell (p := ⟨kb, _, none⟩) hkb).trans a11, (hW.cell (p := ⟨kb, _, none⟩) hkb).trans a12, (hW.cell (p := ⟨kb, _, none⟩) hkb).trans a13, (hW.cell (p := ⟨kb, _, none⟩) hkb).trans a14, (hW.cell (p := ⟨kb, _, none⟩) hkb).trans a15⟩
      have HZZ := hid hzz
      clear a00 a01 a02 a03 a04 a05 a10 a11 a12 a13 a14 a15 hzz
      have B := below_drewE (Below.refl W1.heap.size W1)
      have HR : Hid ((Ex.mk op mon name n (some ⟨kb, koff, none⟩) cap kids pos).nest l = 1 + max y0 y1) := by
        show _ = _
        rw [HN.out, Ex.nst_mk, nestOf, if_neg (by rw [List.length_map, HKL.out]; omega), if_pos (by rw [List.length_map]; exact HKL.out), nkid_at kids 0 _ hk0, nkid_at kids 1 _ hkx, HM.out]
        show _ + max (kids[0].nest mf) (kids[1].nest ml) = _
        rw [HY0.out, HY1.out]
      go_region_held3 (fun W => W.cell? ⟨w.heap.size, 4, none⟩ = some (.slice (some ⟨kb, koff, none⟩) kids.length cap) ∧ W.cell? ⟨Bs, 2, none⟩ = some (.int .i64 (mf : Int)) ∧ W.cell? ⟨Bs, 3, none⟩ = some (.int .i64 (ml : Int)) ∧ W.cell? ⟨kb, koff, none⟩ = some (.int .i64 xop0) ∧ W.cell? ⟨kb, koff + 1, none⟩ = some (.string xmon0) ∧ W.cell? ⟨kb, koff + 2, none⟩ = some (.string xname0) ∧ W.cell? ⟨kb, koff + 3, none⟩ = some (.int .i64 xn0) ∧ W.cell? ⟨kb, koff + 4, none⟩ = some (.slice xad0 xkids0.length xcap0) ∧ W.cell? ⟨kb, koff + 5, none⟩ = some (.int .i64 xpos0) ∧ W.cell? ⟨kb, koff + 6, none⟩ = some (.int .i64 xop1) ∧ W.cell? ⟨kb, koff + 7, none⟩ = some (.string xmon1) ∧ W.cell? ⟨kb, koff + 8, none⟩ = some (.string xname1) ∧ W.cell? ⟨kb, koff + 9, none⟩ = some (.int .i64 xn1) ∧ W.cell? ⟨kb, koff + 10, none⟩ = some (.slice xad1 xkids1.length xcap1) ∧ W.cell? ⟨kb, koff + 11, none⟩ = some (.int .i64 xpos1)) (exact HK.out _ B) (first | (go_at_call 28; with_reducible refine (hc0 _ B).mono ?_; rintro r u0 ⟨rfl, bb⟩; have B := B.tr le_rfl' bb) | (go_at_call 28; with_reducible refine (hc1 _ B).mono ?_; rintro r u1 ⟨rfl, bb⟩; have B := B.tr le_rfl' bb))
      all_goals go_wp2
      all_goals go_ret
      all_goals have e1 : IntKind.i64.wrap (1 + max (y0 : Int) y1) = ((1 + max y0 y1 : Nat) : Int) := by rw [wrap_id _ (by omega) (by omega)]; omega
      all_goals exact ⟨by rw [HR.out, ← e1]; rfl, hB9.trans (B.mono (by have := HZZ.out; omega))⟩
    · have hk1b : ((kids.length : Int) == 1) = false := by rw [beq_eq_false_iff_ne]; omega
      have hk2b : ((kids.length : Int) == 2) = false := by rw [beq_eq_false_iff_ne]; omega
      have HR : Hid ((Ex.mk op mon name n ad cap kids pos).nest l = 1) := by
        show _ = _
        rw [HN.out, Ex.nst_mk, nestOf, if_neg (by rw [List.length_map]; exact hk1), if_neg (by rw [List.length_map]; exact hk2)]
      go_wp2_with (go_at_call 47; (refine hq.mono ?_; rintro e u1 ⟨rfl, B⟩; have hs1 := hs0.below B (by omega); have l1 := hl0 u1 hs1; have bB1 := bB.below B (by omega); obtain ⟨d0, d1, d2, d3, d4, d5⟩ := bB1.cells; have hz1 := B.size; have d4b := fun o => ((bB1.below ((Below.refl _ u1).al le_rfl' o) (by omega)).cells).2.2.2.2.1))
      go_ret
      exact ⟨by rw [HR.out]; rfl, (hB9.trans (B.mono (by omega))).al le_rfl' _⟩
end Go.Proofs.YtnljhlmopjgogaaGreatDoor
