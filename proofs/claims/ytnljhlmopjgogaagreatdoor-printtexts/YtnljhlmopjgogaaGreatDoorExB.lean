/-
  bare of package print: an expression is laid without parentheses of its own; expr lays every expression.
-/
import Derived.Test.YtnljhlmopjgogaaGreatDoorExA
import Derived.RegionTactic
namespace Go.Proofs.YtnljhlmopjgogaaGreatDoor
open Go.RowKit Px
theorem Kept.drew {b : Nat} {u v : World} (h : Kept b u v) : Kept b u v.drew := ⟨below_drewE h.1, h.2⟩
theorem Sh.drew {b m o : Nat} {t : List UInt8} {w : World} (h : Sh b m o t w) : Sh b m o t w.drew := h.below (below_drewE (Below.refl _ _))
theorem subs_pos (e : Ex) : 1 ≤ e.subs.length := by rcases e with ⟨⟩; rw [Ex.subs_mk, List.length_cons]; omega
theorem subs_one (kids : List Ex) (h : 0 < kids.length) : kids[0].subs.length ≤ (Ex.subsL kids).length := by
  match kids, h with
  | a :: r, _ => simp [Ex.subsL]
theorem subs_both (kids : List Ex) (h : 1 < kids.length) : kids[0].subs.length + kids[1].subs.length ≤ (Ex.subsL kids).length := by
  match kids, h with
  | a :: b :: r, _ => simp [Ex.subsL]
set_option maxRecDepth 100000 in
set_option maxHeartbeats 2000000 in
theorem bare_of (e : Ex) (hok : e.ok = true) (hkids : ∀ x ∈ e.kids, ExprLays x) : BareLays e := by
  intro n₀ b m o t w hn hI hs hlen
  have hbl := hs.bl
  rcases e with ⟨op, mon, name, n, ad, cap, kids, pos⟩
  obtain ⟨mt, mo, mf, ml, hm⟩ : ∃ mt mo mf ml, sgnOf op = (mt, mo, mf, ml) := ⟨_, _, _, _, rfl⟩
  have HM := hid hm
  have hl0 : ∀ W, SignsAt W m → (Instr.lookup 59 (.map (some m)) (.int .i64 op) false).run Tryz.prog W = .ok (.agg #[.string mt, .int .i64 (mo : Int), .int .i64 (mf : Int), .int .i64 (ml : Int)]) W := fun W h => by
    rw [lookup_one h op, hm]; rfl
  have hmt : mt.data.toList.length ≤ 4 := by have := sgnOf_len op; rw [hm] at this; exact this
  clear hm
  have bB : ExBox (w.alloc (.cells #[.int .i64 op, .string mon, .string name, .int .i64 n, .slice ad kids.length cap, .int .i64 pos] 50)) w.heap.size (.mk op mon name n ad cap kids pos) := ExBox.new w (.mk op mon name n ad cap kids pos)
  have hK0 : Kept b w (w.alloc (.cells #[.int .i64 op, .string mon, .string name, .int .i64 n, .slice ad kids.length cap, .int .i64 pos] 50)) := (Kept.refl b w).al (by omega) _
  have hs0 := hs.al (.cells #[.int .i64 op, .string mon, .string name, .int .i64 n, .slice ad kids.length cap, .int .i64 pos] 50)
  have hz0 : (w.alloc (.cells #[.int .i64 op, .string mon, .string name, .int .i64 n, .slice ad kids.length cap, .int .i64 pos] 50)).heap.size = w.heap.size + 1 := by simp
  have hne : w.heap.size ≠ b := by omega
  have hne1 : w.heap.size + 1 ≠ b := by omega
  have hnm : I64 n := hI.down.1.2.1
  have hIk := hI.down.2.2
  have hsl := hI.down.2.1
  have hl1 := hsl.1; have hl2 := hsl.2.1
  unfold maxLen at hl2
  have HB := hid (Ex.bare_mk op mon name n ad cap kids pos)
  have hio := itoa_len n hnm
  obtain ⟨h1, hoks⟩ := Ex.ok_mk hok
  simp only [Ex.ok1, Bool.and_eq_true, decide_eq_true_iff] at h1
  obtain ⟨⟨ho1, ho2⟩, ⟨⟨hfm, hfn⟩, -⟩, hkl⟩ := h1
  have hmon := fits_len hfm
  have hname := fits_len hfn
  have hkl2 : Hid (kids.length = exKids op.toNat) := by have := eq_of_beq hkl; show _ = _; omega
  rw [Ex.subs_mk, List.length_cons] at hlen
  clear hfm hfn hkl hok hI
  simp only [Ex.val, Ex.cells]
  go_enter Tryz.func49, Tryz.ntmps49
  go_wp2_with fail
  obtain ⟨W0, hW0⟩ : ∃ W0, w.alloc (.cells #[.int .i64 op, .string mon, .string name, .int .i64 n, .slice ad kids.length cap, .int .i64 pos] 50) = W0 := ⟨_, rfl⟩
  rw [hW0] at bB hK0 hs0 hz0 ⊢
  clear hW0
  have c2 : W0.cell? ⟨b, 2, none⟩ = some (.map (some m)) := by obtain ⟨c, _, h⟩ := hs0.sheet; exact h.cells.1
  obtain ⟨d0, d1, d2, d3, d4, d5⟩ := bB.cells
  have l1 := hl0 W0.drew hs0.signs
  have l2 := fun o => hl0 (W0.alloc o).drew (hs0.al o).signs
  go_region
  have hB1 : Below W0.heap.size W0 (W0.alloc (.cells #[.string mt, .int .i64 (mo : Int), .int .i64 (mf : Int), .int .i64 (ml : Int)] 81)).drew := below_drewE ((Below.refl _ W0).al le_rfl' _)
  have hs1 := hs0.below hB1
  have hK1 := hK0.of (by omega) hB1
  have bB1 := bB.below hB1 (by omega)
  have bS1 : (W0.alloc (.cells #[.string mt, .int .i64 (mo : Int), .int .i64 (mf : Int), .int .i64 (ml : Int)] 81)).drew.heap[w.heap.size + 1]? = some (.cells #[.string mt, .int .i64 (mo : Int), .int .i64 (mf : Int), .int .i64 (ml : Int)] 81 (0, 0)) := by rw [← hz0]; exact heap_alloc_new W0 _
  have hz1 : (W0.alloc (.cells #[.string mt, .int .i64 (mo : Int), .int .i64 (mf : Int), .int .i64 (ml : Int)] 81)).drew.heap.size = w.heap.size + 2 := by show (W0.alloc _).heap.size = _; simp [hz0]
  obtain ⟨W1, hW1⟩ : ∃ W1, (W0.alloc (.cells #[.string mt, .int .i64 (mo : Int), .int .i64 (mf : Int), .int .i64 (ml : Int)] 81)).drew = W1 := ⟨_, rfl⟩
  rw [hW1] at hB1 hs1 hK1 bB1 bS1 hz1 ⊢
  have HZ1 := hid hz1
  clear hz1 hW1 d0 d1 d2 d3 d4 d5 l1 l2 c2 hl0 bB hs0 hK0 hB1
  obtain ⟨d0, d1, d2, d3, d4, d5⟩ := bB1.cells
  have m0 := cell_of' bS1 0
  have m2 := cell_of' bS1 2
  have m3 := cell_of' bS1 3
  simp at m0 m2 m3
  by_cases q1 : op = 1
  · subst q1
    have HB2 : Hid ((Ex.mk 1 mon name n ad cap kids pos).bare = Lib.itoa n) := by show _ = _; rw [HB.out]; simp [bareOf]
    have hnum := number_any n W1 hnm hs1.tab
    have hlay : ∀ W, Below W1.heap.size W1 W → Calls Tryz.prog 48 #[.pointer (some ⟨b, 0, none⟩), .slice (some ⟨W.heap.size, 0, none⟩) 1 1] (W.alloc (.cells #[.string ⟨(Lib.itoa n).toArray⟩] 9)) fun e w' => e = .returned (.tuple #[]) ∧ Sh b m o (t ++ Lib.itoa n) w' ∧ Kept b W w' := fun W h => by
      have := lay_new [⟨(Lib.itoa n).toArray⟩] b m o t W (hs1.below h) (by simp) (by simp [cat]; omega)
      simpa [cat] using this
    go_wp2_with (first
      | (go_at_call 35; refine hnum.mono ?_; rintro e w2 ⟨rfl, b2⟩)
      | (go_at_call 48; refine (hlay _ b2).mono ?_; rintro e w3 ⟨rfl, s3, k3⟩))
    go_end0
    exact ⟨rfl, by rw [HB2.out]; exact s3, (hK1.of (by omega) b2).trans k3⟩
  by_cases q2 : op = 2
  · subst q2
    have HB2 : Hid ((Ex.mk 2 mon name n ad cap kids pos).bare = [116, 114, 117, 101]) := by show _ = _; rw [HB.out]; simp [bareOf]
    have hlay := lay_new [⟨#[116, 114, 117, 101]⟩] b m o t W1 hs1 (by simp) (by simp [cat]; omega)
    simp only [List.map_cons, List.map_nil, List.length_cons, List.length_nil, Nat.zero_add, cat, List.flatMap_cons, List.flatMap_nil, List.append_nil] at hlay
    go_wp2_with (go_at_call 48; refine hlay.mono ?_; rintro e w3 ⟨rfl, s3, k3⟩)
    go_end0
    exact ⟨rfl, by rw [HB2.out]; exact s3, hK1.trans k3⟩
  by_cases q3 : op = 3
  · subst q3
    have HB2 : Hid ((Ex.mk 3 mon name n ad cap kids pos).bare = [102, 97, 108, 115, 101]) := by show _ = _; rw [HB.out]; simp [bareOf]
    have hlay := lay_new [⟨#[102, 97, 108, 115, 101]⟩] b m o t W1 hs1 (by simp) (by simp [cat]; omega)
    simp only [List.map_cons, List.map_nil, List.length_cons, List.length_nil, Nat.zero_add, cat, List.flatMap_cons, List.flatMap_nil, List.append_nil] at hlay
    go_wp2_with (go_at_call 48; refine hlay.mono ?_; rintro e w3 ⟨rfl, s3, k3⟩)
    go_end0
    exact ⟨rfl, by rw [HB2.out]; exact s3, hK1.trans k3⟩
  by_cases q4 : op = 4
  · subst q4
    have HB2 : Hid ((Ex.mk 4 mon name n ad cap kids pos).bare = mon.data.toList ++ 46 :: name.data.toList) := by show _ = _; rw [HB.out]; simp [bareOf]
    have hlay := lay_new [mon, ⟨#[46]⟩, name] b m o t W1 hs1 (by simp) (by simp only [cat, List.flatMap_cons, List.flatMap_nil, List.append_nil, List.length_append, List.length_cons, List.length_nil]; omega)
    simp only [List.map_cons, List.map_nil, List.length_cons, List.length_nil, Nat.zero_add, Nat.reduceAdd, cat, List.flatMap_cons, List.flatMap_nil, List.append_nil] at hlay
    go_wp2_with (go_at_call 48; refine hlay.mono ?_; rintro e w3 ⟨rfl, s3, k3⟩)
    go_end0
    exact ⟨rfl, by rw [HB2.out]; exact s3, hK1.trans k3⟩
  have hk0 : 0 < kids.length := by
    rw [hkl2.out, exKids]; split
    · omega
    · split <;> omega
  obtain ⟨kb, koff, rfl, hkb0, hrow0⟩ := hsl.2.2.resolve_left (by intro h; rw [h] at hk0; simp at hk0)
  have hkb : kb < b := by omega
  have hrow := hrow0.below (hK1.1.mono hn) hkb0
  have KK : Kept b W1 W1 := Kept.refl _ _
  have hb0 := subs_one kids hk0
  by_cases q5 : op = 5
  · subst q5
    have hkl3 : Hid (kids.length = 1) := by show _ = _; rw [hkl2.out]; rfl
    have HB2 : Hid ((Ex.mk 5 mon name n (some ⟨kb, koff, none⟩) cap kids pos).bare = mt.data.toList ++ kids[0].txt ml) := by show _ = _; rw [HB.out, ← kid_at kids 0 ml hk0]; simp [bareOf, HM.out]
    have hlay := lay_new [mt] b m o t W1 hs1 (by simp) (by simp only [cat, List.flatMap_cons, List.flatMap_nil, List.append_nil]; omega)
    simp only [List.map_cons, List.map_nil, List.length_cons, List.length_nil, Nat.zero_add, cat, List.flatMap_cons, List.flatMap_nil, List.append_nil] at hlay
    have hkl4 : (0 : Int) < (kids.length : Int) := by omega
    rcases hx0 : kids[0] with ⟨xop0, xmon0, xname0, xn0, xad0, xcap0, xkids0, xpos0⟩
    have hc0 : ∀ (t' : List UInt8) (W : World) (l : Nat), Kept b W1 W → Sh b m o t' W → t'.length + (100 * (kids[0]).subs.length + 2) ≤ 1000000000000 → Calls Tryz.prog 29 #[.pointer (some ⟨b, 0, none⟩), .agg #[.int .i64 xop0, .string xmon0, .string xname0, .int .i64 xn0, .slice xad0 xkids0.length xcap0, .int .i64 xpos0], .int .i64 (l : Int)] W fun r w' => r = .returned (.tuple #[]) ∧ Sh b m o (t' ++ kids[0].txt l) w' ∧ Kept b W w' := fun t' W l h1 h2 h3 => by
      have := hkids kids[0] (List.getElem_mem _) n₀ b m o l t' W hn ((hIk kids[0] (List.getElem_mem _)).below ((hK1.trans h1).1.mono hn)) h2 h3
      rw [show kids[0].val = Value.agg #[.int .i64 xop0, .string xmon0, .string xname0, .int .i64 xn0, .slice xad0 xkids0.length xcap0, .int .i64 xpos0] by rw [hx0]; rfl] at this
      exact this
    obtain ⟨a00, a01, a02, a03, a04, a05⟩ := row6 hrow 0 (by omega) (by rw [hx0]; rfl)
    clear hx0
    simp only [Nat.zero_mul, Nat.add_zero] at a00 a01 a02 a03 a04 a05
    have HK : Hid (∀ W, Kept b W1 W → W.cell? ⟨w.heap.size, 4, none⟩ = some (.slice (some ⟨kb, koff, none⟩) kids.length cap) ∧ W.cell? ⟨w.heap.size + 1, 3, none⟩ = some (.int .i64 (ml : Int)) ∧ W.cell? ⟨kb, koff, none⟩ = some (.int .i64 xop0) ∧ W.cell? ⟨kb, koff + 1, none⟩ = some (.string xmon0) ∧ W.cell? ⟨kb, koff + 2, none⟩ = some (.string xname0) ∧ W.cell? ⟨kb, koff + 3, none⟩ = some (.int .i64 xn0) ∧ W.cell? ⟨kb, koff + 4, none⟩ = some (.slice xad0 xkids0.length xcap0) ∧ W.cell? ⟨kb, koff + 5, none⟩ = some (.int .i64 xpos0)) := fun W hW => by
      obtain ⟨f0, f1, f2, f3, f4, f5⟩ := (show ExBox W w.heap.size _ from hW.box bB1 hne (by decide)).cells
      have g := hW.box bS1 hne1 (by decide)
      exact ⟨f4, cell_of' g 3, (hW.1.cell (p := ⟨kb, _, none⟩) hkb).trans a00, (hW.1.cell (p := ⟨kb, _, none⟩) hkb).trans a01, (hW.1.cell (p := ⟨kb, _, none⟩) hkb).trans a02, (hW.1.cell (p := ⟨kb, _, none⟩) hkb).trans a03, (hW.1.cell (p := ⟨kb, _, none⟩) hkb).trans a04, (hW.1.cell (p := ⟨kb, _, none⟩) hkb).trans a05⟩
    clear a00 a01 a02 a03 a04 a05
    go_wp2_with (go_at_call 48; refine hlay.mono ?_; rintro e w3 ⟨rfl, s3, k3⟩; have KK := (KK.trans k3).drew; have s3 := s3.drew)
    go_region_held3 (fun W => W.cell? ⟨w.heap.size, 4, none⟩ = some (.slice (some ⟨kb, koff, none⟩) kids.length cap) ∧ W.cell? ⟨w.heap.size + 1, 3, none⟩ = some (.int .i64 (ml : Int)) ∧ W.cell? ⟨kb, koff, none⟩ = some (.int .i64 xop0) ∧ W.cell? ⟨kb, koff + 1, none⟩ = some (.string xmon0) ∧ W.cell? ⟨kb, koff + 2, none⟩ = some (.string xname0) ∧ W.cell? ⟨kb, koff + 3, none⟩ = some (.int .i64 xn0) ∧ W.cell? ⟨kb, koff + 4, none⟩ = some (.slice xad0 xkids0.length xcap0) ∧ W.cell? ⟨kb, koff + 5, none⟩ = some (.int .i64 xpos0)) (exact HK.out _ KK)
        ((go_at_call 29; refine (hc0 (t ++ mt.data.toList) _ ml KK s3 (by (try simp only [List.length_append]); omega)).mono ?_; rintro r u4 ⟨rfl, su4, ku4⟩; have KK := KK.trans ku4))
    go_wp2
    go_end0
    exact ⟨rfl, by rw [HB2.out, ← List.append_assoc]; exact su4, hK1.trans KK⟩
  by_cases q6 : op = 6
  · subst q6
    have hkl3 : Hid (kids.length = 1) := by show _ = _; rw [hkl2.out]; rfl
    have HB2 : Hid ((Ex.mk 6 mon name n (some ⟨kb, koff, none⟩) cap kids pos).bare = mt.data.toList ++ kids[0].txt ml) := by show _ = _; rw [HB.out, ← kid_at kids 0 ml hk0]; simp [bareOf, HM.out]
    have hlay := lay_new [mt] b m o t W1 hs1 (by simp) (by simp only [cat, List.flatMap_cons, List.flatMap_nil, List.append_nil]; omega)
    simp only [List.map_cons, List.map_nil, List.length_cons, List.length_nil, Nat.zero_add, cat, List.flatMap_cons, List.flatMap_nil, List.append_nil] at hlay
    have hkl4 : (0 : Int) < (kids.length : Int) := by omega
    rcases hx0 : kids[0] with ⟨xop0, xmon0, xname0, xn0, xad0, xcap0, xkids0, xpos0⟩
    have hc0 : ∀ (t' : List UInt8) (W : World) (l : Nat), Kept b W1 W → Sh b m o t' W → t'.length + (100 * (kids[0]).subs.length + 2) ≤ 1000000000000 → Calls Tryz.prog 29 #[.pointer (some ⟨b, 0, none⟩), .agg #[.int .i64 xop0, .string xmon0, .string xname0, .int .i64 xn0, .slice xad0 xkids0.length xcap0, .int .i64 xpos0], .int .i64 (l : Int)] W fun r w' => r = .returned (.tuple #[]) ∧ Sh b m o (t' ++ kids[0].txt l) w' ∧ Kept b W w' := fun t' W l h1 h2 h3 => by
      have := hkids kids[0] (List.getElem_mem _) n₀ b m o l t' W hn ((hIk kids[0] (List.getElem_mem _)).below ((hK1.trans h1).1.mono hn)) h2 h3
      rw [show kids[0].val = Value.agg #[.int .i64 xop0, .string xmon0, .string xname0, .int .i64 xn0, .slice xad0 xkids0.length xcap0, .int .i64 xpos0] by rw [hx0]; rfl] at this
      exact this
    obtain ⟨a00, a01, a02, a03, a04, a05⟩ := row6 hrow 0 (by omega) (by rw [hx0]; rfl)
    clear hx0
    simp only [Nat.zero_mul, Nat.add_zero] at a00 a01 a02 a03 a04 a05
    have HK : Hid (∀ W, Kept b W1 W → W.cell? ⟨w.heap.size, 4, none⟩ = some (.slice (some ⟨kb, koff, none⟩) kids.length cap) ∧ W.cell? ⟨w.heap.size + 1, 3, none⟩ = some (.int .i64 (ml : Int)) ∧ W.cell? ⟨kb, koff, none⟩ = some (.int .i64 xop0) ∧ W.cell? ⟨kb, koff + 1, none⟩ = some (.string xmon0) ∧ W.cell? ⟨kb, koff + 2, none⟩ = some (.string xname0) ∧ W.cell? ⟨kb, koff + 3, none⟩ = some (.int .i64 xn0) ∧ W.cell? ⟨kb, koff + 4, none⟩ = some (.slice xad0 xkids0.length xcap0) ∧ W.cell? ⟨kb, koff + 5, none⟩ = some (.int .i64 xpos0)) := fun W hW => by
      obtain ⟨f0, f1, f2, f3, f4, f5⟩ := (show ExBox W w.heap.size _ from hW.box bB1 hne (by decide)).cells
      have g := hW.box bS1 hne1 (by decide)
      exact ⟨f4, cell_of' g 3, (hW.1.cell (p := ⟨kb, _, none⟩) hkb).trans a00, (hW.1.cell (p := ⟨kb, _, none⟩) hkb).trans a01, (hW.1.cell (p := ⟨kb, _, none⟩) hkb).trans a02, (hW.1.cell (p := ⟨kb, _, none⟩) hkb).trans a03, (hW.1.cell (p := ⟨kb, _, none⟩) hkb).trans a04, (hW.1.cell (p := ⟨kb, _, none⟩) hkb).trans a05⟩
    clear a00 a01 a02 a03 a04 a05
    go_wp2_with (go_at_call 48; refine hlay.mono ?_; rintro e w3 ⟨rfl, s3, k3⟩; have KK := (KK.trans k3).drew; have s3 := s3.drew)
    go_region_held3 (fun W => W.cell? ⟨w.heap.size, 4, none⟩ = some (.slice (some ⟨kb, koff, none⟩) kids.length cap) ∧ W.cell? ⟨w.heap.size + 1, 3, none⟩ = some (.int .i64 (ml : Int)) ∧ W.cell? ⟨kb, koff, none⟩ = some (.int .i64 xop0) ∧ W.cell? ⟨kb, koff + 1, none⟩ = some (.string xmon0) ∧ W.cell? ⟨kb, koff + 2, none⟩ = some (.string xname0) ∧ W.cell? ⟨kb, koff + 3, none⟩ = some (.int .i64 xn0) ∧ W.cell? ⟨kb, koff + 4, none⟩ = some (.slice xad0 xkids0.length xcap0) ∧ W.cell? ⟨kb, koff + 5, none⟩ = some (.int .i64 xpos0)) (exact HK.out _ KK)
        ((go_at_call 29; refine (hc0 (t ++ mt.data.toList) _ ml KK s3 (by (try simp only [List.length_append]); omega)).mono ?_; rintro r u4 ⟨rfl, su4, ku4⟩; have KK := KK.trans ku4))
    go_wp2
    go_end0
    exact ⟨rfl, by rw [HB2.out, ← List.append_assoc]; exact su4, hK1.trans KK⟩
  by_cases q7 : op = 7
  · subst q7
    have hkl3 : Hid (kids.length = 1) := by show _ = _; rw [hkl2.out]; rfl
    have HB2 : Hid ((Ex.mk 7 mon name n (some ⟨kb, koff, none⟩) cap kids pos).bare = Lib.itoa n ++ (mt.data.toList ++ kids[0].txt ml)) := by show _ = _; rw [HB.out, ← kid_at kids 0 ml hk0]; simp [bareOf, HM.out]
    have hkl4 : (0 : Int) < (kids.length : Int) := by omega
    rcases hx0 : kids[0] with ⟨xop0, xmon0, xname0, xn0, xad0, xcap0, xkids0, xpos0⟩
    have hc0 : ∀ (t' : List UInt8) (W : World) (l : Nat), Kept b W1 W → Sh b m o t' W → t'.length + (100 * (kids[0]).subs.length + 2) ≤ 1000000000000 → Calls Tryz.prog 29 #[.pointer (some ⟨b, 0, none⟩), .agg #[.int .i64 xop0, .string xmon0, .string xname0, .int .i64 xn0, .slice xad0 xkids0.length xcap0, .int .i64 xpos0], .int .i64 (l : Int)] W fun r w' => r = .returned (.tuple #[]) ∧ Sh b m o (t' ++ kids[0].txt l) w' ∧ Kept b W w' := fun t' W l h1 h2 h3 => by
      have := hkids kids[0] (List.getElem_mem _) n₀ b m o l t' W hn ((hIk kids[0] (List.getElem_mem _)).below ((hK1.trans h1).1.mono hn)) h2 h3
      rw [show kids[0].val = Value.agg #[.int .i64 xop0, .string xmon0, .string xname0, .int .i64 xn0, .slice xad0 xkids0.length xcap0, .int .i64 xpos0] by rw [hx0]; rfl] at this
      exact this
    obtain ⟨a00, a01, a02, a03, a04, a05⟩ := row6 hrow 0 (by omega) (by rw [hx0]; rfl)
    clear hx0
    simp only [Nat.zero_mul, Nat.add_zero] at a00 a01 a02 a03 a04 a05
    have HK : Hid (∀ W, Kept b W1 W → W.cell? ⟨w.heap.size, 4, none⟩ = some (.slice (some ⟨kb, koff, none⟩) kids.length cap) ∧ W.cell? ⟨w.heap.size + 1, 3, none⟩ = some (.int .i64 (ml : Int)) ∧ W.cell? ⟨kb, koff, none⟩ = some (.int .i64 xop0) ∧ W.cell? ⟨kb, koff + 1, none⟩ = some (.string xmon0) ∧ W.cell? ⟨kb, koff + 2, none⟩ = some (.string xname0) ∧ W.cell? ⟨kb, koff + 3, none⟩ = some (.int .i64 xn0) ∧ W.cell? ⟨kb, koff + 4, none⟩ = some (.slice xad0 xkids0.length xcap0) ∧ W.cell? ⟨kb, koff + 5, none⟩ = some (.int .i64 xpos0)) := fun W hW => by
      obtain ⟨f0, f1, f2, f3, f4, f5⟩ := (show ExBox W w.heap.size _ from hW.box bB1 hne (by decide)).cells
      have g := hW.box bS1 hne1 (by decide)
      exact ⟨f4, cell_of' g 3, (hW.1.cell (p := ⟨kb, _, none⟩) hkb).trans a00, (hW.1.cell (p := ⟨kb, _, none⟩) hkb).trans a01, (hW.1.cell (p := ⟨kb, _, none⟩) hkb).trans a02, (hW.1.cell (p := ⟨kb, _, none⟩) hkb).trans a03, (hW.1.cell (p := ⟨kb, _, none⟩) hkb).trans a04, (hW.1.cell (p := ⟨kb, _, none⟩) hkb).trans a05⟩
    clear a00 a01 a02 a03 a04 a05
    have hnum : ∀ W, Below W1.heap.size W1 W → Calls Tryz.prog 35 #[.int .i64 n] W fun e w' => e = .returned (.string ⟨(Lib.itoa n).toArray⟩) ∧ Below W.heap.size W w' := fun W h => number_any n W hnm (hs1.below h).tab
    have hlay : ∀ W, Below W1.heap.size W1 W → Calls Tryz.prog 48 #[.pointer (some ⟨b, 0, none⟩), .slice (some ⟨W.heap.size, 0, none⟩) 2 2] (W.alloc (.cells #[.string ⟨(Lib.itoa n).toArray⟩, .string mt] 9)) fun e w' => e = .returned (.tuple #[]) ∧ Sh b m o (t ++ (Lib.itoa n ++ mt.data.toList)) w' ∧ Kept b W w' := fun W h => by
      have := lay_new [⟨(Lib.itoa n).toArray⟩, mt] b m o t W (hs1.below h) (by simp) (by simp only [cat, List.flatMap_cons, List.flatMap_nil, List.append_nil, List.length_append]; omega)
      simpa [cat] using this
    have HJ : Hid (∀ W, Kept b W1 W → W.cell? ⟨w.heap.size, 3, none⟩ = some (.int .i64 n) ∧ W.cell? ⟨w.heap.size + 1, 0, none⟩ = some (.string mt)) := fun W hW => by
      obtain ⟨f0, f1, f2, f3, f4, f5⟩ := (show ExBox W w.heap.size _ from hW.box bB1 hne (by decide)).cells
      exact ⟨f3, cell_of' (hW.box bS1 hne1 (by decide)) 0⟩
    have B := below_drewE (Below.refl W1.heap.size W1)
    have hb1 : b ≤ W1.heap.size := by have := HZ1.out; omega
    have KK := KK.drew
    go_wp2_with fail
    go_region_held3 (fun W => W.cell? ⟨w.heap.size, 3, none⟩ = some (.int .i64 n) ∧ W.cell? ⟨w.heap.size + 1, 0, none⟩ = some (.string mt)) (first | exact HJ.out _ KK | exact HJ.out _ (KK.al hb1 _))
      (first
        | (go_at_call 35; refine (hnum _ B).mono ?_; rintro r u1 ⟨rfl, bb⟩; have B := B.tr le_rfl' bb; have KK := KK.of hb1 bb)
        | (go_at_call 48; refine (hlay _ B).mono ?_; rintro r u2 ⟨rfl, s3, k3⟩; have KK := KK.trans k3))
    have KK := KK.drew
    have s3 := s3.drew
    go_wp2_with fail
    go_region_held3 (fun W => W.cell? ⟨w.heap.size, 4, none⟩ = some (.slice (some ⟨kb, koff, none⟩) kids.length cap) ∧ W.cell? ⟨w.heap.size + 1, 3, none⟩ = some (.int .i64 (ml : Int)) ∧ W.cell? ⟨kb, koff, none⟩ = some (.int .i64 xop0) ∧ W.cell? ⟨kb, koff + 1, none⟩ = some (.string xmon0) ∧ W.cell? ⟨kb, koff + 2, none⟩ = some (.string xname0) ∧ W.cell? ⟨kb, koff + 3, none⟩ = some (.int .i64 xn0) ∧ W.cell? ⟨kb, koff + 4, none⟩ = some (.slice xad0 xkids0.length xcap0) ∧ W.cell? ⟨kb, koff + 5, none⟩ = some (.int .i64 xpos0)) (exact HK.out _ KK)
        ((go_at_call 29; refine (hc0 (t ++ (Lib.itoa n ++ mt.data.toList)) _ ml KK s3 (by (try simp only [List.length_append]); omega)).mono ?_; rintro r u4 ⟨rfl, su4, ku4⟩; have KK := KK.trans ku4))
    go_wp2
    go_end0
    exact ⟨rfl, by rw [HB2.out, ← List.append_assoc, ← List.append_assoc]; rw [← List.append_assoc] at su4; exact su4, hK1.trans KK⟩
  have q8 : 8 ≤ op := by omega
  have q1b : (op == 1) = false := by rw [beq_eq_false_iff_ne]; omega
  have q2b : (op == 2) = false := by rw [beq_eq_false_iff_ne]; omega
  have q3b : (op == 3) = false := by rw [beq_eq_false_iff_ne]; omega
  have q4b : (op == 4) = false := by rw [beq_eq_false_iff_ne]; omega
  have q5b : (op == 5) = false := by rw [beq_eq_false_iff_ne]; omega
  have q6b : (op == 6) = false := by rw [beq_eq_false_iff_ne]; omega
  have q7b : (op == 7) = false := by rw [beq_eq_false_iff_ne]; omega
  have hkl3 : Hid (kids.length = 2) := by show _ = _; rw [hkl2.out, exKids, if_neg (by omega), if_neg (by omega)]
  have hk1 : 1 < kids.length := by rw [hkl3.out]; omega
  have HB2 : Hid ((Ex.mk op mon name n (some ⟨kb, koff, none⟩) cap kids pos).bare = kids[0].txt mf ++ (mt.data.toList ++ kids[1].txt ml)) := by
    show _ = _
    rw [HB.out, ← kid_at kids 0 mf hk0, ← kid_at kids 1 ml hk1]
    simp [bareOf, HM.out, q1, q2, q3, q4, q5, q6, q7]
  have hkl4 : (0 : Int) < (kids.length : Int) := by omega
  have hkl5 : (1 : Int) < (kids.length : Int) := by omega
  have hb2 := subs_both kids hk1
  rcases hx0 : kids[0] with ⟨xop0, xmon0, xname0, xn0, xad0, xcap0, xkids0, xpos0⟩
  have hc0 : ∀ (t' : List UInt8) (W : World) (l : Nat), Kept b W1 W → Sh b m o t' W → t'.length + (100 * (kids[0]).subs.length + 2) ≤ 1000000000000 → Calls Tryz.prog 29 #[.pointer (some ⟨b, 0, none⟩), .agg #[.int .i64 xop0, .string xmon0, .string xname0, .int .i64 xn0, .slice xad0 xkids0.length xcap0, .int .i64 xpos0], .int .i64 (l : Int)] W fun r w' => r = .returned (.tuple #[]) ∧ Sh b m o (t' ++ kids[0].txt l) w' ∧ Kept b W w' := fun t' W l h1 h2 h3 => by
    have := hkids kids[0] (List.getElem_mem _) n₀ b m o l t' W hn ((hIk kids[0] (List.getElem_mem _)).below ((hK1.trans h1).1.mono hn)) h2 h3
    rw [show kids[0].val = Value.agg #[.int .i64 xop0, .string xmon0, .string xname0, .int .i64 xn0, .slice xad0 xkids0.length xcap0, .int .i64 xpos0] by rw [hx0]; rfl] at this
    exact this
  obtain ⟨a00, a01, a02, a03, a04, a05⟩ := row6 hrow 0 (by omega) (by rw [hx0]; rfl)
  clear hx0
  rcases hx1 : kids[1] with ⟨xop1, xmon1, xname1, xn1, xad1, xcap1, xkids1, xpos1⟩
  have hc1 : ∀ (t' : List UInt8) (W : World) (l : Nat), Kept b W1 W → Sh b m o t' W → t'.length + (100 * (kids[1]).subs.length + 2) ≤ 1000000000000 → Calls Tryz.prog 29 #[.pointer (some ⟨b, 0, none⟩), .agg #[.int .i64 xop1, .string xmon1, .string xname1, .int .i64 xn1, .slice xad1 xkids1.length xcap1, .int .i64 xpos1], .int .i64 (l : Int)] W fun r w' => r = .returned (.tuple #[]) ∧ Sh b m o (t' ++ kids[1].txt l) w' ∧ Kept b W w' := fun t' W l h1 h2 h3 => by
    have := hkids kids[1] (List.getElem_mem _) n₀ b m o l t' W hn ((hIk kids[1] (List.getElem_mem _)).below ((hK1.trans h1).1.mono hn)) h2 h3
    rw [show kids[1].val = Value.agg #[.int .i64 xop1, .string xmon1, .string xname1, .int .i64 xn1, .slice xad1 xkids1.length xcap1, .int .i64 xpos1] by rw [hx1]; rfl] at this
    exact this
  obtain ⟨a10, a11, a12, a13, a14, a15⟩ := row6 hrow 1 (by omega) (by rw [hx1]; rfl)
  clear hx1
  simp only [Nat.zero_mul, Nat.one_mul, Nat.add_zero, Nat.add_assoc, Nat.reduceAdd] at a00 a01 a02 a03 a04 a05 a10 a11 a12 a13 a14 a15
  have HK : Hid (∀ W, Kept b W1 W → W.cell? ⟨w.heap.size, 4, none⟩ = some (.slice (some ⟨kb, koff, none⟩) kids.length cap) ∧ W.cell? ⟨w.heap.size + 1, 2, none⟩ = some (.int .i64 (mf : Int)) ∧ W.cell? ⟨kb, koff, none⟩ = some (.int .i64 xop0) ∧ W.cell? ⟨kb, koff + 1, none⟩ = some (.string xmon0) ∧ W.cell? ⟨kb, koff + 2, none⟩ = some (.string xname0) ∧ W.cell? ⟨kb, koff + 3, none⟩ = some (.int .i64 xn0) ∧ W.cell? ⟨kb, koff + 4, none⟩ = some (.slice xad0 xkids0.length xcap0) ∧ W.cell? ⟨kb, koff + 5, none⟩ = some (.int .i64 xpos0)) := fun W hW => by
    obtain ⟨f0, f1, f2, f3, f4, f5⟩ := (show ExBox W w.heap.size _ from hW.box bB1 hne (by decide)).cells
    have g := hW.box bS1 hne1 (by decide)
    exact ⟨f4, cell_of' g 2, (hW.1.cell (p := ⟨kb, _, none⟩) hkb).trans a00, (hW.1.cell (p := ⟨kb, _, none⟩) hkb).trans a01, (hW.1.cell (p := ⟨kb, _, none⟩) hkb).trans a02, (hW.1.cell (p := ⟨kb, _, none⟩) hkb).trans a03, (hW.1.cell (p := ⟨kb, _, none⟩) hkb).trans a04, (hW.1.cell (p := ⟨kb, _, none⟩) hkb).trans a05⟩
  have HJ : Hid (∀ W, Kept b W1 W → W.cell? ⟨w.heap.size, 4, none⟩ = some (.slice (some ⟨kb, koff, none⟩) kids.length cap) ∧ W.cell? ⟨w.heap.size + 1, 3, none⟩ = some (.int .i64 (ml : Int)) ∧ W.cell? ⟨kb, koff + 6, none⟩ = some (.int .i64 xop1) ∧ W.cell? ⟨kb, koff + 7, none⟩ = some (.string xmon1) ∧ W.cell? ⟨kb, koff + 8, none⟩ = some (.string xname1) ∧ W.cell? ⟨kb, koff + 9, none⟩ = some (.int .i64 xn1) ∧ W.cell? ⟨kb, koff + 10, none⟩ = some (.slice xad1 xkids1.length xcap1) ∧ W.cell? ⟨kb, koff + 11, none⟩ = some (.int .i64 xpos1)) := fun W hW => by
    obtain ⟨f0, f1, f2, f3, f4, f5⟩ := (show ExBox W w.heap.size _ from hW.box bB1 hne (by decide)).cells
    have g := hW.box bS1 hne1 (by decide)
    exact ⟨f4, cell_of' g 3, (hW.1.cell (p := ⟨kb, _, none⟩) hkb).trans a10, (hW.1.cell (p := ⟨kb, _, none⟩) hkb).trans a11, (hW.1.cell (p := ⟨kb, _, none⟩) hkb).trans a12, (hW.1.cell (p := ⟨kb, _, none⟩) hkb).trans a13, (hW.1.cell (p := ⟨kb, _, none⟩) hkb).trans a14, (hW.1.cell (p := ⟨kb, _, none⟩) hkb).trans a15⟩
  clear a00 a01 a02 a03 a04 a05 a10 a11 a12 a13 a14 a15
  have hle0 : (kids[0].txt mf).length ≤ 100 * kids[0].subs.length + 2 := by
    have h1 := bare_len kids[0] n₀ w (hIk _ (List.getElem_mem _)) (hoks _ (List.getElem_mem _))
    have h2 := atL_len mf kids[0].opOf kids[0].bare
    unfold Ex.txt; omega
  have hlay : ∀ W, Sh b m o (t ++ kids[0].txt mf) W → Calls Tryz.prog 48 #[.pointer (some ⟨b, 0, none⟩), .slice (some ⟨W.heap.size, 0, none⟩) 1 1] (W.alloc (.cells #[.string mt] 9)) fun e w' => e = .returned (.tuple #[]) ∧ Sh b m o (t ++ kids[0].txt mf ++ mt.data.toList) w' ∧ Kept b W w' := fun W h => by
    have := lay_new [mt] b m o _ W h (by simp) (by simp only [cat, List.flatMap_cons, List.flatMap_nil, List.append_nil, List.length_append]; omega)
    simpa [cat] using this
  have KK := KK.drew
  have s1 := hs1.drew
  go_wp2_with fail
  go_region_held3 (fun W => W.cell? ⟨w.heap.size, 4, none⟩ = some (.slice (some ⟨kb, koff, none⟩) kids.length cap) ∧ W.cell? ⟨w.heap.size + 1, 2, none⟩ = some (.int .i64 (mf : Int)) ∧ W.cell? ⟨kb, koff, none⟩ = some (.int .i64 xop0) ∧ W.cell? ⟨kb, koff + 1, none⟩ = some (.string xmon0) ∧ W.cell? ⟨kb, koff + 2, none⟩ = some (.string xname0) ∧ W.cell? ⟨kb, koff + 3, none⟩ = some (.int .i64 xn0) ∧ W.cell? ⟨kb, koff + 4, none⟩ = some (.slice xad0 xkids0.length xcap0) ∧ W.cell? ⟨kb, koff + 5, none⟩ = some (.int .i64 xpos0)) (exact HK.out _ KK)
      ((go_at_call 29; refine (hc0 t _ mf KK s1 (by (try simp only [List.length_append]); omega)).mono ?_; rintro r u3 ⟨rfl, su3, ku3⟩; have KK := KK.trans ku3))
  have m0b := cell_of' (KK.box bS1 hne1 (by decide)) 0
  simp at m0b
  go_wp2_with (go_at_call 48; refine (hlay _ su3).mono ?_; rintro e w4 ⟨rfl, s4, k4⟩)
  have KK := (KK.trans k4).drew
  have s4 := s4.drew
  go_wp2_with fail
  go_region_held3 (fun W => W.cell? ⟨w.heap.size, 4, none⟩ = some (.slice (some ⟨kb, koff, none⟩) kids.length cap) ∧ W.cell? ⟨w.heap.size + 1, 3, none⟩ = some (.int .i64 (ml : Int)) ∧ W.cell? ⟨kb, koff + 6, none⟩ = some (.int .i64 xop1) ∧ W.cell? ⟨kb, koff + 7, none⟩ = some (.string xmon1) ∧ W.cell? ⟨kb, koff + 8, none⟩ = some (.string xname1) ∧ W.cell? ⟨kb, koff + 9, none⟩ = some (.int .i64 xn1) ∧ W.cell? ⟨kb, koff + 10, none⟩ = some (.slice xad1 xkids1.length xcap1) ∧ W.cell? ⟨kb, koff + 11, none⟩ = some (.int .i64 xpos1)) (exact HJ.out _ KK)
      ((go_at_call 29; refine (hc1 (t ++ kids[0].txt mf ++ mt.data.toList) _ ml KK s4 (by (try simp only [List.length_append]); omega)).mono ?_; rintro r u5 ⟨rfl, su5, ku5⟩; have KK := KK.trans ku5))
  go_wp2
  go_end0
  exact ⟨rfl, by rw [HB2.out, ← List.append_assoc, ← List.append_assoc]; exact su5, hK1.trans KK⟩
theorem expr_any (e : Ex) : e.ok = true → ExprLays e := by
  induction e using Ex.ind with
  | h op mon name n ad cap kids pos ih =>
    intro hok
    exact expr_of _ hok (bare_of _ hok (fun x hx => ih x hx ((Ex.ok_mk hok).2 x hx)))
end Go.Proofs.YtnljhlmopjgogaaGreatDoor
