/-
  Texts of expressions can be read in one way alone: a reading, as a relation on bytes; it is single-valued, and a text's reading is its expression. Nothing is walked here.
-/
import Derived.Test.YtaekbgljbgmchaaGreatDoorJA
import Derived.RegionTactic
import Derived.Deep.Cut
namespace Go.Proofs.YtaekbgljbgmchaaGreatDoor
open Go.RowKit Px
theorem Kept.drew {b : Nat} {u v : World} (h : Kept b u v) : Kept b u v.drew := ⟨below_drewE h.1, h.2⟩
theorem Sh.drew {b m o : Nat} {t : List UInt8} {w : World} (h : Sh b m o t w) : Sh b m o t w.drew := h.below (below_drewE (Below.refl _ _))
theorem subs_pos (e : Ex) : 1 ≤ e.subs.length := by rcases e with ⟨⟩; rw [Ex.subs_mk, List.length_cons]; omega
theorem subs_one (kids : List Ex) (h : 0 < kids.length) : kids[0].subs.length ≤ (Ex.subsL kids).length := by
  match kids, h with
  | a :: r, _ => simp [Ex.subsL]
theorem subs_both (kids : List Ex) (h : 1 < kids.length) : kids[0].subs.length + kids[1].subs.length ≤ (Ex.subsL kids).length := by
  match kids, h with
  | a :: b :: r, _ => simp [Ex.subsL]
set_option maxRecDepth 100000 in
set_option maxHeartbeats 2000000 in
theorem bare_of (e : Ex) (hok : e.ok = true) (hkids : ∀ x ∈ e.kids, ExprLays x) : BareLays e := by
  intro n₀ b m o t w hn hI hs hlen
  have hbl := hs.bl
  rcases e with ⟨op, mon, name, n, ad, cap, kids, pos⟩
  obtain ⟨mt, mo, mf, ml, hm⟩ : ∃ mt mo mf ml, sgnOf op = (mt, mo, mf, ml) := ⟨_, _, _, _, rfl⟩
  have HM := hid hm
  have hl0 : ∀ W, SignsAt W m → (Instr.lookup 91 (.map (some m)) (.int .i64 op) false).run Tryz.prog W = .ok (.agg #[.string mt, .int .i64 (mo : Int), .int .i64 (mf : Int), .int .i64 (ml : Int)]) W := fun W h => by
    rw [lookup_one h op, hm]; rfl
  have hmt : mt.data.toList.length ≤ 4 := by have := sgnOf_len op; rw [hm] at this; exact this
  clear hm
  have bB : ExBox (w.alloc (.cells #[.int .i64 op, .string mon, .string name, .int .i64 n, .slice ad kids.length cap, .int .i64 pos] 25)) w.heap.size (.mk op mon name n ad cap kids pos) := ExBox.new w (.mk op mon name n ad cap kids pos)
  have hK0 : Kept b w (w.alloc (.cells #[.int .i64 op, .string mon, .string name, .int .i64 n, .slice ad kids.length cap, .int .i64 pos] 25)) := (Kept.refl b w).al (by omega) _
  have hs0 := hs.al (.cells #[.int .i64 op, .string mon, .string name, .int .i64 n, .slice ad kids.length cap, .int .i64 pos] 25)
  have hz0 : (w.alloc (.cells #[.int .i64 op, .string mon, .string name, .int .i64 n, .slice ad kids.length cap, .int .i64 pos] 25)).heap.size = w.heap.size + 1 := by simp
  have hne : w.heap.size ≠ b := by omega
  have hne1 : w.heap.size + 1 ≠ b := by omega
  have hnm : I64 n := hI.down.1.2.1
  have hIk := hI.down.2.2
  have hsl := hI.down.2.1
  have hl1 := hsl.1; have hl2 := hsl.2.1
  unfold maxLen at hl2
  have HB := hid (Ex.bare_mk op mon name n ad cap kids pos)
  have hio := itoa_len n hnm
  obtain ⟨h1, hoks⟩ := Ex.ok_mk hok
  simp only [Ex.ok1, Bool.and_eq_true, decide_eq_true_iff] at h1
  obtain ⟨⟨ho1, ho2⟩, ⟨⟨hfm, hfn⟩, -⟩, hkl⟩ := h1
  have hmon := fits_len hfm
  have hname := fits_len hfn
  have hkl2 : Hid (kids.length = exKids op.toNat) := by have := eq_of_beq hkl; show _ = _; omega
  rw [Ex.subs_mk, List.length_cons] at hlen
  clear hfm hfn hkl hok hI
  simp only [Ex.val, Ex.cells]
  go_enter Tryz.func99, Tryz.ntmps99
  go_wp2_with fail
  obtain ⟨W0, hW0⟩ : ∃ W0, w.alloc (.cells #[.int .i64 op, .string mon, .string name, .int .i64 n, .slice ad kids.length cap, .int .i64 pos] 25) = W0 := ⟨_, rfl⟩
  rw [hW0] at bB hK0 hs0 hz0 ⊢
  clear hW0
  have c2 : W0.cell? ⟨b, 2, none⟩ = some (.map (some m)) := by obtain ⟨c, _, h⟩ := hs0.sheet; exact h.cells.1
  obtain ⟨d0, d1, d2, d3, d4, d5⟩ := bB.cells
  have l1 := hl0 W0.drew hs0.signs
  have l2 := fun o => hl0 (W0.alloc o).drew (hs0.al o).signs
  go_region
  have hB1 : Below W0.heap.size W0 (W0.alloc (.cells #[.string mt, .int .i64 (mo : Int), .int .i64 (mf : Int), .int .i64 (ml : Int)] 137)).drew := below_drewE ((Below.refl _ W0).al le_rfl' _)
  have hs1 := hs0.below hB1
  have hK1 := hK0.of (by omega) hB1
  have bB1 := bB.below hB1 (by omega)
  have bS1 : (W0.alloc (.cells #[.string mt, .int .i64 (mo : Int), .int .i64 (mf : Int), .int .i64 (ml : Int)] 137)).drew.heap[w.heap.size + 1]? = some (.cells #[.string mt, .int .i64 (mo : Int), .int .i64 (mf : Int), .int .i64 (ml : Int)] 137 (0, 0)) := by rw [← hz0]; exact heap_alloc_new W0 _
  have hz1 : (W0.alloc (.cells #[.string mt, .int .i64 (mo : Int), .int .i64 (mf : Int), .int .i64 (ml : Int)] 137)).drew.heap.size = w.heap.size + 2 := by show (W0.alloc _).heap.size = _; simp [hz0]
  obtain ⟨W1, hW1⟩ : ∃ W1, (W0.alloc (.cells #[.string mt, .int .i64 (mo : Int), .int .i64 (mf : Int), .int .i64 (ml : Int)] 137)).drew = W1 := ⟨_, rfl⟩
  rw [hW1] at hB1 hs1 hK1 bB1 bS1 hz1 ⊢
  have HZ1 := hid hz1
  clear hz1 hW1 d0 d1 d2 d3 d4 d5 l1 l2 c2 hl0 bB hs0 hK0 hB1
  obtain ⟨d0, d1, d2, d3, d4, d5⟩ := bB1.cells
  have m0 := cell_of' bS1 0
  have m2 := cell_of' bS1 2
  have m3 := cell_of' bS1 3
  simp at m0 m2 m3
  by_cases q1 : op = 1
  · subst q1
    have HB2 : Hid ((Ex.mk 1 mon name n ad cap kids pos).bare = Lib.itoa n) := by show _ = _; rw [HB.out]; simp [bareOf]
    have hnum := number_any n W1 hnm hs1.tab
    have hlay : ∀ W, Below W1.heap.size W1 W → Calls Tryz.prog 98 #[.pointer (some ⟨b, 0, none⟩), .slice (some ⟨W.heap.size, 0, none⟩) 1 1] (W.alloc (.cells #[.string ⟨(Lib.itoa n).toArray⟩] 9)) fun e w' => e = .returned (.tuple #[]) ∧ Sh b m o (t ++ Lib.itoa n) w' ∧ Kept b W w' := fun W h => by
      have := lay_new [⟨(Lib.itoa n).toArray⟩] b m o t W (hs1.below h) (by simp) (by simp [cat]; omega)
      simpa [cat] using this
    go_wp2_with (first
      | (go_at_call 84; refine hnum.mono ?_; rintro e w2 ⟨rfl, b2⟩)
      | (go_at_call 98; refine (hlay _ b2).mono ?_; rintro e w3 ⟨rfl, s3, k3⟩))
    go_end0
    exact ⟨rfl, by rw [HB2.out]; exact s3, (hK1.of (by omega) b2).trans k3⟩
  by_cases q2 : op = 2
  · subst q2
    have HB2 : Hid ((Ex.mk 2 mon name n ad cap kids pos).bare = [116, 114, 117, 101]) := by show _ = _; rw [HB.out]; simp [bareOf]
    have hlay := lay_new [⟨#[116, 114, 117, 101]⟩] b m o t W1 hs1 (by simp) (by simp [cat]; omega)
    simp only [List.map_cons, List.map_nil, List.length_cons, List.length_nil, Nat.zero_add, cat, List.flatMap_cons, List.flatMap_nil, List.append_nil] at hlay
    go_wp2_with (go_at_call 98; refine hlay.mono ?_; rintro e w3 ⟨rfl, s3, k3⟩)
    go_end0
    exact ⟨rfl, by rw [HB2.out]; exact s3, hK1.trans k3⟩
  by_cases q3 : op = 3
  · subst q3
    have HB2 : Hid ((Ex.mk 3 mon name n ad cap kids pos).bare = [102, 97, 108, 115, 101]) := by show _ = _; rw [HB.out]; simp [bareOf]
    have hlay := lay_new [⟨#[102, 97, 108, 115, 101]⟩] b m o t W1 hs1 (by simp) (by simp [cat]; omega)
    simp only [List.map_cons, List.map_nil, List.length_cons, List.length_nil, Nat.zero_add, cat, List.flatMap_cons, List.flatMap_nil, List.append_nil] at hlay
    go_wp2_with (go_at_call 98; refine hlay.mono ?_; rintro e w3 ⟨rfl, s3, k3⟩)
    go_end0
    exact ⟨rfl, by rw [HB2.out]; exact s3, hK1.trans k3⟩
  by_cases q4 : op = 4
  · subst q4
    have HB2 : Hid ((Ex.mk 4 mon name n ad cap kids pos).bare = mon.data.toList ++ 46 :: name.data.toList) := by show _ = _; rw [HB.out]; simp [bareOf]
    have hlay := lay_new [mon, ⟨#[46]⟩, name] b m o t W1 hs1 (by simp) (by simp only [cat, List.flatMap_cons, List.flatMap_nil, List.append_nil, List.length_append, List.length_cons, List.length_nil]; omega)
    simp only [List.map_cons, List.map_nil, List.length_cons, List.length_nil, Nat.zero_add, Nat.reduceAdd, cat, List.flatMap_cons, List.flatMap_nil, List.append_nil] at hlay
    go_wp2_with (go_at_call 98; refine hlay.mono ?_; rintro e w3 ⟨rfl, s3, k3⟩)
    go_end0
    exact ⟨rfl, by rw [HB2.out]; exact s3, hK1.trans k3⟩
  have hk0 : 0 < kids.length := by
    rw [hkl2.out, exKids]; split
    · omega
    · split <;> omega
  obtain ⟨kb, koff, rfl, hkb0, hrow0⟩ := hsl.2.2.resolve_left (by intro h; rw [h] at hk0; simp at hk0)
  have hkb : kb < b := by omega
  have hrow := hrow0.below (hK1.1.mono hn) hkb0
  have KK : Kept b W1 W1 := Kept.refl _ _
  have hb0 := subs_one kids hk0
  by_cases q5 : op = 5
  · subst q5
    have hkl3 : Hid (kids.length = 1) := by show _ = _; rw [hkl2.out]; rfl
    have HB2 : Hid ((Ex.mk 5 mon name n (some ⟨kb, koff, none⟩) cap kids pos).bare = mt.data.toList ++ kids[0].txt ml) := by show _ = _; rw [HB.out, ← kid_at kids 0 ml hk0]; simp [bareOf, HM.out]
    have hlay := lay_new [mt] b m o t W1 hs1 (by simp) (by simp only [cat, List.flatMap_cons, List.flatMap_nil, List.append_nil]; omega)
    simp only [List.map_cons, List.map_nil, List.length_cons, List.length_nil, Nat.zero_add, cat, List.flatMap_cons, List.flatMap_nil, List.append_nil] at hlay
    have hkl4 : (0 : Int) < (kids.length : Int) := by omega
    rcases hx0 : kids[0] with ⟨xop0, xmon0, xname0, xn0, xad0, xcap0, xkids0, xpos0⟩
    have hc0 : ∀ (t' : List UInt8) (W : World) (l : Nat), Kept b W1 W → Sh b m o t' W → t'.length + (100 * (kids[0]).subs.length + 2) ≤ 1000000000000 → Calls Tryz.prog 55 #[.pointer (some ⟨b, 0, none⟩), .agg #[.int .i64 xop0, .string xmon0, .string xname0, .int .i64 xn0, .slice xad0 xkids0.length xcap0, .int .i64 xpos0], .int .i64 (l : Int)] W fun r w' => r = .returned (.tuple #[]) ∧ Sh b m o (t' ++ kids[0].txt l) w' ∧ Kept b W w' := fun t' W l h1 h2 h3 => by
      have := hkids kids[0] (List.getElem_mem _) n₀ b m o l t' W hn ((hIk kids[0] (List.getElem_mem _)).below ((hK1.trans h1).1.mono hn)) h2 h3
      rw [show kids[0].val = Value.agg #[.int .i64 xop0, .string xmon0, .string xname0, .int .i64 xn0, .slice xad0 xkids0.length xcap0, .int .i64 xpos0] by rw [hx0]; rfl] at this
      exact this
    obtain ⟨a00, a01, a02, a03, a04, a05⟩ := row6 hrow 0 (by omega) (by rw [hx0]; rfl)
    clear hx0
    simp only [Nat.zero_mul, Nat.add_zero] at a00 a01 a02 a03 a04 a05
    have HK : Hid (∀ W, Kept b W1 W → W.cell? ⟨w.heap.size, 4, none⟩ = some (.slice (some ⟨kb, koff, none⟩) kids.length cap) ∧ W.cell? ⟨w.heap.size + 1, 3, none⟩ = some (.int .i64 (ml : Int)) ∧ W.cell? ⟨kb, koff, none⟩ = some (.int .i64 xop0) ∧ W.cell? ⟨kb, koff + 1, none⟩ = some (.string xmon0) ∧ W.cell? ⟨kb, koff + 2, none⟩ = some (.string xname0) ∧ W.cell? ⟨kb, koff + 3, none⟩ = some (.int .i64 xn0) ∧ W.cell? ⟨kb, koff + 4, none⟩ = some (.slice xad0 xkids0.length xcap0) ∧ W.cell? ⟨kb, koff + 5, none⟩ = some (.int .i64 xpos0)) := fun W hW => by
      obtain ⟨f0, f1, f2, f3, f4, f5⟩ := (show ExBox W w.heap.size _ from hW.box bB1 hne (by decide)).cells
      have g := hW.box bS1 hne1 (by decide)
      exact ⟨f4, cell_of' g 3, (hW.1.cell (p := ⟨kb, _, none⟩) hkb).trans a00, (hW.1.cell (p := ⟨kb, _, none⟩) hkb).trans a01, (hW.1.cell (p := ⟨kb, _, none⟩) hkb).trans a02, (hW.1.cell (p := ⟨kb, _, none⟩) hkb).trans a03, (hW.1.cell (p := ⟨kb, _, none⟩) hkb).trans a04, (hW.1.cell (p := ⟨kb, _, none⟩) hkb).trans a05⟩
    clear a00 a01 a02 a03 a04 a05
    go_wp2_with (go_at_call 98; refine hlay.mono ?_; rintro e w3 ⟨rfl, s3, k3⟩; have KK := (KK.trans k3).drew; have s3 := s3.drew)
    go_region_held3 (fun W => W.cell? ⟨w.heap.size, 4, none⟩ = some (.slice (some ⟨kb, koff, none⟩) kids.length cap) ∧ W.cell? ⟨w.heap.size + 1, 3, none⟩ = some (.int .i64 (ml : Int)) ∧ W.cell? ⟨kb, koff, none⟩ = some (.int .i64 xop0) ∧ W.cell? ⟨kb, koff + 1, none⟩ = some (.string xmon0) ∧ W.cell? ⟨kb, koff + 2, none⟩ = some (.string xname0) ∧ W.cell? ⟨kb, koff + 3, none⟩ = some (.int .i64 xn0) ∧ W.cell? ⟨kb, koff + 4, none⟩ = some (.slice xad0 xkids0.length xcap0) ∧ W.cell? ⟨kb, koff + 5, none⟩ = some (.int .i64 xpos0)) (exact HK.out _ KK)
        ((go_at_call 55; refine (hc0 (t ++ mt.data.toList) _ ml KK s3 (by (try simp only [List.length_append]); omega)).mono ?_; rintro r u4 ⟨rfl, su4, ku4⟩; have KK := KK.trans ku4))
    go_wp2
    go_end0
    exact ⟨rfl, by rw [HB2.out, ← List.append_assoc]; exact su4, hK1.trans KK⟩
  by_cases q6 : op = 6
  · subst q6
    have hkl3 : Hid (kids.length = 1) := by show _ = _; rw [hkl2.out]; rfl
    have HB2 : Hid ((Ex.mk 6 mon name n (some ⟨kb, koff, none⟩) cap kids pos).bare = mt.data.toList ++ kids[0].txt ml) := by show _ = _; rw [HB.out, ← kid_at kids 0 ml hk0]; simp [bareOf, HM.out]
    have hlay := lay_new [mt] b m o t W1 hs1 (by simp) (by simp only [cat, List.flatMap_cons, List.flatMap_nil, List.append_nil]; omega)
    simp only [List.map_cons, List.map_nil, List.length_cons, List.length_nil, Nat.zero_add, cat, List.flatMap_cons, List.flatMap_nil, List.append_nil] at hlay
    have hkl4 : (0 : Int) < (kids.length : Int) := by omega
    rcases hx0 : kids[0] with ⟨xop0, xmon0, xname0, xn0, xad0, xcap0, xkids0, xpos0⟩
    have hc0 : ∀ (t' : List UInt8) (W : World) (l : Nat), Kept b W1 W → Sh b m o t' W → t'.length + (100 * (kids[0]).subs.length + 2) ≤ 1000000000000 → Calls Tryz.prog 55 #[.pointer (some ⟨b, 0, none⟩), .agg #[.int .i64 xop0, .string xmon0, .string xname0, .int .i64 xn0, .slice xad0 xkids0.length xcap0, .int .i64 xpos0], .int .i64 (l : Int)] W fun r w' => r = .returned (.tuple #[]) ∧ Sh b m o (t' ++ kids[0].txt l) w' ∧ Kept b W w' := fun t' W l h1 h2 h3 => by
      have := hkids kids[0] (List.getElem_mem _) n₀ b m o l t' W hn ((hIk kids[0] (List.getElem_mem _)).below ((hK1.trans h1).1.mono hn)) h2 h3
      rw [show kids[0].val = Value.agg #[.int .i64 xop0, .string xmon0, .string xname0, .int .i64 xn0, .slice xad0 xkids0.length xcap0, .int .i64 xpos0] by rw [hx0]; rfl] at this
      exact this
    obtain ⟨a00, a01, a02, a03, a04, a05⟩ := row6 hrow 0 (by omega) (by rw [hx0]; rfl)
    clear hx0
    simp only [Nat.zero_mul, Nat.add_zero] at a00 a01 a02 a03 a04 a05
    have HK : Hid (∀ W, Kept b W1 W → W.cell? ⟨w.heap.size, 4, none⟩ = some (.slice (some ⟨kb, koff, none⟩) kids.length cap) ∧ W.cell? ⟨w.heap.size + 1, 3, none⟩ = some (.int .i64 (ml : Int)) ∧ W.cell? ⟨kb, koff, none⟩ = some (.int .i64 xop0) ∧ W.cell? ⟨kb, koff + 1, none⟩ = some (.string xmon0) ∧ W.cell? ⟨kb, koff + 2, none⟩ = some (.string xname0) ∧ W.cell? ⟨kb, koff + 3, none⟩ = some (.int .i64 xn0) ∧ W.cell? ⟨kb, koff + 4, none⟩ = some (.slice xad0 xkids0.length xcap0) ∧ W.cell? ⟨kb, koff + 5, none⟩ = some (.int .i64 xpos0)) := fun W hW => by
      obtain ⟨f0, f1, f2, f3, f4, f5⟩ := (show ExBox W w.heap.size _ from hW.box bB1 hne (by decide)).cells
      have g := hW.box bS1 hne1 (by decide)
      exact ⟨f4, cell_of' g 3, (hW.1.cell (p := ⟨kb, _, none⟩) hkb).trans a00, (hW.1.cell (p := ⟨kb, _, none⟩) hkb).trans a01, (hW.1.cell (p := ⟨kb, _, none⟩) hkb).trans a02, (hW.1.cell (p := ⟨kb, _, none⟩) hkb).trans a03, (hW.1.cell (p := ⟨kb, _, none⟩) hkb).trans a04, (hW.1.cell (p := ⟨kb, _, none⟩) hkb).trans a05⟩
    clear a00 a01 a02 a03 a04 a05
    go_wp2_with (go_at_call 98; refine hlay.mono ?_; rintro e w3 ⟨rfl, s3, k3⟩; have KK := (KK.trans k3).drew; have s3 := s3.drew)
    go_region_held3 (fun W => W.cell? ⟨w.heap.size, 4, none⟩ = some (.slice (some ⟨kb, koff, none⟩) kids.length cap) ∧ W.cell? ⟨w.heap.size + 1, 3, none⟩ = some (.int .i64 (ml : Int)) ∧ W.cell? ⟨kb, koff, none⟩ = some (.int .i64 xop0) ∧ W.cell? ⟨kb, koff + 1, none⟩ = some (.string xmon0) ∧ W.cell? ⟨kb, koff + 2, none⟩ = some (.string xname0) ∧ W.cell? ⟨kb, koff + 3, none⟩ = some (.int .i64 xn0) ∧ W.cell? ⟨kb, koff + 4, none⟩ = some (.slice xad0 xkids0.length xcap0) ∧ W.cell? ⟨kb, koff + 5, none⟩ = some (.int .i64 xpos0)) (exact HK.out _ KK)
        ((go_at_call 55; refine (hc0 (t ++ mt.data.toList) _ ml KK s3 (by (try simp only [List.length_append]); omega)).mono ?_; rintro r u4 ⟨rfl, su4, ku4⟩; have KK := KK.trans ku4))
    go_wp2
    go_end0
    exact ⟨rfl, by rw [HB2.out, ← List.append_assoc]; exact su4, hK1.trans KK⟩
  by_cases q7 : op = 7
  · subst q7
    have hkl3 : Hid (kids.length = 1) := by show _ = _; rw [hkl2.out]; rfl
    have HB2 : Hid ((Ex.mk 7 mon name n (some ⟨kb, koff, none⟩) cap kids pos).bare = Lib.itoa n ++ (mt.data.toList ++ kids[0].txt ml)) := by show _ = _; rw [HB.out, ← kid_at kids 0 ml hk0]; simp [bareOf, HM.out]
    have hkl4 : (0 : Int) < (kids.length : Int) := by omega
    rcases hx0 : kids[0] with ⟨xop0, xmon0, xname0, xn0, xad0, xcap0, xkids0, xpos0⟩
    have hc0 : ∀ (t' : List UInt8) (W : World) (l : Nat), Kept b W1 W → Sh b m o t' W → t'.length + (100 * (kids[0]).subs.length + 2) ≤ 1000000000000 → Calls Tryz.prog 55 #[.pointer (some ⟨b, 0, none⟩), .agg #[.int .i64 xop0, .string xmon0, .string xname0, .int .i64 xn0, .slice xad0 xkids0.length xcap0, .int .i64 xpos0], .int .i64 (l : Int)] W fun r w' => r = .returned (.tuple #[]) ∧ Sh b m o (t' ++ kids[0].txt l) w' ∧ Kept b W w' := fun t' W l h1 h2 h3 => by
      have := hkids kids[0] (List.getElem_mem _) n₀ b m o l t' W hn ((hIk kids[0] (List.getElem_mem _)).below ((hK1.trans h1).1.mono hn)) h2 h3
      rw [show kids[0].val = Value.agg #[.int .i64 xop0, .string xmon0, .string xname0, .int .i64 xn0, .slice xad0 xkids0.length xcap0, .int .i64 xpos0] by rw [hx0]; rfl] at this
      exact this
    obtain ⟨a00, a01, a02, a03, a04, a05⟩ := row6 hrow 0 (by omega) (by rw [hx0]; rfl)
    clear hx0
    simp only [Nat.zero_mul, Nat.add_zero] at a00 a01 a02 a03 a04 a05
    have HK : Hid (∀ W, Kept b W1 W → W.cell? ⟨w.heap.size, 4, none⟩ = some (.slice (some ⟨kb, koff, none⟩) kids.length cap) ∧ W.cell? ⟨w.heap.size + 1, 3, none⟩ = some (.int .i64 (ml : Int)) ∧ W.cell? ⟨kb, koff, none⟩ = some (.int .i64 xop0) ∧ W.cell? ⟨kb, koff + 1, none⟩ = some (.string xmon0) ∧ W.cell? ⟨kb, koff + 2, none⟩ = some (.string xname0) ∧ W.cell? ⟨kb, koff + 3, none⟩ = some (.int .i64 xn0) ∧ W.cell? ⟨kb, koff + 4, none⟩ = some (.slice xad0 xkids0.length xcap0) ∧ W.cell? ⟨kb, koff + 5, none⟩ = some (.int .i64 xpos0)) := fun W hW => by
      obtain ⟨f0, f1, f2, f3, f4, f5⟩ := (show ExBox W w.heap.size _ from hW.box bB1 hne (by decide)).cells
      have g := hW.box bS1 hne1 (by decide)
      exact ⟨f4, cell_of' g 3, (hW.1.cell (p := ⟨kb, _, none⟩) hkb).trans a00, (hW.1.cell (p := ⟨kb, _, none⟩) hkb).trans a01, (hW.1.cell (p := ⟨kb, _, none⟩) hkb).trans a02, (hW.1.cell (p := ⟨kb, _, none⟩) hkb).trans a03, (hW.1.cell (p := ⟨kb, _, none⟩) hkb).trans a04, (hW.1.cell (p := ⟨kb, _, none⟩) hkb).trans a05⟩
    clear a00 a01 a02 a03 a04 a05
    have hnum : ∀ W, Below W1.heap.size W1 W → Calls Tryz.prog 84 #[.int .i64 n] W fun e w' => e = .returned (.string ⟨(Lib.itoa n).toArray⟩) ∧ Below W.heap.size W w' := fun W h => number_any n W hnm (hs1.below h).tab
    have hlay : ∀ W, Below W1.heap.size W1 W → Calls Tryz.prog 98 #[.pointer (some ⟨b, 0, none⟩), .slice (some ⟨W.heap.size, 0, none⟩) 2 2] (W.alloc (.cells #[.string ⟨(Lib.itoa n).toArray⟩, .string mt] 9)) fun e w' => e = .returned (.tuple #[]) ∧ Sh b m o (t ++ (Lib.itoa n ++ mt.data.toList)) w' ∧ Kept b W w' := fun W h => by
      have := lay_new [⟨(Lib.itoa n).toArray⟩, mt] b m o t W (hs1.below h) (by simp) (by simp only [cat, List.flatMap_cons, List.flatMap_nil, List.append_nil, List.length_append]; omega)
      simpa [cat] using this
    have HJ : Hid (∀ W, Kept b W1 W → W.cell? ⟨w.heap.size, 3, none⟩ = some (.int .i64 n) ∧ W.cell? ⟨w.heap.size + 1, 0, none⟩ = some (.string mt)) := fun W hW => by
      obtain ⟨f0, f1, f2, f3, f4, f5⟩ := (show ExBox W w.heap.size _ from hW.box bB1 hne (by decide)).cells
      exact ⟨f3, cell_of' (hW.box bS1 hne1 (by decide)) 0⟩
    have B := below_drewE (Below.refl W1.heap.size W1)
    have hb1 : b ≤ W1.heap.size := by have := HZ1.out; omega
    have KK := KK.drew
    go_wp2_with fail
    go_region_held3 (fun W => W.cell? ⟨w.heap.size, 3, none⟩ = some (.int .i64 n) ∧ W.cell? ⟨w.heap.size + 1, 0, none⟩ = some (.string mt)) (first | exact HJ.out _ KK | exact HJ.out _ (KK.al hb1 _))
      (first
        | (go_at_call 84; refine (hnum _ B).mono ?_; rintro r u1 ⟨rfl, bb⟩; have B := B.tr le_rfl' bb; have KK := KK.of hb1 bb)
        | (go_at_call 98; refine (hlay _ B).mono ?_; rintro r u2 ⟨rfl, s3, k3⟩; have KK := KK.trans k3))
    have KK := KK.drew
    have s3 := s3.drew
    go_wp2_with fail
    go_region_held3 (fun W => W.cell? ⟨w.heap.size, 4, none⟩ = some (.slice (some ⟨kb, koff, none⟩) kids.length cap) ∧ W.cell? ⟨w.heap.size + 1, 3, none⟩ = some (.int .i64 (ml : Int)) ∧ W.cell? ⟨kb, koff, none⟩ = some (.int .i64 xop0) ∧ W.cell? ⟨kb, koff + 1, none⟩ = some (.string xmon0) ∧ W.cell? ⟨kb, koff + 2, none⟩ = some (.string xname0) ∧ W.cell? ⟨kb, koff + 3, none⟩ = some (.int .i64 xn0) ∧ W.cell? ⟨kb, koff + 4, none⟩ = some (.slice xad0 xkids0.length xcap0) ∧ W.cell? ⟨kb, koff + 5, none⟩ = some (.int .i64 xpos0)) (exact HK.out _ KK)
        ((go_at_call 55; refine (hc0 (t ++ (Lib.itoa n ++ mt.data.toList)) _ ml KK s3 (by (try simp only [List.length_append]); omega)).mono ?_; rintro r u4 ⟨rfl, su4, ku4⟩; have KK := KK.trans ku4))
    go_wp2
    go_end0
    exact ⟨rfl, by rw [HB2.out, ← List.append_assoc, ← List.append_assoc]; rw [← List.append_assoc] at su4; exact su4, hK1.trans KK⟩
  have q8 : 8 ≤ op := by omega
  have q1b : (op == 1) = false := by rw [beq_eq_false_iff_ne]; omega
  have q2b : (op == 2) = false := by rw [beq_eq_false_iff_ne]; omega
  have q3b : (op == 3) = false := by rw [beq_eq_false_iff_ne]; omega
  have q4b : (op == 4) = false := by rw [beq_eq_false_iff_ne]; omega
  have q5b : (op == 5) = false := by rw [beq_eq_false_iff_ne]; omega
  have q6b : (op == 6) = false := by rw [beq_eq_false_iff_ne]; omega
  have q7b : (op == 7) = false := by rw [beq_eq_false_iff_ne]; omega
  have hkl3 : Hid (kids.length = 2) := by show _ = _; rw [hkl2.out, exKids, if_neg (by omega), if_neg (by omega)]
  have hk1 : 1 < kids.length := by rw [hkl3.out]; omega
  have HB2 : Hid ((Ex.mk op mon name n (some ⟨kb, koff, none⟩) cap kids pos).bare = kids[0].txt mf ++ (mt.data.toList ++ kids[1].txt ml)) := by
    show _ = _
    rw [HB.out, ← kid_at kids 0 mf hk0, ← kid_at kids 1 ml hk1]
    simp [bareOf, HM.out, q1, q2, q3, q4, q5, q6, q7]
  have hkl4 : (0 : Int) < (kids.length : Int) := by omega
  have hkl5 : (1 : Int) < (kids.length : Int) := by omega
  have hb2 := subs_both kids hk1
  rcases hx0 : kids[0] with ⟨xop0, xmon0, xname0, xn0, xad0, xcap0, xkids0, xpos0⟩
  have hc0 : ∀ (t' : List UInt8) (W : World) (l : Nat), Kept b W1 W → Sh b m o t' W → t'.length + (100 * (kids[0]).subs.length + 2) ≤ 1000000000000 → Calls Tryz.prog 55 #[.pointer (some ⟨b, 0, none⟩), .agg #[.int .i64 xop0, .string xmon0, .string xname0, .int .i64 xn0, .slice xad0 xkids0.length xcap0, .int .i64 xpos0], .int .i64 (l : Int)] W fun r w' => r = .returned (.tuple #[]) ∧ Sh b m o (t' ++ kids[0].txt l) w' ∧ Kept b W w' := fun t' W l h1 h2 h3 => by
    have := hkids kids[0] (List.getElem_mem _) n₀ b m o l t' W hn ((hIk kids[0] (List.getElem_mem _)).below ((hK1.trans h1).1.mono hn)) h2 h3
    rw [show kids[0].val = Value.agg #[.int .i64 xop0, .string xmon0, .string xname0, .int .i64 xn0, .slice xad0 xkids0.length xcap0, .int .i64 xpos0] by rw [hx0]; rfl] at this
    exact this
  obtain ⟨a00, a01, a02, a03, a04, a05⟩ := row6 hrow 0 (by omega) (by rw [hx0]; rfl)
  clear hx0
  rcases hx1 : kids[1] with ⟨xop1, xmon1, xname1, xn1, xad1, xcap1, xkids1, xpos1⟩
  have hc1 : ∀ (t' : List UInt8) (W : World) (l : Nat), Kept b W1 W → Sh b m o t' W → t'.length + (100 * (kids[1]).subs.length + 2) ≤ 1000000000000 → Calls Tryz.prog 55 #[.pointer (some ⟨b, 0, none⟩), .agg #[.int .i64 xop1, .string xmon1, .string xname1, .int .i64 xn1, .slice xad1 xkids1.length xcap1, .int .i64 xpos1], .int .i64 (l : Int)] W fun r w' => r = .returned (.tuple #[]) ∧ Sh b m o (t' ++ kids[1].txt l) w' ∧ Kept b W w' := fun t' W l h1 h2 h3 => by
    have := hkids kids[1] (List.getElem_mem _) n₀ b m o l t' W hn ((hIk kids[1] (List.getElem_mem _)).below ((hK1.trans h1).1.mono hn)) h2 h3
    rw [show kids[1].val = Value.agg #[.int .i64 xop1, .string xmon1, .string xname1, .int .i64 xn1, .slice xad1 xkids1.length xcap1, .int .i64 xpos1] by rw [hx1]; rfl] at this
    exact this
  obtain ⟨a10, a11, a12, a13, a14, a15⟩ := row6 hrow 1 (by omega) (by rw [hx1]; rfl)
  clear hx1
  simp only [Nat.zero_mul, Nat.one_mul, Nat.add_zero, Nat.add_assoc, Nat.reduceAdd] at a00 a01 a02 a03 a04 a05 a10 a11 a12 a13 a14 a15
  have HK : Hid (∀ W, Kept b W1 W → W.cell? ⟨w.heap.size, 4, none⟩ = some (.slice (some ⟨kb, koff, none⟩) kids.length cap) ∧ W.cell? ⟨w.heap.size + 1, 2, none⟩ = some (.int .i64 (mf : Int)) ∧ W.cell? ⟨kb, koff, none⟩ = some (.int .i64 xop0) ∧ W.cell? ⟨kb, koff + 1, none⟩ = some (.string xmon0) ∧ W.cell? ⟨kb, koff + 2, none⟩ = some (.string xname0) ∧ W.cell? ⟨kb, koff + 3, none⟩ = some (.int .i64 xn0) ∧ W.cell? ⟨kb, koff + 4, none⟩ = some (.slice xad0 xkids0.length xcap0) ∧ W.cell? ⟨kb, koff + 5, none⟩ = some (.int .i64 xpos0)) := fun W hW => by
    obtain ⟨f0, f1, f2, f3, f4, f5⟩ := (show ExBox W w.heap.size _ from hW.box bB1 hne (by decide)).cells
    have g := hW.box bS1 hne1 (by decide)
    exact ⟨f4, cell_of' g 2, (hW.1.cell (p := ⟨kb, _, none⟩) hkb).trans a00, (hW.1.cell (p := ⟨kb, _, none⟩) hkb).trans a01, (hW.1.cell (p := ⟨kb, _, none⟩) hkb).trans a02, (hW.1.cell (p := ⟨kb, _, none⟩) hkb).trans a03, (hW.1.cell (p := ⟨kb, _, none⟩) hkb).trans a04, (hW.1.cell (p := ⟨kb, _, none⟩) hkb).trans a05⟩
  have HJ : Hid (∀ W, Kept b W1 W → W.cell? ⟨w.heap.size, 4, none⟩ = some (.slice (some ⟨kb, koff, none⟩) kids.length cap) ∧ W.cell? ⟨w.heap.size + 1, 3, none⟩ = some (.int .i64 (ml : Int)) ∧ W.cell? ⟨kb, koff + 6, none⟩ = some (.int .i64 xop1) ∧ W.cell? ⟨kb, koff + 7, none⟩ = some (.string xmon1) ∧ W.cell? ⟨kb, koff + 8, none⟩ = some (.string xname1) ∧ W.cell? ⟨kb, koff + 9, none⟩ = some (.int .i64 xn1) ∧ W.cell? ⟨kb, koff + 10, none⟩ = some (.slice xad1 xkids1.length xcap1) ∧ W.cell? ⟨kb, koff + 11, none⟩ = some (.int .i64 xpos1)) := fun W hW => by
    obtain ⟨f0, f1, f2, f3, f4, f5⟩ := (show ExBox W w.heap.size _ from hW.box bB1 hne (by decide)).cells
    have g := hW.box bS1 hne1 (by decide)
    exact ⟨f4, cell_of' g 3, (hW.1.cell (p := ⟨kb, _, none⟩) hkb).trans a10, (hW.1.cell (p := ⟨kb, _, none⟩) hkb).trans a11, (hW.1.cell (p := ⟨kb, _, none⟩) hkb).trans a12, (hW.1.cell (p := ⟨kb, _, none⟩) hkb).trans a13, (hW.1.cell (p := ⟨kb, _, none⟩) hkb).trans a14, (hW.1.cell (p := ⟨kb, _, none⟩) hkb).trans a15⟩
  clear a00 a01 a02 a03 a04 a05 a10 a11 a12 a13 a14 a15
  have hle0 : (kids[0].txt mf).length ≤ 100 * kids[0].subs.length + 2 := by
    have h1 := bare_len kids[0] n₀ w (hIk _ (List.getElem_mem _)) (hoks _ (List.getElem_mem _))
    have h2 := atL_len mf kids[0].opOf kids[0].bare
    unfold Ex.txt; omega
  have hlay : ∀ W, Sh b m o (t ++ kids[0].txt mf) W → Calls Tryz.prog 98 #[.pointer (some ⟨b, 0, none⟩), .slice (some ⟨W.heap.size, 0, none⟩) 1 1] (W.alloc (.cells #[.string mt] 9)) fun e w' => e = .returned (.tuple #[]) ∧ Sh b m o (t ++ kids[0].txt mf ++ mt.data.toList) w' ∧ Kept b W w' := fun W h => by
    have := lay_new [mt] b m o _ W h (by simp) (by simp only [cat, List.flatMap_cons, List.flatMap_nil, List.append_nil, List.length_append]; omega)
    simpa [cat] using this
  have KK := KK.drew
  have s1 := hs1.drew
  go_wp2_with fail
  go_region_held3 (fun W => W.cell? ⟨w.heap.size, 4, none⟩ = some (.slice (some ⟨kb, koff, none⟩) kids.length cap) ∧ W.cell? ⟨w.heap.size + 1, 2, none⟩ = some (.int .i64 (mf : Int)) ∧ W.cell? ⟨kb, koff, none⟩ = some (.int .i64 xop0) ∧ W.cell? ⟨kb, koff + 1, none⟩ = some (.string xmon0) ∧ W.cell? ⟨kb, koff + 2, none⟩ = some (.string xname0) ∧ W.cell? ⟨kb, koff + 3, none⟩ = some (.int .i64 xn0) ∧ W.cell? ⟨kb, koff + 4, none⟩ = some (.slice xad0 xkids0.length xcap0) ∧ W.cell? ⟨kb, koff + 5, none⟩ = some (.int .i64 xpos0)) (exact HK.out _ KK)
      ((go_at_call 55; refine (hc0 t _ mf KK s1 (by (try simp only [List.length_append]); omega)).mono ?_; rintro r u3 ⟨rfl, su3, ku3⟩; have KK := KK.trans ku3))
  have m0b := cell_of' (KK.box bS1 hne1 (by decide)) 0
  simp at m0b
  go_wp2_with (go_at_call 98; refine (hlay _ su3).mono ?_; rintro e w4 ⟨rfl, s4, k4⟩)
  have KK := (KK.trans k4).drew
  have s4 := s4.drew
  go_wp2_with fail
  go_region_held3 (fun W => W.cell? ⟨w.heap.size, 4, none⟩ = some (.slice (some ⟨kb, koff, none⟩) kids.length cap) ∧ W.cell? ⟨w.heap.size + 1, 3, none⟩ = some (.int .i64 (ml : Int)) ∧ W.cell? ⟨kb, koff + 6, none⟩ = some (.int .i64 xop1) ∧ W.cell? ⟨kb, koff + 7, none⟩ = some (.string xmon1) ∧ W.cell? ⟨kb, koff + 8, none⟩ = some (.string xname1) ∧ W.cell? ⟨kb, koff + 9, none⟩ = some (.int .i64 xn1) ∧ W.cell? ⟨kb, koff + 10, none⟩ = some (.slice xad1 xkids1.length xcap1) ∧ W.cell? ⟨kb, koff + 11, none⟩ = some (.int .i64 xpos1)) (exact HJ.out _ KK)
      ((go_at_call 55; refine (hc1 (t ++ kids[0].txt mf ++ mt.data.toList) _ ml KK s4 (by (try simp only [List.length_append]); omega)).mono ?_; rintro r u5 ⟨rfl, su5, ku5⟩; have KK := KK.trans ku5))
  go_wp2
  go_end0
  exact ⟨rfl, by rw [HB2.out, ← List.append_assoc, ← List.append_assoc]; exact su5, hK1.trans KK⟩
theorem expr_any (e : Ex) : e.ok = true → ExprLays e := by
  induction e using Ex.ind with
  | h op mon name n ad cap kids pos ih =>
    intro hok
    exact p_expr_of _ hok (bare_of _ hok (fun x hx => ih x hx ((Ex.ok_mk hok).2 x hx)))
end Go.Proofs.YtaekbgljbgmchaaGreatDoor
namespace Go.Proofs.YtaekbgljbgmchaaGreatDoor
open Go.RowKit Px
theorem wrap_id (x : Int) (h1 : -9223372036854775808 ≤ x) (h2 : x ≤ 9223372036854775807) : IntKind.i64.wrap x = x := by
  rw [IntKind.wrap_i64]; omega
set_option maxRecDepth 100000 in
set_option maxHeartbeats 4000000 in
theorem nest_any (e : Ex) : ∀ (n₀ m l : Nat) (w : World), n₀ ≤ w.heap.size → e.Is n₀ w → SignsAt w m → e.subs.length ≤ 1000000 →
    Calls Tryz.prog 54 #[.map (some m), e.val, .int .i64 (l : Int)] w fun r w' => r = .returned (.int .i64 ((e.nest l : Nat) : Int)) ∧ Below w.heap.size w w' := by
  induction e using Ex.ind with
  | h op mon name n ad cap kids pos ih =>
  intro n₀ m l w hn hI hs hlen
  have hml := hs.lt
  obtain ⟨mt, mo, mf, ml, hm⟩ : ∃ mt mo mf ml, sgnOf op = (mt, mo, mf, ml) := ⟨_, _, _, _, rfl⟩
  have HM := hid hm
  have hl0 : ∀ W, SignsAt W m → (Instr.lookup 91 (.map (some m)) (.int .i64 op) false).run Tryz.prog W = .ok (.agg #[.string mt, .int .i64 (mo : Int), .int .i64 (mf : Int), .int .i64 (ml : Int)]) W := fun W h => by
    rw [lookup_one h op, hm]; rfl
  clear hm
  have bB : ExBox (w.alloc (.cells #[.int .i64 op, .string mon, .string name, .int .i64 n, .slice ad kids.length cap, .int .i64 pos] 25)) w.heap.size (.mk op mon name n ad cap kids pos) := ExBox.new w (.mk op mon name n ad cap kids pos)
  have hB0 : Below n₀ w (w.alloc (.cells #[.int .i64 op, .string mon, .string name, .int .i64 n, .slice ad kids.length cap, .int .i64 pos] 25)) := (Below.refl _ w).al hn _
  have hB9 : Below w.heap.size w (w.alloc (.cells #[.int .i64 op, .string mon, .string name, .int .i64 n, .slice ad kids.length cap, .int .i64 pos] 25)) := (Below.refl _ w).al le_rfl' _
  have hs0 := hs.below hB9 hml
  have hz0 : (w.alloc (.cells #[.int .i64 op, .string mon, .string name, .int .i64 n, .slice ad kids.length cap, .int .i64 pos] 25)).heap.size = w.heap.size + 1 := by simp
  have hIk := hI.down.2.2
  have hsl := hI.down.2.1
  have hl1 := hsl.1; have hl2 := hsl.2.1
  unfold maxLen at hl2
  rw [Ex.subs_mk, List.length_cons] at hlen
  simp only [Ex.val, Ex.cells]
  go_enter Tryz.func54, Tryz.ntmps54
  go_wp2_with fail
  obtain ⟨W0, hW0⟩ : ∃ W0, w.alloc (.cells #[.int .i64 op, .string mon, .string name, .int .i64 n, .slice ad kids.length cap, .int .i64 pos] 25) = W0 := ⟨_, rfl⟩
  rw [hW0] at bB hB0 hB9 hs0 hz0 ⊢
  clear hW0
  obtain ⟨d0, d1, d2, d3, d4, d5⟩ := bB.cells
  have hq := p_enclosed_any m op l W0 hs0
  cases henc : decide ((own op : Int) < l)
  · rw [henc] at hq
    have HN : Hid (∀ ad : Option Addr, (Ex.mk op mon name n ad cap kids pos).nest l = 0 + (Ex.mk op mon name n ad cap kids pos).nst) := fun ad => by
      have := of_decide_eq_false henc
      rw [Ex.nest, nestL]
      show (if own op < l then 1 else 0) + _ = _
      rw [if_neg (by omega)]
    clear henc
    by_cases hk1 : kids.length = 1
    · have hk1b : ((kids.length : Int) == 1) = true := by rw [beq_iff_eq]; omega
      have HKL := hid hk1
      have hk0 : 0 < kids.length := by omega
      have hk0' : (0 : Int) < (kids.length : Int) := by omega
      have hbk0 : kids[0].subs.length ≤ 1000000 := by have := subs_one kids hk0; omega
      obtain ⟨kb, koff, rfl, hkb0, hrow0⟩ := hsl.2.2.resolve_left (by intro h; rw [h] at hk0; simp at hk0)
      clear hk1
      go_wp2_with (go_at_call 97; (refine hq.mono ?_; rintro e u1 ⟨rfl, B⟩; have hs1 := hs0.below B (by omega); have l1 := hl0 u1 hs1; have bB1 := bB.below B (by omega); obtain ⟨d0, d1, d2, d3, d4, d5⟩ := bB1.cells; have hz1 := B.size; have d4b := fun o => ((bB1.below ((Below.refl _ u1).al le_rfl' o) (by omega)).cells).2.2.2.2.1))
      have hB : Below n₀ w (u1.alloc (.cells #[.string mt, .int .i64 (mo : Int), .int .i64 (mf : Int), .int .i64 (ml : Int)] 137)) := ((hB0.trans (B.mono (by omega))).al hn _)
      have hB9 : Below w.heap.size w (u1.alloc (.cells #[.string mt, .int .i64 (mo : Int), .int .i64 (mf : Int), .int .i64 (ml : Int)] 137)) := ((hB9.trans (B.mono (by omega))).al le_rfl' _)
      have hs1 := hs1.below ((Below.refl _ u1).al le_rfl' (.cells #[.string mt, .int .i64 (mo : Int), .int .i64 (mf : Int), .int .i64 (ml : Int)] 137)) (by omega)
      have bB1 := bB1.below ((Below.refl _ u1).al le_rfl' (.cells #[.string mt, .int .i64 (mo : Int), .int .i64 (mf : Int), .int .i64 (ml : Int)] 137)) (by omega)
      have bS1 : (u1.alloc (.cells #[.string mt, .int .i64 (mo : Int), .int .i64 (mf : Int), .int .i64 (ml : Int)] 137)).heap[u1.heap.size]? = some (.cells #[.string mt, .int .i64 (mo : Int), .int .i64 (mf : Int), .int .i64 (ml : Int)] 137 (0, 0)) := heap_alloc_new u1 _
      have hzz : (u1.alloc (.cells #[.string mt, .int .i64 (mo : Int), .int .i64 (mf : Int), .int .i64 (ml : Int)] 137)).heap.size = u1.heap.size + 1 := by simp
      obtain ⟨Bs, hBs⟩ : ∃ Bs, u1.heap.size = Bs := ⟨_, rfl⟩
      obtain ⟨W1, hW1⟩ : ∃ W1, u1.alloc (.cells #[.string mt, .int .i64 (mo : Int), .int .i64 (mf : Int), .int .i64 (ml : Int)] 137) = W1 := ⟨_, rfl⟩
      rw [hW1] at hB hB9 hs1 bB1 bS1 hzz ⊢
      rw [hBs] at bS1 hzz hz1 ⊢
      have hkb : kb < W1.heap.size := by omega
      have hrow := hrow0.below hB hkb0
      clear hBs hW1 l1 d0 d1 d2 d3 d4 d5 d4b hq B
      rcases hx0 : kids[0] with ⟨xop0, xmon0, xname0, xn0, xad0, xcap0, xkids0, xpos0⟩
      obtain ⟨y0, hy0⟩ : ∃ y, kids[0].nest ml = y := ⟨_, rfl⟩
      have hyl0 : y0 ≤ 4000000 := by
        have h1 := nst_le kids[0]
        have h2 := hbk0
        rw [← hy0]
        unfold Ex.nest nestL
        split <;> omega
      have hc0 : ∀ (W : World), Below W1.heap.size W1 W → Calls Tryz.prog 54 #[.map (some m), .agg #[.int .i64 xop0, .string xmon0, .string xname0, .int .i64 xn0, .slice xad0 xkids0.length xcap0, .int .i64 xpos0], .int .i64 (ml : Int)] W fun r w' => r = .returned (.int .i64 (y0 : Int)) ∧ Below W.heap.size W w' := fun W h1 => by
        have := ih kids[0] (List.getElem_mem _) n₀ m ml W (by have := h1.size; omega) ((hIk kids[0] (List.getElem_mem _)).below (hB.trans (h1.mono (by omega)))) (hs1.below h1 (by omega)) (by omega)
        rw [show kids[0].val = Value.agg #[.int .i64 xop0, .string xmon0, .string xname0, .int .i64 xn0, .slice xad0 xkids0.length xcap0, .int .i64 xpos0] by rw [hx0]; rfl, hy0] at this
        exact this
      obtain ⟨a00, a01, a02, a03, a04, a05⟩ := row6 hrow 0 (by omega) (by rw [hx0]; rfl)
      have HY0 := hid hy0
      clear hx0 hy0
      simp only [Nat.zero_mul, Nat.add_zero] at a00 a01 a02 a03 a04 a05
      have HK : Hid (∀ W, Below W1.heap.size W1 W → W.cell? ⟨w.heap.size, 4, none⟩ = some (.slice (some ⟨kb, koff, none⟩) kids.length cap) ∧ W.cell? ⟨Bs, 2, none⟩ = some (.int .i64 (mf : Int)) ∧ W.cell? ⟨Bs, 3, none⟩ = some (.int .i64 (ml : Int)) ∧ W.cell? ⟨kb, koff, none⟩ = some (.int .i64 xop0) ∧ W.cell? ⟨kb, koff + 1, none⟩ = some (.string xmon0) ∧ W.cell? ⟨kb, koff + 2, none⟩ = some (.string xname0) ∧ W.cell? ⟨kb, koff + 3, none⟩ = some (.int .i64 xn0) ∧ W.cell? ⟨kb, koff + 4, none⟩ = some (.slice xad0 xkids0.length xcap0) ∧ W.cell? ⟨kb, koff + 5, none⟩ = some (.int .i64 xpos0)) := fun W hW => by
        obtain ⟨f0, f1, f2, f3, f4, f5⟩ := (bB1.below hW (by omega)).cells
        have g := (hW.block Bs (by omega)).trans bS1
        exact ⟨f4, cell_of' g 2, cell_of' g 3, (hW.cell (p := ⟨kb, _, none⟩) hkb).trans a00, (hW.cell (p := ⟨kb, _, none⟩) hkb).trans a01, (hW.cell (p := ⟨kb, _, none⟩) hkb).trans a02, (hW.cell (p := ⟨kb, _, none⟩) hkb).trans a03, (hW.cell (p := ⟨kb, _, none⟩) hkb).trans a04, (hW.cell (p := ⟨kb, _, none⟩) hkb).trans a05⟩
      have HZZ := hid hzz
      clear a00 a01 a02 a03 a04 a05 hzz
      have B := below_drewE (Below.refl W1.heap.size W1)
      have HR : Hid ((Ex.mk op mon name n (some ⟨kb, koff, none⟩) cap kids pos).nest l = 0 + (1 + y0)) := by
        show _ = _
        rw [HN.out, Ex.nst_mk, nestOf, if_pos (by rw [List.length_map]; exact HKL.out), nkid_at kids 0 _ hk0, HM.out]
        show _ + (1 + kids[0].nest ml) = _
        rw [HY0.out]
      go_region_held3 (fun W => W.cell? ⟨w.heap.size, 4, none⟩ = some (.slice (some ⟨kb, koff, none⟩) kids.length cap) ∧ W.cell? ⟨Bs, 2, none⟩ = some (.int .i64 (mf : Int)) ∧ W.cell? ⟨Bs, 3, none⟩ = some (.int .i64 (ml : Int)) ∧ W.cell? ⟨kb, koff, none⟩ = some (.int .i64 xop0) ∧ W.cell? ⟨kb, koff + 1, none⟩ = some (.string xmon0) ∧ W.cell? ⟨kb, koff + 2, none⟩ = some (.string xname0) ∧ W.cell? ⟨kb, koff + 3, none⟩ = some (.int .i64 xn0) ∧ W.cell? ⟨kb, koff + 4, none⟩ = some (.slice xad0 xkids0.length xcap0) ∧ W.cell? ⟨kb, koff + 5, none⟩ = some (.int .i64 xpos0)) (exact HK.out _ B) ((go_at_call 54; with_reducible refine (hc0 _ B).mono ?_; rintro r u0 ⟨rfl, bb⟩; have B := B.tr le_rfl' bb))
      go_wp2
      go_ret
      have e1 : IntKind.i64.wrap (IntKind.i64.wrap (1 + (y0 : Int))) = ((0 + (1 + y0) : Nat) : Int) := by rw [wrap_id (1 + (y0 : Int)) (by omega) (by omega), wrap_id _ (by omega) (by omega)]; omega
      exact ⟨by rw [HR.out, ← e1]; rfl, hB9.trans (B.mono (by have := HZZ.out; omega))⟩
    by_cases hk2 : kids.length = 2
    · have hk1b : ((kids.length : Int) == 1) = false := by rw [beq_eq_false_iff_ne]; omega
      have hk2b : ((kids.length : Int) == 2) = true := by rw [beq_iff_eq]; omega
      have HKL := hid hk2
      have hk0 : 0 < kids.length := by omega
      have hk0' : (0 : Int) < (kids.length : Int) := by omega
      have hk1' : (1 : Int) < (kids.length : Int) := by omega
      have hkx : 1 < kids.length := by omega
      have hbk0 : kids[0].subs.length ≤ 1000000 := by have := subs_both kids hkx; omega
      have hbk1 : kids[1].subs.length ≤ 1000000 := by have := subs_both kids hkx; omega
      obtain ⟨kb, koff, rfl, hkb0, hrow0⟩ := hsl.2.2.resolve_left (by intro h; rw [h] at hk0; simp at hk0)
      clear hk2 hk1
      go_wp2_with (go_at_call 97; (refine hq.mono ?_; rintro e u1 ⟨rfl, B⟩; have hs1 := hs0.below B (by omega); have l1 := hl0 u1 hs1; have bB1 := bB.below B (by omega); obtain ⟨d0, d1, d2, d3, d4, d5⟩ := bB1.cells; have hz1 := B.size; have d4b := fun o => ((bB1.below ((Below.refl _ u1).al le_rfl' o) (by omega)).cells).2.2.2.2.1))
      have hB : Below n₀ w (u1.alloc (.cells #[.string mt, .int .i64 (mo : Int), .int .i64 (mf : Int), .int .i64 (ml : Int)] 137)) := ((hB0.trans (B.mono (by omega))).al hn _)
      have hB9 : Below w.heap.size w (u1.alloc (.cells #[.string mt, .int .i64 (mo : Int), .int .i64 (mf : Int), .int .i64 (ml : Int)] 137)) := ((hB9.trans (B.mono (by omega))).al le_rfl' _)
      have hs1 := hs1.below ((Below.refl _ u1).al le_rfl' (.cells #[.string mt, .int .i64 (mo : Int), .int .i64 (mf : Int), .int .i64 (ml : Int)] 137)) (by omega)
      have bB1 := bB1.below ((Below.refl _ u1).al le_rfl' (.cells #[.string mt, .int .i64 (mo : Int), .int .i64 (mf : Int), .int .i64 (ml : Int)] 137)) (by omega)
      have bS1 : (u1.alloc (.cells #[.string mt, .int .i64 (mo : Int), .int .i64 (mf : Int), .int .i64 (ml : Int)] 137)).heap[u1.heap.size]? = some (.cells #[.string mt, .int .i64 (mo : Int), .int .i64 (mf : Int), .int .i64 (ml : Int)] 137 (0, 0)) := heap_alloc_new u1 _
      have hzz : (u1.alloc (.cells #[.string mt, .int .i64 (mo : Int), .int .i64 (mf : Int), .int .i64 (ml : Int)] 137)).heap.size = u1.heap.size + 1 := by simp
      obtain ⟨Bs, hBs⟩ : ∃ Bs, u1.heap.size = Bs := ⟨_, rfl⟩
      obtain ⟨W1, hW1⟩ : ∃ W1, u1.alloc (.cells #[.string mt, .int .i64 (mo : Int), .int .i64 (mf : Int), .int .i64 (ml : Int)] 137) = W1 := ⟨_, rfl⟩
      rw [hW1] at hB hB9 hs1 bB1 bS1 hzz ⊢
      rw [hBs] at bS1 hzz hz1 ⊢
      have hkb : kb < W1.heap.size := by omega
      have hrow := hrow0.below hB hkb0
      clear hBs hW1 l1 d0 d1 d2 d3 d4 d5 d4b hq B
      rcases hx0 : kids[0] with ⟨xop0, xmon0, xname0, xn0, xad0, xcap0, xkids0, xpos0⟩
      obtain ⟨y0, hy0⟩ : ∃ y, kids[0].nest mf = y := ⟨_, rfl⟩
      have hyl0 : y0 ≤ 4000000 := by
        have h1 := nst_le kids[0]
        have h2 := hbk0
        rw [← hy0]
        unfold Ex.nest nestL
        split <;> omega
      have hc0 : ∀ (W : World), Below W1.heap.size W1 W → Calls Tryz.prog 54 #[.map (some m), .agg #[.int .i64 xop0, .string xmon0, .string xname0, .int .i64 xn0, .slice xad0 xkids0.length xcap0, .int .i64 xpos0], .int .i64 (mf : Int)] W fun r w' => r = .returned (.int .i64 (y0 : Int)) ∧ Below W.heap.size W w' := fun W h1 => by
        have := ih kids[0] (List.getElem_mem _) n₀ m mf W (by have := h1.size; omega) ((hIk kids[0] (List.getElem_mem _)).below (hB.trans (h1.mono (by omega)))) (hs1.below h1 (by omega)) (by omega)
        rw [show kids[0].val = Value.agg #[.int .i64 xop0, .string xmon0, .string xname0, .int .i64 xn0, .slice xad0 xkids0.length xcap0, .int .i64 xpos0] by rw [hx0]; rfl, hy0] at this
        exact this
      obtain ⟨a00, a01, a02, a03, a04, a05⟩ := row6 hrow 0 (by omega) (by rw [hx0]; rfl)
      have HY0 := hid hy0
      clear hx0 hy0
      rcases hx1 : kids[1] with ⟨xop1, xmon1, xname1, xn1, xad1, xcap1, xkids1, xpos1⟩
      obtain ⟨y1, hy1⟩ : ∃ y, kids[1].nest ml = y := ⟨_, rfl⟩
      have hyl1 : y1 ≤ 4000000 := by
        have h1 := nst_le kids[1]
        have h2 := hbk1
        rw [← hy1]
        unfold Ex.nest nestL
        split <;> omega
      have hc1 : ∀ (W : World), Below W1.heap.size W1 W → Calls Tryz.prog 54 #[.map (some m), .agg #[.int .i64 xop1, .string xmon1, .string xname1, .int .i64 xn1, .slice xad1 xkids1.length xcap1, .int .i64 xpos1], .int .i64 (ml : Int)] W fun r w' => r = .returned (.int .i64 (y1 : Int)) ∧ Below W.heap.size W w' := fun W h1 => by
        have := ih kids[1] (List.getElem_mem _) n₀ m ml W (by have := h1.size; omega) ((hIk kids[1] (List.getElem_mem _)).below (hB.trans (h1.mono (by omega)))) (hs1.below h1 (by omega)) (by omega)
        rw [show kids[1].val = Value.agg #[.int .i64 xop1, .string xmon1, .string xname1, .int .i64 xn1, .slice xad1 xkids1.length xcap1, .int .i64 xpos1] by rw [hx1]; rfl, hy1] at this
        exact this
      obtain ⟨a10, a11, a12, a13, a14, a15⟩ := row6 hrow 1 (by omega) (by rw [hx1]; rfl)
      have HY1 := hid hy1
      clear hx1 hy1
      simp only [Nat.zero_mul, Nat.one_mul, Nat.add_zero, Nat.add_assoc, Nat.reduceAdd] at a00 a01 a02 a03 a04 a05 a10 a11 a12 a13 a14 a15
      have HK : Hid (∀ W, Below W1.heap.size W1 W → W.cell? ⟨w.heap.size, 4, none⟩ = some (.slice (some ⟨kb, koff, none⟩) kids.length cap) ∧ W.cell? ⟨Bs, 2, none⟩ = some (.int .i64 (mf : Int)) ∧ W.cell? ⟨Bs, 3, none⟩ = some (.int .i64 (ml : Int)) ∧ W.cell? ⟨kb, koff, none⟩ = some (.int .i64 xop0) ∧ W.cell? ⟨kb, koff + 1, none⟩ = some (.string xmon0) ∧ W.cell? ⟨kb, koff + 2, none⟩ = some (.string xname0) ∧ W.cell? ⟨kb, koff + 3, none⟩ = some (.int .i64 xn0) ∧ W.cell? ⟨kb, koff + 4, none⟩ = some (.slice xad0 xkids0.length xcap0) ∧ W.cell? ⟨kb, koff + 5, none⟩ = some (.int .i64 xpos0) ∧ W.cell? ⟨kb, koff + 6, none⟩ = some (.int .i64 xop1) ∧ W.cell? ⟨kb, koff + 7, none⟩ = some (.string xmon1) ∧ W.cell? ⟨kb, koff + 8, none⟩ = some (.string xname1) ∧ W.cell? ⟨kb, koff + 9, none⟩ = some (.int .i64 xn1) ∧ W.cell? ⟨kb, koff + 10, none⟩ = some (.slice xad1 xkids1.length xcap1) ∧ W.cell? ⟨kb, koff + 11, none⟩ = some (.int .i64 xpos1)) := fun W hW => by
        obtain ⟨f0, f1, f2, f3, f4, f5⟩ := (bB1.below hW (by omega)).cells
        have g := (hW.block Bs (by omega)).trans bS1
        exact ⟨f4, cell_of' g 2, cell_of' g 3, (hW.cell (p := ⟨kb, _, none⟩) hkb).trans a00, (hW.cell (p := ⟨kb, _, none⟩) hkb).trans a01, (hW.cell (p := ⟨kb, _, none⟩) hkb).trans a02, (hW.cell (p := ⟨kb, _, none⟩) hkb).trans a03, (hW.cell (p := ⟨kb, _, none⟩) hkb).trans a04, (hW.cell (p := ⟨kb, _, none⟩) hkb).trans a05, (hW.cell (p := ⟨kb, _, none⟩) hkb).trans a10, (hW.cell (p := ⟨kb, _, none⟩) hkb).trans a11, (hW.cell (p := ⟨kb, _, none⟩) hkb).trans a12, (hW.cell (p := ⟨kb, _, none⟩) hkb).trans a13, (hW.cell (p := ⟨kb, _, none⟩) hkb).trans a14, (hW.cell (p := ⟨kb, _, none⟩) hkb).trans a15⟩
      have HZZ := hid hzz
      clear a00 a01 a02 a03 a04 a05 a10 a11 a12 a13 a14 a15 hzz
      have B := below_drewE (Below.refl W1.heap.size W1)
      have HR : Hid ((Ex.mk op mon name n (some ⟨kb, koff, none⟩) cap kids pos).nest l = 0 + max y0 y1) := by
        show _ = _
        rw [HN.out, Ex.nst_mk, nestOf, if_neg (by rw [List.length_map, HKL.out]; omega), if_pos (by rw [List.length_map]; exact HKL.out), nkid_at kids 0 _ hk0, nkid_at kids 1 _ hkx, HM.out]
        show _ + max (kids[0].nest mf) (kids[1].nest ml) = _
        rw [HY0.out, HY1.out]
      go_region_held3 (fun W => W.cell? ⟨w.heap.size, 4, none⟩ = some (.slice (some ⟨kb, koff, none⟩) kids.length cap) ∧ W.cell? ⟨Bs, 2, none⟩ = some (.int .i64 (mf : Int)) ∧ W.cell? ⟨Bs, 3, none⟩ = some (.int .i64 (ml : Int)) ∧ W.cell? ⟨kb, koff, none⟩ = some (.int .i64 xop0) ∧ W.cell? ⟨kb, koff + 1, none⟩ = some (.string xmon0) ∧ W.cell? ⟨kb, koff + 2, none⟩ = some (.string xname0) ∧ W.cell? ⟨kb, koff + 3, none⟩ = some (.int .i64 xn0) ∧ W.cell? ⟨kb, koff + 4, none⟩ = some (.slice xad0 xkids0.length xcap0) ∧ W.cell? ⟨kb, koff + 5, none⟩ = some (.int .i64 xpos0) ∧ W.cell? ⟨kb, koff + 6, none⟩ = some (.int .i64 xop1) ∧ W.cell? ⟨kb, koff + 7, none⟩ = some (.string xmon1) ∧ W.cell? ⟨kb, koff + 8, none⟩ = some (.string xname1) ∧ W.cell? ⟨kb, koff + 9, none⟩ = some (.int .i64 xn1) ∧ W.cell? ⟨kb, koff + 10, none⟩ = some (.slice xad1 xkids1.length xcap1) ∧ W.cell? ⟨kb, koff + 11, none⟩ = some (.int .i64 xpos1)) (exact HK.out _ B) (first | (go_at_call 54; with_reducible refine (hc0 _ B).mono ?_; rintro r u0 ⟨rfl, bb⟩; have B := B.tr le_rfl' bb) | (go_at_call 54; with_reducible refine (hc1 _ B).mono ?_; rintro r u1 ⟨rfl, bb⟩; have B := B.tr le_rfl' bb))
      all_goals go_wp2
      all_goals go_ret
      all_goals have e1 : IntKind.i64.wrap (max (y0 : Int) y1) = ((0 + max y0 y1 : Nat) : Int) := by rw [wrap_id _ (by omega) (by omega)]; omega
      all_goals exact ⟨by rw [HR.out, ← e1]; rfl, hB9.trans (B.mono (by have := HZZ.out; omega))⟩
    · have hk1b : ((kids.length : Int) == 1) = false := by rw [beq_eq_false_iff_ne]; omega
      have hk2b : ((kids.length : Int) == 2) = false := by rw [beq_eq_false_iff_ne]; omega
      have HR : Hid ((Ex.mk op mon name n ad cap kids pos).nest l = 0) := by
        show _ = _
        rw [HN.out, Ex.nst_mk, nestOf, if_neg (by rw [List.length_map]; exact hk1), if_neg (by rw [List.length_map]; exact hk2)]
      go_wp2_with (go_at_call 97; (refine hq.mono ?_; rintro e u1 ⟨rfl, B⟩; have hs1 := hs0.below B (by omega); have l1 := hl0 u1 hs1; have bB1 := bB.below B (by omega); obtain ⟨d0, d1, d2, d3, d4, d5⟩ := bB1.cells; have hz1 := B.size; have d4b := fun o => ((bB1.below ((Below.refl _ u1).al le_rfl' o) (by omega)).cells).2.2.2.2.1))
      go_ret
      exact ⟨by rw [HR.out]; rfl, (hB9.trans (B.mono (by omega))).al le_rfl' _⟩
  · rw [henc] at hq
    have HN : Hid (∀ ad : Option Addr, (Ex.mk op mon name n ad cap kids pos).nest l = 1 + (Ex.mk op mon name n ad cap kids pos).nst) := fun ad => by
      have := of_decide_eq_true henc
      rw [Ex.nest, nestL]
      show (if own op < l then 1 else 0) + _ = _
      rw [if_pos (by omega)]
    clear henc
    by_cases hk1 : kids.length = 1
    · have hk1b : ((kids.length : Int) == 1) = true := by rw [beq_iff_eq]; omega
      have HKL := hid hk1
      have hk0 : 0 < kids.length := by omega
      have hk0' : (0 : Int) < (kids.length : Int) := by omega
      have hbk0 : kids[0].subs.length ≤ 1000000 := by have := subs_one kids hk0; omega
      obtain ⟨kb, koff, rfl, hkb0, hrow0⟩ := hsl.2.2.resolve_left (by intro h; rw [h] at hk0; simp at hk0)
      clear hk1
      go_wp2_with (go_at_call 97; (refine hq.mono ?_; rintro e u1 ⟨rfl, B⟩; have hs1 := hs0.below B (by omega); have l1 := hl0 u1 hs1; have bB1 := bB.below B (by omega); obtain ⟨d0, d1, d2, d3, d4, d5⟩ := bB1.cells; have hz1 := B.size; have d4b := fun o => ((bB1.below ((Below.refl _ u1).al le_rfl' o) (by omega)).cells).2.2.2.2.1))
      have hB : Below n₀ w (u1.alloc (.cells #[.string mt, .int .i64 (mo : Int), .int .i64 (mf : Int), .int .i64 (ml : Int)] 137)) := ((hB0.trans (B.mono (by omega))).al hn _)
      have hB9 : Below w.heap.size w (u1.alloc (.cells #[.string mt, .int .i64 (mo : Int), .int .i64 (mf : Int), .int .i64 (ml : Int)] 137)) := ((hB9.trans (B.mono (by omega))).al le_rfl' _)
      have hs1 := hs1.below ((Below.refl _ u1).al le_rfl' (.cells #[.string mt, .int .i64 (mo : Int), .int .i64 (mf : Int), .int .i64 (ml : Int)] 137)) (by omega)
      have bB1 := bB1.below ((Below.refl _ u1).al le_rfl' (.cells #[.string mt, .int .i64 (mo : Int), .int .i64 (mf : Int), .int .i64 (ml : Int)] 137)) (by omega)
      have bS1 : (u1.alloc (.cells #[.string mt, .int .i64 (mo : Int), .int .i64 (mf : Int), .int .i64 (ml : Int)] 137)).heap[u1.heap.size]? = some (.cells #[.string mt, .int .i64 (mo : Int), .int .i64 (mf : Int), .int .i64 (ml : Int)] 137 (0, 0)) := heap_alloc_new u1 _
      have hzz : (u1.alloc (.cells #[.string mt, .int .i64 (mo : Int), .int .i64 (mf : Int), .int .i64 (ml : Int)] 137)).heap.size = u1.heap.size + 1 := by simp
      obtain ⟨Bs, hBs⟩ : ∃ Bs, u1.heap.size = Bs := ⟨_, rfl⟩
      obtain ⟨W1, hW1⟩ : ∃ W1, u1.alloc (.cells #[.string mt, .int .i64 (mo : Int), .int .i64 (mf : Int), .int .i64 (ml : Int)] 137) = W1 := ⟨_, rfl⟩
      rw [hW1] at hB hB9 hs1 bB1 bS1 hzz ⊢
      rw [hBs] at bS1 hzz hz1 ⊢
      have hkb : kb < W1.heap.size := by omega
      have hrow := hrow0.below hB hkb0
      clear hBs hW1 l1 d0 d1 d2 d3 d4 d5 d4b hq B
      rcases hx0 : kids[0] with ⟨xop0, xmon0, xname0, xn0, xad0, xcap0, xkids0, xpos0⟩
      obtain ⟨y0, hy0⟩ : ∃ y, kids[0].nest ml = y := ⟨_, rfl⟩
      have hyl0 : y0 ≤ 4000000 := by
        have h1 := nst_le kids[0]
        have h2 := hbk0
        rw [← hy0]
        unfold Ex.nest nestL
        split <;> omega
      have hc0 : ∀ (W : World), Below W1.heap.size W1 W → Calls Tryz.prog 54 #[.map (some m), .agg #[.int .i64 xop0, .string xmon0, .string xname0, .int .i64 xn0, .slice xad0 xkids0.length xcap0, .int .i64 xpos0], .int .i64 (ml : Int)] W fun r w' => r = .returned (.int .i64 (y0 : Int)) ∧ Below W.heap.size W w' := fun W h1 => by
        have := ih kids[0] (List.getElem_mem _) n₀ m ml W (by have := h1.size; omega) ((hIk kids[0] (List.getElem_mem _)).below (hB.trans (h1.mono (by omega)))) (hs1.below h1 (by omega)) (by omega)
        rw [show kids[0].val = Value.agg #[.int .i64 xop0, .string xmon0, .string xname0, .int .i64 xn0, .slice xad0 xkids0.length xcap0, .int .i64 xpos0] by rw [hx0]; rfl, hy0] at this
        exact this
      obtain ⟨a00, a01, a02, a03, a04, a05⟩ := row6 hrow 0 (by omega) (by rw [hx0]; rfl)
      have HY0 := hid hy0
      clear hx0 hy0
      simp only [Nat.zero_mul, Nat.add_zero] at a00 a01 a02 a03 a04 a05
      have HK : Hid (∀ W, Below W1.heap.size W1 W → W.cell? ⟨w.heap.size, 4, none⟩ = some (.slice (some ⟨kb, koff, none⟩) kids.length cap) ∧ W.cell? ⟨Bs, 2, none⟩ = some (.int .i64 (mf : Int)) ∧ W.cell? ⟨Bs, 3, none⟩ = some (.int .i64 (ml : Int)) ∧ W.cell? ⟨kb, koff, none⟩ = some (.int .i64 xop0) ∧ W.cell? ⟨kb, koff + 1, none⟩ = some (.string xmon0) ∧ W.cell? ⟨kb, koff + 2, none⟩ = some (.string xname0) ∧ W.cell? ⟨kb, koff + 3, none⟩ = some (.int .i64 xn0) ∧ W.cell? ⟨kb, koff + 4, none⟩ = some (.slice xad0 xkids0.length xcap0) ∧ W.cell? ⟨kb, koff + 5, none⟩ = some (.int .i64 xpos0)) := fun W hW => by
        obtain ⟨f0, f1, f2, f3, f4, f5⟩ := (bB1.below hW (by omega)).cells
        have g := (hW.block Bs (by omega)).trans bS1
        exact ⟨f4, cell_of' g 2, cell_of' g 3, (hW.cell (p := ⟨kb, _, none⟩) hkb).trans a00, (hW.cell (p := ⟨kb, _, none⟩) hkb).trans a01, (hW.cell (p := ⟨kb, _, none⟩) hkb).trans a02, (hW.cell (p := ⟨kb, _, none⟩) hkb).trans a03, (hW.cell (p := ⟨kb, _, none⟩) hkb).trans a04, (hW.cell (p := ⟨kb, _, none⟩) hkb).trans a05⟩
      have HZZ := hid hzz
      clear a00 a01 a02 a03 a04 a05 hzz
      have B := below_drewE (Below.refl W1.heap.size W1)
      have HR : Hid ((Ex.mk op mon name n (some ⟨kb, koff, none⟩) cap kids pos).nest l = 1 + (1 + y0)) := by
        show _ = _
        rw [HN.out, Ex.nst_mk, nestOf, if_pos (by rw [List.length_map]; exact HKL.out), nkid_at kids 0 _ hk0, HM.out]
        show _ + (1 + kids[0].nest ml) = _
        rw [HY0.out]
      go_region_held3 (fun W => W.cell? ⟨w.heap.size, 4, none⟩ = some (.slice (some ⟨kb, koff, none⟩) kids.length cap) ∧ W.cell? ⟨Bs, 2, none⟩ = some (.int .i64 (mf : Int)) ∧ W.cell? ⟨Bs, 3, none⟩ = some (.int .i64 (ml : Int)) ∧ W.cell? ⟨kb, koff, none⟩ = some (.int .i64 xop0) ∧ W.cell? ⟨kb, koff + 1, none⟩ = some (.string xmon0) ∧ W.cell? ⟨kb, koff + 2, none⟩ = some (.string xname0) ∧ W.cell? ⟨kb, koff + 3, none⟩ = some (.int .i64 xn0) ∧ W.cell? ⟨kb, koff + 4, none⟩ = some (.slice xad0 xkids0.length xcap0) ∧ W.cell? ⟨kb, koff + 5, none⟩ = some (.int .i64 xpos0)) (exact HK.out _ B) ((go_at_call 54; with_reducible refine (hc0 _ B).mono ?_; rintro r u0 ⟨rfl, bb⟩; have B := B.tr le_rfl' bb))
      go_wp2
      go_ret
      have e1 : IntKind.i64.wrap (1 + IntKind.i64.wrap (1 + (y0 : Int))) = ((1 + (1 + y0) : Nat) : Int) := by rw [wrap_id (1 + (y0 : Int)) (by omega) (by omega), wrap_id _ (by omega) (by omega)]; omega
      exact ⟨by rw [HR.out, ← e1]; rfl, hB9.trans (B.mono (by have := HZZ.out; omega))⟩
    by_cases hk2 : kids.length = 2
    · have hk1b : ((kids.length : Int) == 1) = false := by rw [beq_eq_false_iff_ne]; omega
      have hk2b : ((kids.length : Int) == 2) = true := by rw [beq_iff_eq]; omega
      have HKL := hid hk2
      have hk0 : 0 < kids.length := by omega
      have hk0' : (0 : Int) < (kids.length : Int) := by omega
      have hk1' : (1 : Int) < (kids.length : Int) := by omega
      have hkx : 1 < kids.length := by omega
      have hbk0 : kids[0].subs.length ≤ 1000000 := by have := subs_both kids hkx; omega
      have hbk1 : kids[1].subs.length ≤ 1000000 := by have := subs_both kids hkx; omega
      obtain ⟨kb, koff, rfl, hkb0, hrow0⟩ := hsl.2.2.resolve_left (by intro h; rw [h] at hk0; simp at hk0)
      clear hk2 hk1
      go_wp2_with (go_at_call 97; (refine hq.mono ?_; rintro e u1 ⟨rfl, B⟩; have hs1 := hs0.below B (by omega); have l1 := hl0 u1 hs1; have bB1 := bB.below B (by omega); obtain ⟨d0, d1, d2, d3, d4, d5⟩ := bB1.cells; have hz1 := B.size; have d4b := fun o => ((bB1.below ((Below.refl _ u1).al le_rfl' o) (by omega)).cells).2.2.2.2.1))
      have hB : Below n₀ w (u1.alloc (.cells #[.string mt, .int .i64 (mo : Int), .int .i64 (mf : Int), .int .i64 (ml : Int)] 137)) := ((hB0.trans (B.mono (by omega))).al hn _)
      have hB9 : Below w.heap.size w (u1.alloc (.cells #[.string mt, .int .i64 (mo : Int), .int .i64 (mf : Int), .int .i64 (ml : Int)] 137)) := ((hB9.trans (B.mono (by omega))).al le_rfl' _)
      have hs1 := hs1.below ((Below.refl _ u1).al le_rfl' (.cells #[.string mt, .int .i64 (mo : Int), .int .i64 (mf : Int), .int .i64 (ml : Int)] 137)) (by omega)
      have bB1 := bB1.below ((Below.refl _ u1).al le_rfl' (.cells #[.string mt, .int .i64 (mo : Int), .int .i64 (mf : Int), .int .i64 (ml : Int)] 137)) (by omega)
      have bS1 : (u1.alloc (.cells #[.string mt, .int .i64 (mo : Int), .int .i64 (mf : Int), .int .i64 (ml : Int)] 137)).heap[u1.heap.size]? = some (.cells #[.string mt, .int .i64 (mo : Int), .int .i64 (mf : Int), .int .i64 (ml : Int)] 137 (0, 0)) := heap_alloc_new u1 _
      have hzz : (u1.alloc (.cells #[.string mt, .int .i64 (mo : Int), .int .i64 (mf : Int), .int .i64 (ml : Int)] 137)).heap.size = u1.heap.size + 1 := by simp
      obtain ⟨Bs, hBs⟩ : ∃ Bs, u1.heap.size = Bs := ⟨_, rfl⟩
      obtain ⟨W1, hW1⟩ : ∃ W1, u1.alloc (.cells #[.string mt, .int .i64 (mo : Int), .int .i64 (mf : Int), .int .i64 (ml : Int)] 137) = W1 := ⟨_, rfl⟩
      rw [hW1] at hB hB9 hs1 bB1 bS1 hzz ⊢
      rw [hBs] at bS1 hzz hz1 ⊢
      have hkb : kb < W1.heap.size := by omega
      have hrow := hrow0.below hB hkb0
      clear hBs hW1 l1 d0 d1 d2 d3 d4 d5 d4b hq B
      rcases hx0 : kids[0] with ⟨xop0, xmon0, xname0, xn0, xad0, xcap0, xkids0, xpos0⟩
      obtain ⟨y0, hy0⟩ : ∃ y, kids[0].nest mf = y := ⟨_, rfl⟩
      have hyl0 : y0 ≤ 4000000 := by
        have h1 := nst_le kids[0]
        have h2 := hbk0
        rw [← hy0]
        unfold Ex.nest nestL
        split <;> omega
      have hc0 : ∀ (W : World), Below W1.heap.size W1 W → Calls Tryz.prog 54 #[.map (some m), .agg #[.int .i64 xop0, .string xmon0, .string xname0, .int .i64 xn0, .slice xad0 xkids0.length xcap0, .int .i64 xpos0], .int .i64 (mf : Int)] W fun r w' => r = .returned (.int .i64 (y0 : Int)) ∧ Below W.heap.size W w' := fun W h1 => by
        have := ih kids[0] (List.getElem_mem _) n₀ m mf W (by have := h1.size; omega) ((hIk kids[0] (List.getElem_mem _)).below (hB.trans (h1.mono (by omega)))) (hs1.below h1 (by omega)) (by omega)
        rw [show kids[0].val = Value.agg #[.int .i64 xop0, .string xmon0, .string xname0, .int .i64 xn0, .slice xad0 xkids0.length xcap0, .int .i64 xpos0] by rw [hx0]; rfl, hy0] at this
        exact this
      obtain ⟨a00, a01, a02, a03, a04, a05⟩ := row6 hrow 0 (by omega) (by rw [hx0]; rfl)
      have HY0 := hid hy0
      clear hx0 hy0
      rcases hx1 : kids[1] with ⟨xop1, xmon1, xname1, xn1, xad1, xcap1, xkids1, xpos1⟩
      obtain ⟨y1, hy1⟩ : ∃ y, kids[1].nest ml = y := ⟨_, rfl⟩
      have hyl1 : y1 ≤ 4000000 := by
        have h1 := nst_le kids[1]
        have h2 := hbk1
        rw [← hy1]
        unfold Ex.nest nestL
        split <;> omega
      have hc1 : ∀ (W : World), Below W1.heap.size W1 W → Calls Tryz.prog 54 #[.map (some m), .agg #[.int .i64 xop1, .string xmon1, .string xname1, .int .i64 xn1, .slice xad1 xkids1.length xcap1, .int .i64 xpos1], .int .i64 (ml : Int)] W fun r w' => r = .returned (.int .i64 (y1 : Int)) ∧ Below W.heap.size W w' := fun W h1 => by
        have := ih kids[1] (List.getElem_mem _) n₀ m ml W (by have := h1.size; omega) ((hIk kids[1] (List.getElem_mem _)).below (hB.trans (h1.mono (by omega)))) (hs1.below h1 (by omega)) (by omega)
        rw [show kids[1].val = Value.agg #[.int .i64 xop1, .string xmon1, .string xname1, .int .i64 xn1, .slice xad1 xkids1.length xcap1, .int .i64 xpos1] by rw [hx1]; rfl, hy1] at this
        exact this
      obtain ⟨a10, a11, a12, a13, a14, a15⟩ := row6 hrow 1 (by omega) (by rw [hx1]; rfl)
      have HY1 := hid hy1
      clear hx1 hy1
      simp only [Nat.zero_mul, Nat.one_mul, Nat.add_zero, Nat.add_assoc, Nat.reduceAdd] at a00 a01 a02 a03 a04 a05 a10 a11 a12 a13 a14 a15
      have HK : Hid (∀ W, Below W1.heap.size W1 W → W.cell? ⟨w.heap.size, 4, none⟩ = some (.slice (some ⟨kb, koff, none⟩) kids.length cap) ∧ W.cell? ⟨Bs, 2, none⟩ = some (.int .i64 (mf : Int)) ∧ W.cell? ⟨Bs, 3, none⟩ = some (.int .i64 (ml : Int)) ∧ W.cell? ⟨kb, koff, none⟩ = some (.int .i64 xop0) ∧ W.cell? ⟨kb, koff + 1, none⟩ = some (.string xmon0) ∧ W.cell? ⟨kb, koff + 2, none⟩ = some (.string xname0) ∧ W.cell? ⟨kb, koff + 3, none⟩ = some (.int .i64 xn0) ∧ W.cell? ⟨kb, koff + 4, none⟩ = some (.slice xad0 xkids0.length xcap0) ∧ W.cell? ⟨kb, koff + 5, none⟩ = some (.int .i64 xpos0) ∧ W.cell? ⟨kb, koff + 6, none⟩ = some (.int .i64 xop1) ∧ W.cell? ⟨kb, koff + 7, none⟩ = some (.string xmon1) ∧ W.cell? ⟨kb, koff + 8, none⟩ = some (.string xname1) ∧ W.cell? ⟨kb, koff + 9, none⟩ = some (.int .i64 xn1) ∧ W.cell? ⟨kb, koff + 10, none⟩ = some (.slice xad1 xkids1.length xcap1) ∧ W.cell? ⟨kb, koff + 11, none⟩ = some (.int .i64 xpos1)) := fun W hW => by
        obtain ⟨f0, f1, f2, f3, f4, f5⟩ := (bB1.below hW (by omega)).cells
        have g := (hW.block Bs (by omega)).trans bS1
        exact ⟨f4, cell_of' g 2, cell_of' g 3, (hW.cell (p := ⟨kb, _, none⟩) hkb).trans a00, (hW.cell (p := ⟨kb, _, none⟩) hkb).trans a01, (hW.cell (p := ⟨kb, _, none⟩) hkb).trans a02, (hW.cell (p := ⟨kb, _, none⟩) hkb).trans a03, (hW.cell (p := ⟨kb, _, none⟩) hkb).trans a04, (hW.cell (p := ⟨kb, _, none⟩) hkb).trans a05, (hW.cell (p := ⟨kb, _, none⟩) hkb).trans a10, (hW.cell (p := ⟨kb, _, none⟩) hkb).trans a11, (hW.cell (p := ⟨kb, _, none⟩) hkb).trans a12, (hW.cell (p := ⟨kb, _, none⟩) hkb).trans a13, (hW.cell (p := ⟨kb, _, none⟩) hkb).trans a14, (hW.cell (p := ⟨kb, _, none⟩) hkb).trans a15⟩
      have HZZ := hid hzz
      clear a00 a01 a02 a03 a04 a05 a10 a11 a12 a13 a14 a15 hzz
      have B := below_drewE (Below.refl W1.heap.size W1)
      have HR : Hid ((Ex.mk op mon name n (some ⟨kb, koff, none⟩) cap kids pos).nest l = 1 + max y0 y1) := by
        show _ = _
        rw [HN.out, Ex.nst_mk, nestOf, if_neg (by rw [List.length_map, HKL.out]; omega), if_pos (by rw [List.length_map]; exact HKL.out), nkid_at kids 0 _ hk0, nkid_at kids 1 _ hkx, HM.out]
        show _ + max (kids[0].nest mf) (kids[1].nest ml) = _
        rw [HY0.out, HY1.out]
      go_region_held3 (fun W => W.cell? ⟨w.heap.size, 4, none⟩ = some (.slice (some ⟨kb, koff, none⟩) kids.length cap) ∧ W.cell? ⟨Bs, 2, none⟩ = some (.int .i64 (mf : Int)) ∧ W.cell? ⟨Bs, 3, none⟩ = some (.int .i64 (ml : Int)) ∧ W.cell? ⟨kb, koff, none⟩ = some (.int .i64 xop0) ∧ W.cell? ⟨kb, koff + 1, none⟩ = some (.string xmon0) ∧ W.cell? ⟨kb, koff + 2, none⟩ = some (.string xname0) ∧ W.cell? ⟨kb, koff + 3, none⟩ = some (.int .i64 xn0) ∧ W.cell? ⟨kb, koff + 4, none⟩ = some (.slice xad0 xkids0.length xcap0) ∧ W.cell? ⟨kb, koff + 5, none⟩ = some (.int .i64 xpos0) ∧ W.cell? ⟨kb, koff + 6, none⟩ = some (.int .i64 xop1) ∧ W.cell? ⟨kb, koff + 7, none⟩ = some (.string xmon1) ∧ W.cell? ⟨kb, koff + 8, none⟩ = some (.string xname1) ∧ W.cell? ⟨kb, koff + 9, none⟩ = some (.int .i64 xn1) ∧ W.cell? ⟨kb, koff + 10, none⟩ = some (.slice xad1 xkids1.length xcap1) ∧ W.cell? ⟨kb, koff + 11, none⟩ = some (.int .i64 xpos1)) (exact HK.out _ B) (first | (go_at_call 54; with_reducible refine (hc0 _ B).mono ?_; rintro r u0 ⟨rfl, bb⟩; have B := B.tr le_rfl' bb) | (go_at_call 54; with_reducible refine (hc1 _ B).mono ?_; rintro r u1 ⟨rfl, bb⟩; have B := B.tr le_rfl' bb))
      all_goals go_wp2
      all_goals go_ret
      all_goals have e1 : IntKind.i64.wrap (1 + max (y0 : Int) y1) = ((1 + max y0 y1 : Nat) : Int) := by rw [wrap_id _ (by omega) (by omega)]; omega
      all_goals exact ⟨by rw [HR.out, ← e1]; rfl, hB9.trans (B.mono (by have := HZZ.out; omega))⟩
    · have hk1b : ((kids.length : Int) == 1) = false := by rw [beq_eq_false_iff_ne]; omega
      have hk2b : ((kids.length : Int) == 2) = false := by rw [beq_eq_false_iff_ne]; omega
      have HR : Hid ((Ex.mk op mon name n ad cap kids pos).nest l = 1) := by
        show _ = _
        rw [HN.out, Ex.nst_mk, nestOf, if_neg (by rw [List.length_map]; exact hk1), if_neg (by rw [List.length_map]; exact hk2)]
      go_wp2_with (go_at_call 97; (refine hq.mono ?_; rintro e u1 ⟨rfl, B⟩; have hs1 := hs0.below B (by omega); have l1 := hl0 u1 hs1; have bB1 := bB.below B (by omega); obtain ⟨d0, d1, d2, d3, d4, d5⟩ := bB1.cells; have hz1 := B.size; have d4b := fun o => ((bB1.below ((Below.refl _ u1).al le_rfl' o) (by omega)).cells).2.2.2.2.1))
      go_ret
      exact ⟨by rw [HR.out]; rfl, (hB9.trans (B.mono (by omega))).al le_rfl' _⟩
end Go.Proofs.YtaekbgljbgmchaaGreatDoor
namespace Go.Proofs.YtaekbgljbgmchaaGreatDoor
open Go.RowKit Px
/-- The shapes of expressions. -/
structure ShapesE (W : World) : Prop where
  size : 2 ≤ W.heap.size
  ex : ∀ k, k < 18 → W.cell? ⟨1, k * 3, none⟩ = some (.bool (exNames k)) ∧ W.cell? ⟨1, k * 3 + 1, none⟩ = some (.bool (exNumber k)) ∧ W.cell? ⟨1, k * 3 + 2, none⟩ = some (.int .i64 (exKids k : Nat))
theorem ShapesE.below {n : Nat} {W W' : World} (h : ShapesE W) (hb : Below n W W') (hn : 2 ≤ n) : ShapesE W' := by
  refine ⟨by have := h.size; have := hb.size; omega, fun k hk => ?_⟩
  obtain ⟨h0, h1, h2⟩ := h.ex k hk
  exact ⟨(hb.cell (p := ⟨1, _, none⟩) (by show 1 < n; omega)).trans h0, (hb.cell (p := ⟨1, _, none⟩) (by show 1 < n; omega)).trans h1, (hb.cell (p := ⟨1, _, none⟩) (by show 1 < n; omega)).trans h2⟩
theorem signs_any (w : World) : Calls Tryz.prog 46 #[] w fun e w' => e = .returned (.map (some w.heap.size)) ∧ Below w.heap.size w w' ∧ SignsAt w' w.heap.size := by
  refine (allSigns_any w).mono ?_
  rintro e w' ⟨rfl, rfl⟩
  exact ⟨rfl, (Below.refl _ w).al le_rfl' _, heap_alloc_new w _⟩
/-- What Expr answers. -/
def exprOut (e : Ex) : Value := if e.ok then (if 64 < e.nest 1 then .tuple #[.string ⟨#[]⟩, .int .i64 41] else toldOf (e.txt 1)) else .tuple #[.string ⟨#[]⟩, .int .i64 20]
def nestOut (e : Ex) : Nat := if e.ok then e.nest 1 else 0
theorem toldOf_form (t : List UInt8) : ∃ (s : ByteArray) (c : Int), toldOf t = .tuple #[.string s, .int .i64 c] := by
  unfold toldOf; split <;> exact ⟨_, _, rfl⟩
set_option maxRecDepth 100000 in
set_option maxHeartbeats 1000000 in
theorem isExpr_anyE (e : Ex) (n₀ : Nat) (w : World) (hI : e.Is n₀ w) (hS : ShapesE w) :
    Calls Tryz.prog 96 #[e.val] w fun r w' => r = .returned (.bool e.ok1) ∧ Below w.heap.size w w' := by
  rcases e with ⟨op, mon, name, n, ad, cap, kids, pos⟩
  obtain ⟨⟨h1, h2, h3, h4, h5⟩, h6, h7⟩ := hI.down
  unfold I64 at h1 h2 h3
  have hl1 := h6.1; have hl2 := h6.2.1
  unfold maxLen at hl2
  have HR : Hid (Ex.ok1 (.mk op mon name n ad cap kids pos) = (decide (1 ≤ op) && decide (op ≤ 17) && (fitsName mon (exNames op.toNat) && fitsName name (exNames op.toNat) && fitsNum n (exNumber op.toNat) && ((kids.length : Int) == (exKids op.toNat : Int))))) := rfl
  clear h6 h7 hI
  simp only [Ex.val, Ex.cells]
  by_cases ho1 : 1 ≤ op
  · by_cases ho2 : op ≤ 17
    · obtain ⟨k, rfl⟩ : ∃ k : Nat, op = (k : Int) := ⟨op.toNat, by omega⟩
      have hk1 : 1 ≤ k := by omega
      have hk2 : k < 18 := by omega
      obtain ⟨s0, s1, s2⟩ := hS.ex k hk2
      have hsz : 1 < w.heap.size := by have := hS.size; omega
      have HR2 : Hid (Ex.ok1 (.mk (k : Int) mon name n ad cap kids pos) = (fitsName mon (exNames k) && fitsName name (exNames k) && fitsNum n (exNumber k) && ((kids.length : Int) == (exKids k : Int)))) := by
        show _ = _
        rw [HR.out, decide_eq_true ho1, decide_eq_true ho2, Int.toNat_natCast, Bool.true_and, Bool.true_and]
      clear HR ho1 ho2
      cases q1 : fitsName mon (exNames k)
      · go_enter Tryz.func96, Tryz.ntmps96
        go_wp2_with (first | (go_at_call 92; refine (fitsName_any _ _ _ ‹_›).mono ?_; rintro e w' ⟨rfl, hw'⟩; have hw2 := hw'.symm; subst hw2) | (go_at_call 93; refine (fitsNum_any _ _ _).mono ?_; rintro e w' ⟨rfl, hw'⟩; have hw2 := hw'.symm; subst hw2))
        go_ret
        exact ⟨ret_bool (by rw [HR2.out, q1]; rfl), ((Below.refl _ _).al le_rfl' _).al le_rfl' _⟩
      cases q2 : fitsName name (exNames k)
      · go_enter Tryz.func96, Tryz.ntmps96
        go_wp2_with (first | (go_at_call 92; refine (fitsName_any _ _ _ ‹_›).mono ?_; rintro e w' ⟨rfl, hw'⟩; have hw2 := hw'.symm; subst hw2) | (go_at_call 93; refine (fitsNum_any _ _ _).mono ?_; rintro e w' ⟨rfl, hw'⟩; have hw2 := hw'.symm; subst hw2))
        go_ret
        exact ⟨ret_bool (by rw [HR2.out, q1, q2]; rfl), ((Below.refl _ _).al le_rfl' _).al le_rfl' _⟩
      cases q3 : fitsNum n (exNumber k)
      · go_enter Tryz.func96, Tryz.ntmps96
        go_wp2_with (first | (go_at_call 92; refine (fitsName_any _ _ _ ‹_›).mono ?_; rintro e w' ⟨rfl, hw'⟩; have hw2 := hw'.symm; subst hw2) | (go_at_call 93; refine (fitsNum_any _ _ _).mono ?_; rintro e w' ⟨rfl, hw'⟩; have hw2 := hw'.symm; subst hw2))
        go_ret
        exact ⟨ret_bool (by rw [HR2.out, q1, q2, q3]; rfl), ((Below.refl _ _).al le_rfl' _).al le_rfl' _⟩
      cases q4 : ((kids.length : Int) == (exKids k : Int))
      · go_enter Tryz.func96, Tryz.ntmps96
        go_wp2_with (first | (go_at_call 92; refine (fitsName_any _ _ _ ‹_›).mono ?_; rintro e w' ⟨rfl, hw'⟩; have hw2 := hw'.symm; subst hw2) | (go_at_call 93; refine (fitsNum_any _ _ _).mono ?_; rintro e w' ⟨rfl, hw'⟩; have hw2 := hw'.symm; subst hw2))
        go_ret
        exact ⟨ret_bool (by rw [HR2.out, q1, q2, q3, q4]; rfl), ((Below.refl _ _).al le_rfl' _).al le_rfl' _⟩
      · go_enter Tryz.func96, Tryz.ntmps96
        go_wp2_with (first | (go_at_call 92; refine (fitsName_any _ _ _ ‹_›).mono ?_; rintro e w' ⟨rfl, hw'⟩; have hw2 := hw'.symm; subst hw2) | (go_at_call 93; refine (fitsNum_any _ _ _).mono ?_; rintro e w' ⟨rfl, hw'⟩; have hw2 := hw'.symm; subst hw2))
        go_ret
        exact ⟨ret_bool (by rw [HR2.out, q1, q2, q3, q4]; rfl), ((Below.refl _ _).al le_rfl' _).al le_rfl' _⟩
    · have HF : Hid (Ex.ok1 (.mk op mon name n ad cap kids pos) = false) := by
        show _ = _
        rw [HR.out, decide_eq_false ho2, Bool.and_false, Bool.false_and]
      go_enter Tryz.func96, Tryz.ntmps96
      go_wp2
      go_ret
      exact ⟨ret_bool HF.out.symm, (Below.refl _ _).al le_rfl' _⟩
  · have HF : Hid (Ex.ok1 (.mk op mon name n ad cap kids pos) = false) := by
      show _ = _
      rw [HR.out, decide_eq_false ho1, Bool.false_and, Bool.false_and]
    go_enter Tryz.func96, Tryz.ntmps96
    go_wp2
    go_ret
    exact ⟨ret_bool HF.out.symm, (Below.refl _ _).al le_rfl' _⟩
section
open Go.Shelf
attribute [local go_sem] Oper.semAt_some
set_option maxRecDepth 100000 in
set_option maxHeartbeats 2000000 in
theorem checkExpr_inE (n : Nat) (hn9 : 9 ≤ n) (T : Ex) (w : World) (hT : T.Is w.heap.size w) (hS : ShapesE w) :
    CallsIn Fence.wide n Tryz.prog 53 #[T.val] w fun e w' => e = .returned (.int .i64 (if T.ok then 0 else 20)) ∧ Below w.heap.size w w' := by
  have hd : Fence.wide.depth = none := rfl
  have hro : Fence.wide.round = none := rfl
  have h1 : 1 ≤ n := by omega
  have hsz2 := hS.size
  have hpart := parts_in Fence.wide (n - 1) trivial rfl T
  obtain ⟨res, hres⟩ : ∃ res : Int, (if T.ok then (0 : Int) else 20) = res := ⟨_, rfl⟩
  rw [hres]
  have HR := hid hres
  clear hres
  rcases hTT : T with ⟨op, mon, name, k, ad, cap, kids, pos⟩
  rw [hTT] at hpart
  simp only [Ex.val, Ex.cells] at hpart ⊢
  refine callsIn_of_wp_marks Tryz.func53 rfl trivial ?_ hro
  simp only [Tryz.ntmps53, List.size_toArray, List.length_cons, List.length_nil, Nat.reduceAdd, Nat.reduceSub, Array.replicate_succ, Array.replicate_zero, List.push_toArray, List.append_toArray, List.nil_append, List.cons_append]
  gi_wp2_with (refine ⟨trivial, ?_⟩; gi_at_call 95; refine (hpart _).mono ?_; rintro e w' ⟨rfl, rfl⟩)
  obtain ⟨tv, htv⟩ : ∃ tv : Value, Value.agg #[.int .i64 op, .string mon, .string name, .int .i64 k, .slice ad kids.length cap, .int .i64 pos] = tv := ⟨_, rfl⟩
  have bR : Boxed (((w.alloc (.cells #[.int .i64 op, .string mon, .string name, .int .i64 k, .slice ad kids.length cap, .int .i64 pos] 25)).alloc (.cells #[.int .i64 0] 26)).alloc (.cells #[.int .i64 op, .string mon, .string name, .int .i64 k, .slice ad kids.length cap, .int .i64 pos] 25)) (w.heap.size + 1) 26 (.int .i64 0) := by
    have := (Boxed.new (w.alloc (.cells #[.int .i64 op, .string mon, .string name, .int .i64 k, .slice ad kids.length cap, .int .i64 pos] 25)) 26 (.int .i64 0)).alloc (.cells #[.int .i64 op, .string mon, .string name, .int .i64 k, .slice ad kids.length cap, .int .i64 pos] 25)
    rwa [World.size_alloc] at this
  have bA : ExBox (((w.alloc (.cells #[.int .i64 op, .string mon, .string name, .int .i64 k, .slice ad kids.length cap, .int .i64 pos] 25)).alloc (.cells #[.int .i64 0] 26)).alloc (.cells #[.int .i64 op, .string mon, .string name, .int .i64 k, .slice ad kids.length cap, .int .i64 pos] 25)) (w.heap.size + 1 + 1) T := by
    have := ExBox.new ((w.alloc (.cells #[.int .i64 op, .string mon, .string name, .int .i64 k, .slice ad kids.length cap, .int .i64 pos] 25)).alloc (.cells #[.int .i64 0] 26)) T
    rw [World.size_alloc, World.size_alloc, hTT] at this
    rw [hTT]
    exact this
  have hB0 : Below w.heap.size w (((w.alloc (.cells #[.int .i64 op, .string mon, .string name, .int .i64 k, .slice ad kids.length cap, .int .i64 pos] 25)).alloc (.cells #[.int .i64 0] 26)).alloc (.cells #[.int .i64 op, .string mon, .string name, .int .i64 k, .slice ad kids.length cap, .int .i64 pos] 25)) := (((Below.refl _ w).al le_rfl' _).al le_rfl' _).al le_rfl' _
  have hsz : (((w.alloc (.cells #[.int .i64 op, .string mon, .string name, .int .i64 k, .slice ad kids.length cap, .int .i64 pos] 25)).alloc (.cells #[.int .i64 0] 26)).alloc (.cells #[.int .i64 op, .string mon, .string name, .int .i64 k, .slice ad kids.length cap, .int .i64 pos] 25)).heap.size = w.heap.size + 3 := by simp
  obtain ⟨W0, hW0⟩ : ∃ W0, ((w.alloc (.cells #[.int .i64 op, .string mon, .string name, .int .i64 k, .slice ad kids.length cap, .int .i64 pos] 25)).alloc (.cells #[.int .i64 0] 26)).alloc (.cells #[.int .i64 op, .string mon, .string name, .int .i64 k, .slice ad kids.length cap, .int .i64 pos] 25) = W0 := ⟨_, rfl⟩
  rw [hW0] at bR bA hB0 hsz ⊢
  clear hW0
  rw [htv]
  have HTV := hid htv
  have HTT := hid hTT
  clear hpart htv hTT
  refine wpIn_rangeFunc_ownH hro h1 (gf := 140) (lb := #[.pointer (some ⟨w.heap.size + 1 + 1, 0, none⟩)]) rfl trivial (enters_of Tryz.func140 (by kernel_rfl) rfl)
    (parts_stops Fence.wide hd (n - 1) trivial trivial hro (w.heap.size + 1 + 1) w.heap.size W0.heap.size W0 (by omega) (by omega) T (hT.below hB0) bA) Kpi.t (Kpi.b (by omega)) (Below.refl _ _) (fun _ => rfl)
    (fun pre W => (Boxed W (w.heap.size + 1) 26 (.int .i64 0) ∧ pre.all (fun x => x.1.ok1) = true) ∧ Below w.heap.size W0 W)
    (fun c pre W => (c = .ret ∧ Boxed W (w.heap.size + 1) 26 (.int .i64 20) ∧ ∃ x ∈ pre, x.1.ok1 = false) ∧ Below w.heap.size W0 W)
    (OwnFrom.and (OwnFrom.and (Own.from (boxed_own _ _ _) _) (ownFrom_pure _ _)) (ownFrom_below (by omega) (by omega)))
    (fun c => OwnFrom.and (OwnFrom.and (ownFrom_pure _ (fun _ => c = .ret)) (OwnFrom.and (Own.from (boxed_own _ _ _) _) (ownFrom_pure _ _))) (ownFrom_below (by omega) (by omega)))
    ⟨⟨bR, rfl⟩, Below.refl _ _⟩
    (fun x a' W => ∃ Bx, W0.heap.size ≤ Bx ∧ ExBox W Bx x.1 ∧ a' = { tmps := #[tv, .pointer (some ⟨w.heap.size, 0, none⟩), .pointer (some ⟨w.heap.size + 1, 0, none⟩), .pointer (some ⟨Bx, 0, none⟩), tv, .func (.func 140) #[] #[.pointer (some ⟨w.heap.size + 1 + 1, 0, none⟩)], x.1.val, undef, undef, undef], defers := [] })
    (fun x a' _ X Y row hs hg hr => by obtain ⟨Bx, h1, h2, h3⟩ := hs; exact ⟨Bx, h1, exBox_kept h2 hg (fun r e => (hr r e).2), h3⟩)
    ?assign ?body ?done ?stop
  case assign =>
    rintro l pre ⟨⟨op', mon', name', k', ad', cap', kids', pos'⟩, hx⟩ W K ⟨⟨bR1, hall⟩, hB1⟩ hK
    simp only [Ex.val, Ex.cells]
    gi_wp2
    have hs1 := hB1.size
    exact hK _ _ ((KeepsOthers.alloc _ _).from _) (Kpi.alloc (by omega) _) ⟨⟨bR1.alloc _, hall⟩, hB1.al (by omega) _⟩ ⟨W.heap.size, hs1, ExBox.new W (.mk op' mon' name' k' ad' cap' kids' pos'), rfl⟩
  case body =>
    rintro l pre ⟨⟨op', mon', name', k', ad', cap', kids', pos'⟩, hx⟩ a' W hl ⟨r, hr⟩ ⟨⟨bR1, hall⟩, hB1⟩ ⟨Bx, hBx, bX, rfl⟩ hlt
    have hs1 := hB1.size
    have hxW : (Ex.mk op' mon' name' k' ad' cap' kids' pos').Is w.heap.size W := hx.below hB1
    have hcall := isExpr_anyE _ w.heap.size W hxW ((hS.below hB0 hsz2).below hB1 hsz2)
    obtain ⟨c0, c1, c2, c3, c4, c5⟩ := bX.cells
    have HALL := hid hall
    clear hall
    have cR := bR1.cell
    have fR := bR1.frozen
    simp only [Ex.val, Ex.cells] at hcall
    cases hok : (Ex.mk op' mon' name' k' ad' cap' kids' pos').ok1
    · rw [hok] at hcall
      have HOK := hid hok
      clear hok
      gi_wp2_with (refine ⟨trivial, ?_⟩; gi_at_call 96; refine (CallsIn.inRound l (callsIn_wide.2 hcall)).mono ?_; rintro e w' ⟨rfl, hbel⟩; have bR2 := boxed_of bR1 hbel; have cR2 := bR2.cell; have fR2 := bR2.frozen)
      exact ⟨(keepsFrom_of hbel).trans ((KeepsOthers.setCell _ _ _).from _), ⟨rfl, bR2.set _, ⟨_, hx⟩, List.mem_append.2 (.inr (List.mem_singleton.2 rfl)), HOK.out⟩, (hB1.tr (by omega) hbel).setCell (p := ⟨w.heap.size + 1, 0, none⟩) (by simp) _⟩
    · rw [hok] at hcall
      have HOK := hid hok
      clear hok
      gi_wp2_with (refine ⟨trivial, ?_⟩; gi_at_call 96; refine (CallsIn.inRound l (callsIn_wide.2 hcall)).mono ?_; rintro e w' ⟨rfl, hbel⟩; have bR2 := boxed_of bR1 hbel)
      refine ⟨keepsFrom_of hbel, Kpi.of (by omega) hbel, ⟨bR2, ?_⟩, hB1.tr (by omega) hbel⟩
      rw [List.all_append, HALL.out]
      simp only [List.all_cons, List.all_nil, HOK.out, Bool.and_true]
  case done =>
    rintro D ys W hD hys ⟨⟨bR1, hall⟩, hB1⟩ hK
    have cR := bR1.cell
    have fR := bR1.frozen
    have HALL := hid hall
    clear hall
    gi_wp2
    have hK' := (KeepsOthers.setCell W ⟨w.heap.size + 1, 0, none⟩ (.int .i64 0)).same D _ hK rfl
    refine ⟨by simp, .inl ⟨_, _, rfl, run_takeDeferred hK', ?_⟩⟩
    have hc5 := cell_kept (World.cell?_setCell_same' W ⟨w.heap.size + 1, 0, none⟩ (.int .i64 0) (by rw [cR]; rfl)) (grownBy_putObj' _ D (.deferred none)) (fun r e => by cases e; exact ⟨_, hK', rfl⟩)
    refine ⟨.int .i64 0, ?_, ?_, ((hB0.trans hB1).setCell (p := ⟨w.heap.size + 1, 0, none⟩) (by simp) _).trans (belowK_b (w := w) (Nat.le_refl _) _ D _ _ (by omega) hK' rfl rfl)⟩
    · simp [results, Tryz.f53, go_sem, hc5]
    · rw [← HR.out, if_pos]
      rw [Ex.ok, ← hys, List.all_map]
      exact HALL.out
  case stop =>
    rintro D c pre W hD hpre ⟨⟨rfl, bR1, x, hx, hok⟩, hB1⟩ hK
    have cR := bR1.cell
    have HOK := hid hok
    clear hok
    gi_wp2
    refine ⟨by simp, .inl ⟨_, _, rfl, run_takeDeferred hK, ?_⟩⟩
    have hc5 := cell_kept cR (grownBy_putObj' _ D (.deferred none)) (fun r e => by cases e; exact ⟨_, hK, rfl⟩)
    refine ⟨.int .i64 20, ?_, ?_, (hB0.trans hB1).trans (belowK_b (w := w) (Nat.le_refl _) W D _ _ (by omega) hK rfl rfl)⟩
    · simp [results, Tryz.f53, go_sem, hc5]
    · rw [← HR.out, if_neg]
      intro h
      have h2 := (List.all_eq_true.1 h) x.1 (hpre.subset (List.mem_map.2 ⟨x, hx, rfl⟩))
      rw [HOK.out] at h2
      cases h2
theorem checkExpr_anyE (T : Ex) (n₀ : Nat) (w : World) (hn : n₀ ≤ w.heap.size) (hT : T.Is n₀ w) (hS : ShapesE w) :
    Calls Tryz.prog 53 #[T.val] w fun e w' => e = .returned (.int .i64 (if T.ok then 0 else 20)) ∧ Below w.heap.size w w' :=
  (callsIn_wide (n := 9)).1 (checkExpr_inE 9 (Nat.le_refl _) T w (hT.mono hn) hS)
end
/-- The variables lie as they were laid. -/
structure LaidE (w : World) : Prop where
  shapes : ShapesE w
  tab : Tab w
  size : 4 ≤ w.heap.size
theorem LaidE.below {w w' : World} {n : Nat} (h : LaidE w) (hb : Below n w w') (hn : 4 ≤ n) : LaidE w' := ⟨h.shapes.below hb (by omega), h.tab.below hb (by omega), by have := h.size; have := hb.size; omega⟩
/-- A sheet that was just made. -/
theorem Sh.newE (w : World) (hL : LaidE w) : Sh (w.heap.size + 1) w.heap.size 0 [] ((w.alloc (.map (signEs 13).toArray 13)).alloc (.cells #[.pointer none, .slice none 0 0, .map (some w.heap.size), .int .i64 0] 98)) := by
  have hB : Below w.heap.size w ((w.alloc (.map (signEs 13).toArray 13)).alloc (.cells #[.pointer none, .slice none 0 0, .map (some w.heap.size), .int .i64 0] 98)) := ((Below.refl _ w).al le_rfl' _).al le_rfl' _
  refine ⟨⟨[], Okt.refl _, .inl ⟨Nat.le_refl _, .slice none 0 0, ?_, World.ownsRow_nil _ _ _ _⟩⟩, by omega, by have := hL.size; omega, ?_, (hL.below hB hL.size).tab⟩
  · have := heap_alloc_new (w.alloc (.map (signEs 13).toArray 13)) (.cells #[.pointer none, .slice none 0 0, .map (some w.heap.size), .int .i64 0] 98)
    rwa [World.size_alloc] at this
  · exact (Below.heap_alloc _ _ _ (by simp)).trans (heap_alloc_new w _)
set_option maxRecDepth 100000 in
set_option maxHeartbeats 1000000 in
theorem printExpr_anyE (e : Ex) (n₀ : Nat) (w : World) (hn : n₀ ≤ w.heap.size) (hI : e.Is n₀ w) (hL : LaidE w) (hsz : e.subs.length ≤ 1000000) :
    Calls Tryz.prog 23 #[e.val] w fun r w' => r = .returned (exprOut e) ∧ Below w.heap.size w w' := by
  have h3 := hL.size
  have hchk : ∀ W, Below w.heap.size w W → Calls Tryz.prog 53 #[e.val] W fun r w' => r = .returned (.int .i64 (if e.ok then 0 else 20)) ∧ Below W.heap.size W w' := fun W hW =>
    checkExpr_anyE e n₀ W (by have := hW.size; omega) (hI.below (hW.mono hn)) (hL.below hW h3).shapes
  have hnst : ∀ W m, Below w.heap.size w W → SignsAt W m → Calls Tryz.prog 54 #[.map (some m), e.val, .int .i64 1] W fun r w' => r = .returned (.int .i64 ((e.nest 1 : Nat) : Int)) ∧ Below W.heap.size W w' := fun W m hW hS =>
    nest_any e n₀ m 1 W (by have := hW.size; omega) (hI.below (hW.mono hn)) hS hsz
  have hlay : e.ok = true → ∀ W b m, w.heap.size ≤ b → Below w.heap.size w W → Sh b m 0 [] W → Calls Tryz.prog 55 #[.pointer (some ⟨b, 0, none⟩), e.val, .int .i64 1] W fun r w' => r = .returned (.tuple #[]) ∧ Sh b m 0 (e.txt 1) w' ∧ Kept b W w' := fun hok W b m hb hW hS => by
    refine (expr_any e hok n₀ b m 0 1 [] W (by omega) (hI.below (hW.mono hn)) hS (by simp; omega)).mono ?_
    rintro r w' ⟨h1, h2, h3⟩
    exact ⟨h1, by simpa using h2, h3⟩
  have HO : Hid (exprOut e = if e.ok then (if 64 < e.nest 1 then .tuple #[.string ⟨#[]⟩, .int .i64 41] else toldOf (e.txt 1)) else .tuple #[.string ⟨#[]⟩, .int .i64 20]) := rfl
  obtain ⟨out, hout⟩ : ∃ out, exprOut e = out := ⟨_, rfl⟩
  rw [hout] at HO ⊢
  clear hout
  obtain ⟨tx, htx⟩ : ∃ tx, e.txt 1 = tx := ⟨_, rfl⟩
  obtain ⟨y, hy⟩ : ∃ y, e.nest 1 = y := ⟨_, rfl⟩
  rw [htx, hy] at HO
  simp only [htx] at hlay
  simp only [hy] at hnst
  clear htx hy hsz hI
  obtain ⟨ok, hok⟩ : ∃ ok, e.ok = ok := ⟨_, rfl⟩
  simp only [hok] at hchk hlay HO
  clear hok
  rcases e with ⟨op, mon, name, n, ad, cap, kids, pos⟩
  simp only [Ex.val, Ex.cells] at hchk hnst hlay ⊢
  have hB0 : Below w.heap.size w (w.alloc (.cells #[.int .i64 op, .string mon, .string name, .int .i64 n, .slice ad kids.length cap, .int .i64 pos] 25)) := (Below.refl _ w).al le_rfl' _
  have bB : ExBox (w.alloc (.cells #[.int .i64 op, .string mon, .string name, .int .i64 n, .slice ad kids.length cap, .int .i64 pos] 25)) w.heap.size (.mk op mon name n ad cap kids pos) := ExBox.new w (.mk op mon name n ad cap kids pos)
  have hz0 : w.heap.size < (w.alloc (.cells #[.int .i64 op, .string mon, .string name, .int .i64 n, .slice ad kids.length cap, .int .i64 pos] 25)).heap.size := by simp
  have hc0 := hchk _ hB0
  cases ok
  · simp only [Bool.false_eq_true, if_false] at hc0
    go_enter Tryz.func23, Tryz.ntmps23
    go_wp2_with (go_at_call 53; (with_reducible refine hc0.mono ?_); rintro r w1 ⟨rfl, b1⟩)
    go_ret2
    exact ⟨by rw [HO.out]; rfl, hB0.tr le_rfl' b1⟩
  · simp only [if_true] at hc0
    go_enter Tryz.func23, Tryz.ntmps23
    go_upto_region 4 with (go_at_call 53; (with_reducible refine hc0.mono ?_); rintro r w1 ⟨rfl, b1⟩)
    have bB1 := bB.below b1 hz0
    have hB1 : Below w.heap.size w w1 := hB0.tr le_rfl' b1
    have hz1 := hB1.size
    have hL1 := hL.below hB1 h3
    have hw1 : w.heap.size < w1.heap.size := bB1.lt
    have hS := Sh.newE w1 hL1
    have hall := allSigns_any w1
    clear bB hB0 hc0 hchk
    have hB2 : Below w1.heap.size w1 ((w1.alloc (.map (signEs 13).toArray 13)).alloc (.cells #[.pointer none, .slice none 0 0, .map (some w1.heap.size), .int .i64 0] 98)) := ((Below.refl _ w1).al le_rfl' _).al le_rfl' _
    have hn1 := hnst _ w1.heap.size (hB1.trans (hB2.mono hz1)) hS.signs
    obtain ⟨d0, d1, d2, d3, d4, d5⟩ := (bB1.below hB2 hw1).cells
    have hsc : ((w1.alloc (.map (signEs 13).toArray 13)).alloc (.cells #[.pointer none, .slice none 0 0, .map (some w1.heap.size), .int .i64 0] 98)).cell? ⟨w1.heap.size + 1, 2, none⟩ = some (.map (some w1.heap.size)) := by obtain ⟨c, _, h⟩ := hS.sheet; exact h.cells.1
    go_upto_region 5 with (go_at_call 46; (with_reducible refine hall.mono ?_); rintro r w' ⟨rfl, hw'⟩; subst hw')
    have hW2b : Below w.heap.size w ((w1.alloc (.map (signEs 13).toArray 13)).alloc (.cells #[.pointer none, .slice none 0 0, .map (some w1.heap.size), .int .i64 0] 98)) := hB1.trans (hB2.mono hz1)
    have bB2 := bB1.below hB2 hw1
    obtain ⟨W2, hW2⟩ : ∃ W2, (w1.alloc (.map (signEs 13).toArray 13)).alloc (.cells #[.pointer none, .slice none 0 0, .map (some w1.heap.size), .int .i64 0] 98) = W2 := ⟨_, rfl⟩
    rw [hW2] at hS hn1 d0 d1 d2 d3 d4 d5 hsc hW2b bB2 ⊢
    have hbl2 := hS.bl
    have hw2 : w.heap.size < W2.heap.size := by omega
    clear hW2 hB2 hall
    by_cases hd : 64 < y
    · have hd' : (64 : Int) < (y : Int) := by omega
      have HO2 : Hid (out = .tuple #[.string ⟨#[]⟩, .int .i64 41]) := by show _ = _; rw [HO.out]; simp [hd]
      go_wp2_with (go_at_call 54; (with_reducible refine hn1.mono ?_); rintro r w3 ⟨rfl, b3⟩)
      go_ret2
      exact ⟨by rw [HO2.out]; rfl, hW2b.trans (b3.mono (by omega))⟩
    · have hd' : decide ((64 : Int) < (y : Int)) = false := by simp; omega
      have HO2 : Hid (out = toldOf tx) := by show _ = _; rw [HO.out]; simp [hd]
      obtain ⟨ts, tc, htf⟩ := toldOf_form tx
      have htold : ∀ W, Sh (w1.heap.size + 1) w1.heap.size 0 tx W → Calls Tryz.prog 49 #[.pointer (some ⟨w1.heap.size + 1, 0, none⟩)] W fun e w' => e = .returned (.tuple #[.string ts, .int .i64 tc]) ∧ Below (w1.heap.size + 1) W w' := fun W h => by
        have := told_any _ _ _ tx W h
        rw [htf] at this
        exact this
      rw [htf] at HO2
      clear htf hd HO
      go_wp2_with (first
        | (go_at_call 54; (with_reducible refine hn1.mono ?_); rintro r w3 ⟨rfl, b3⟩; have hS3 := hS.below b3; have hB3 : Below w.heap.size w w3 := hW2b.trans (b3.mono (by omega)); obtain ⟨f0, f1, f2, f3, f4, f5⟩ := (bB2.below b3 hw2).cells; have hl3 := hlay (by trivial) w3 (w1.heap.size + 1) w1.heap.size (by omega) hB3 hS3)
        | (go_at_call 55; (with_reducible refine hl3.mono ?_); rintro r w4 ⟨rfl, s4, k4⟩)
        | (go_at_call 49; (with_reducible refine (htold _ s4).mono ?_); rintro r w5 ⟨rfl, b5⟩))
      go_ret2
      exact ⟨by rw [HO2.out]; rfl, (hB3.trans (k4.1.mono (by omega))).trans (b5.mono (by omega))⟩
set_option maxRecDepth 100000 in
set_option maxHeartbeats 1000000 in
theorem nestExpr_anyE (e : Ex) (n₀ : Nat) (w : World) (hn : n₀ ≤ w.heap.size) (hI : e.Is n₀ w) (hL : LaidE w) (hsz : e.subs.length ≤ 1000000) :
    Calls Tryz.prog 25 #[e.val] w fun r w' => r = .returned (.int .i64 ((nestOut e : Nat) : Int)) ∧ Below w.heap.size w w' := by
  have h3 := hL.size
  have hchk : ∀ W, Below w.heap.size w W → Calls Tryz.prog 53 #[e.val] W fun r w' => r = .returned (.int .i64 (if e.ok then 0 else 20)) ∧ Below W.heap.size W w' := fun W hW =>
    checkExpr_anyE e n₀ W (by have := hW.size; omega) (hI.below (hW.mono hn)) (hL.below hW h3).shapes
  have hnst : ∀ W m, Below w.heap.size w W → SignsAt W m → Calls Tryz.prog 54 #[.map (some m), e.val, .int .i64 1] W fun r w' => r = .returned (.int .i64 ((e.nest 1 : Nat) : Int)) ∧ Below W.heap.size W w' := fun W m hW hS =>
    nest_any e n₀ m 1 W (by have := hW.size; omega) (hI.below (hW.mono hn)) hS hsz
  have HO : Hid (nestOut e = if e.ok then e.nest 1 else 0) := rfl
  obtain ⟨out, hout⟩ : ∃ out, nestOut e = out := ⟨_, rfl⟩
  rw [hout] at HO ⊢
  clear hout
  obtain ⟨y, hy⟩ : ∃ y, e.nest 1 = y := ⟨_, rfl⟩
  rw [hy] at HO
  simp only [hy] at hnst
  clear hy hsz hI
  obtain ⟨ok, hok⟩ : ∃ ok, e.ok = ok := ⟨_, rfl⟩
  simp only [hok] at hchk HO
  clear hok
  rcases e with ⟨op, mon, name, n, ad, cap, kids, pos⟩
  simp only [Ex.val, Ex.cells] at hchk hnst ⊢
  have hB0 : Below w.heap.size w (w.alloc (.cells #[.int .i64 op, .string mon, .string name, .int .i64 n, .slice ad kids.length cap, .int .i64 pos] 25)) := (Below.refl _ w).al le_rfl' _
  have bB : ExBox (w.alloc (.cells #[.int .i64 op, .string mon, .string name, .int .i64 n, .slice ad kids.length cap, .int .i64 pos] 25)) w.heap.size (.mk op mon name n ad cap kids pos) := ExBox.new w (.mk op mon name n ad cap kids pos)
  have hz0 : w.heap.size < (w.alloc (.cells #[.int .i64 op, .string mon, .string name, .int .i64 n, .slice ad kids.length cap, .int .i64 pos] 25)).heap.size := by simp
  have hc0 := hchk _ hB0
  cases ok
  · simp only [Bool.false_eq_true, if_false] at hc0 HO
    have HO2 := hid HO.out
    go_enter Tryz.func25, Tryz.ntmps25
    go_wp2_with (go_at_call 53; (with_reducible refine hc0.mono ?_); rintro r w1 ⟨rfl, b1⟩)
    go_ret
    exact ⟨by rw [HO2.out]; rfl, hB0.tr le_rfl' b1⟩
  · simp only [if_true] at hc0 HO
    have HO2 := hid HO.out
    go_enter Tryz.func25, Tryz.ntmps25
    go_upto_region 3 with (go_at_call 53; (with_reducible refine hc0.mono ?_); rintro r w1 ⟨rfl, b1⟩)
    have bB1 := bB.below b1 hz0
    have hB1 : Below w.heap.size w w1 := hB0.tr le_rfl' b1
    have hz1 := hB1.size
    have hw1 : w.heap.size < w1.heap.size := bB1.lt
    have HK : Hid (∀ W, Below w1.heap.size w1 W → W.cell? ⟨w.heap.size, 0, none⟩ = some (.int .i64 op) ∧ W.cell? ⟨w.heap.size, 1, none⟩ = some (.string mon) ∧ W.cell? ⟨w.heap.size, 2, none⟩ = some (.string name) ∧ W.cell? ⟨w.heap.size, 3, none⟩ = some (.int .i64 n) ∧ W.cell? ⟨w.heap.size, 4, none⟩ = some (.slice ad kids.length cap) ∧ W.cell? ⟨w.heap.size, 5, none⟩ = some (.int .i64 pos)) := fun W hW => (bB1.below hW hw1).cells
    have B := below_drewE (Below.refl w1.heap.size w1)
    clear bB hB0 hc0 hchk
    go_region_held3 (fun W => W.cell? ⟨w.heap.size, 0, none⟩ = some (.int .i64 op) ∧ W.cell? ⟨w.heap.size, 1, none⟩ = some (.string mon) ∧ W.cell? ⟨w.heap.size, 2, none⟩ = some (.string name) ∧ W.cell? ⟨w.heap.size, 3, none⟩ = some (.int .i64 n) ∧ W.cell? ⟨w.heap.size, 4, none⟩ = some (.slice ad kids.length cap) ∧ W.cell? ⟨w.heap.size, 5, none⟩ = some (.int .i64 pos)) (exact HK.out _ B)
      (first
        | (go_at_call 46; (with_reducible refine (signs_any _).mono ?_); rintro r u1 ⟨rfl, bb, sg⟩; have sg : SignsAt u1 w1.heap.size := sg; have B := B.tr le_rfl' bb)
        | (go_at_call 54; (with_reducible refine (hnst _ _ (hB1.trans (B.mono hz1)) sg).mono ?_); rintro r u2 ⟨rfl, bb⟩; have B := B.tr le_rfl' bb))
    all_goals go_wp2
    all_goals go_ret
    all_goals exact ⟨by rw [HO2.out]; rfl, hB1.trans (B.mono hz1)⟩
end Go.Proofs.YtaekbgljbgmchaaGreatDoor
namespace Go.Proofs.YtaekbgljbgmchaaGreatDoor
open Go.RowKit Px
namespace Px
/-- What was read. -/
inductive Rt
  | mk (op : Int) (mon name num : List UInt8) (kids : List Rt)
def zr : List UInt8 := Lib.itoa 0
/-- What an operand begins with. -/
inductive Start
  | bad
  | par (s : List UInt8)
  | pre (op : Int) (ds : List UInt8) (lv : Nat) (s : List UInt8)
  | atom (t : Rt) (s : List UInt8)
def begs : List UInt8 → Start
  | [] => .bad
  | c :: r =>
    if c = 40 then .par r
    else if c = 33 then .pre 5 zr 3 r
    else if c = 45 then .pre 6 zr 6 r
    else if Lx.digit c then
      (if [32, 42, 32].isPrefixOf ((c :: r).dropWhile Lx.digit) then .pre 7 ((c :: r).takeWhile Lx.digit) 6 (((c :: r).dropWhile Lx.digit).drop 3)
       else .atom (.mk 1 [] [] ((c :: r).takeWhile Lx.digit) []) ((c :: r).dropWhile Lx.digit))
    else if ((c :: r).dropWhile Lx.nameByte).head? = some 46 then
      .atom (.mk 4 ((c :: r).takeWhile Lx.nameByte) ((((c :: r).dropWhile Lx.nameByte).drop 1).takeWhile Lx.nameByte) zr []) ((((c :: r).dropWhile Lx.nameByte).drop 1).dropWhile Lx.nameByte)
    else .atom (.mk (if (c :: r).takeWhile Lx.nameByte = [116, 114, 117, 101] then 2 else 3) [] [] zr []) ((c :: r).dropWhile Lx.nameByte)
/-- The sign between two operands that a text begins with. -/
def opAt (s : List UInt8) : Option (Nat × List UInt8) := [8, 9, 10, 11, 12, 13, 14, 15, 16, 17].findSome? fun k => if (sgn k).1.data.toList.isPrefixOf s then some (k, s.drop (sgn k).1.data.toList.length) else none
/-- At a level, with an operand or none read, of a text this is read and that is left. -/
inductive Rd : Nat → Option Rt → List UInt8 → Rt → List UInt8 → Prop
  | atom {l : Nat} {s : List UInt8} {t : Rt} {s' : List UInt8} {y : Rt} {z : List UInt8} : begs s = .atom t s' → Rd l (some t) s' y z → Rd l none s y z
  | par {l : Nat} {s s' : List UInt8} {x : Rt} {s2 : List UInt8} {y : Rt} {z : List UInt8} : begs s = .par s' → Rd 1 none s' x (41 :: s2) → Rd l (some x) s2 y z → Rd l none s y z
  | pre {l : Nat} {s : List UInt8} {op : Int} {ds : List UInt8} {lv : Nat} {s' : List UInt8} {x : Rt} {s2 : List UInt8} {y : Rt} {z : List UInt8} : begs s = .pre op ds lv s' → Rd lv none s' x s2 → Rd l (some (.mk op [] [] ds [x])) s2 y z → Rd l none s y z
  | stop {l : Nat} {x : Rt} {s : List UInt8} : (∀ k s', opAt s = some (k, s') → (sgn k).2.1 < l) → Rd l (some x) s x s
  | bin {l : Nat} {x : Rt} {s : List UInt8} {k : Nat} {s' : List UInt8} {b : Rt} {s2 : List UInt8} {y : Rt} {z : List UInt8} : opAt s = some (k, s') → l ≤ (sgn k).2.1 → Rd (sgn k).2.2.2 none s' b s2 → Rd l (some (.mk (k : Int) [] [] zr [x, b])) s2 y z → Rd l (some x) s y z
theorem Rd.det {l : Nat} {o : Option Rt} {s : List UInt8} {x : Rt} {r : List UInt8} (h : Rd l o s x r) : ∀ {x' : Rt} {r' : List UInt8}, Rd l o s x' r' → x = x' ∧ r = r' := by
  induction h with
  | atom hs _ ih =>
    intro x' r' h'
    cases h' with
    | atom hs' h2 => rw [hs] at hs'; cases hs'; exact ih h2
    | par hs' h2 h3 => rw [hs] at hs'; cases hs'
    | pre hs' h2 h3 => rw [hs] at hs'; cases hs'
  | par hs _ _ ih1 ih2 =>
    intro x' r' h'
    cases h' with
    | atom hs' h2 => rw [hs] at hs'; cases hs'
    | par hs' h2 h3 => rw [hs] at hs'; cases hs'; obtain ⟨rfl, e⟩ := ih1 h2; cases e; exact ih2 h3
    | pre hs' h2 h3 => rw [hs] at hs'; cases hs'
  | pre hs _ _ ih1 ih2 =>
    intro x' r' h'
    cases h' with
    | atom hs' h2 => rw [hs] at hs'; cases hs'
    | par hs' h2 h3 => rw [hs] at hs'; cases hs'
    | pre hs' h2 h3 => rw [hs] at hs'; cases hs'; obtain ⟨rfl, rfl⟩ := ih1 h2; exact ih2 h3
  | stop hs =>
    intro x' r' h'
    cases h' with
    | stop _ => exact ⟨rfl, rfl⟩
    | bin ho hl _ _ => have := hs _ _ ho; omega
  | bin ho hl _ _ ih1 ih2 =>
    intro x' r' h'
    cases h' with
    | stop hs => have := hs _ _ ho; omega
    | bin ho' hl' h2 h3 => rw [ho] at ho'; cases ho'; obtain ⟨rfl, rfl⟩ := ih1 h2; exact ih2 h3
/-- What may follow an expression. -/
def Fol (r : List UInt8) : Prop := (∀ c ∈ r.head?, c = 32 ∨ c = 41 ∨ c = 59) ∧ [32, 42, 32].isPrefixOf r = false
theorem Fol.nil : Fol [] := ⟨by simp, rfl⟩
theorem Fol.par (r : List UInt8) : Fol (41 :: r) := ⟨by simp, rfl⟩
theorem Fol.semi (r : List UInt8) : Fol (59 :: r) := ⟨by simp, rfl⟩
theorem takeWhile_fol (p : UInt8 → Bool) (a r : List UInt8) (ha : ∀ c ∈ a, p c = true) (hr : ∀ c ∈ r.head?, p c = false) : (a ++ r).takeWhile p = a ∧ (a ++ r).dropWhile p = r := by
  induction a with
  | nil =>
    cases r with
    | nil => simp
    | cons c r => have := hr c (by simp); simp [this]
  | cons c a ih =>
    have := ha c (by simp)
    have h2 := ih (fun x hx => ha x (by simp [hx]))
    simp [this, h2.1, h2.2]
theorem Fol.not {r : List UInt8} (h : Fol r) (p : UInt8 → Bool) (h1 : p 32 = false) (h2 : p 41 = false) (h3 : p 59 = false) : ∀ c ∈ r.head?, p c = false := by
  intro c hc
  rcases h.1 c hc with rfl | rfl | rfl <;> assumption
theorem digit_ofNat (k : Nat) (h : k < 10) : Lx.digit (UInt8.ofNat (48 + k)) = true := by
  have : k = 0 ∨ k = 1 ∨ k = 2 ∨ k = 3 ∨ k = 4 ∨ k = 5 ∨ k = 6 ∨ k = 7 ∨ k = 8 ∨ k = 9 := by omega
  rcases this with rfl | rfl | rfl | rfl | rfl | rfl | rfl | rfl | rfl | rfl <;> rfl
theorem decDigits_ind {P : Nat → List UInt8 → Prop} (h1 : ∀ u, u < 10 → P u [UInt8.ofNat (48 + u)]) (h2 : ∀ u, ¬ u < 10 → P (u / 10) (Lib.decDigits (u / 10)) → P u (Lib.decDigits (u / 10) ++ [UInt8.ofNat (48 + u % 10)])) : ∀ n u, u < n → P u (Lib.decDigits u) := by
  intro n
  induction n with
  | zero => intro u h; omega
  | succ n ih =>
    intro u h
    by_cases h10 : u < 10
    · rw [Lib.decDigits, dif_pos h10]; exact h1 u h10
    · rw [Lib.decDigits, dif_neg h10]; exact h2 u h10 (ih (u / 10) (by omega))
theorem decDigits_digit (u : Nat) : Lib.decDigits u ≠ [] ∧ ∀ c ∈ Lib.decDigits u, Lx.digit c = true := by
  refine decDigits_ind (P := fun _ l => l ≠ [] ∧ ∀ c ∈ l, Lx.digit c = true) ?_ ?_ (u + 1) u (by omega)
  · intro u h
    refine ⟨by simp, fun c hc => ?_⟩
    rw [List.mem_singleton.1 hc]; exact digit_ofNat u h
  · rintro u h ⟨h1, h2⟩
    refine ⟨by simp, fun c hc => ?_⟩
    rcases List.mem_append.1 hc with hc | hc
    · exact h2 c hc
    · rw [List.mem_singleton.1 hc]; exact digit_ofNat _ (by omega)
/-- A number's digits tell it. -/
def valOf (l : List UInt8) : Nat := l.foldl (fun a c => a * 10 + (c.toNat - 48)) 0
theorem valOf_dec (u : Nat) : valOf (Lib.decDigits u) = u := by
  have hd : ∀ k, k < 10 → (UInt8.ofNat (48 + k)).toNat - 48 = k := by
    intro k h
    have : k = 0 ∨ k = 1 ∨ k = 2 ∨ k = 3 ∨ k = 4 ∨ k = 5 ∨ k = 6 ∨ k = 7 ∨ k = 8 ∨ k = 9 := by omega
    rcases this with rfl | rfl | rfl | rfl | rfl | rfl | rfl | rfl | rfl | rfl <;> rfl
  refine decDigits_ind (P := fun u l => valOf l = u) ?_ ?_ (u + 1) u (by omega)
  · intro u h
    simp only [valOf, List.foldl_cons, List.foldl_nil, hd u h]; omega
  · intro u h ih
    unfold valOf at ih ⊢
    rw [List.foldl_append, ih]
    simp only [List.foldl_cons, List.foldl_nil, hd (u % 10) (by omega)]; omega
theorem decDigits_inj {u v : Nat} (h : Lib.decDigits u = Lib.decDigits v) : u = v := by
  have := congrArg valOf h
  rwa [valOf_dec, valOf_dec] at this
theorem digit_not45 {c : UInt8} (h : Lx.digit c = true) : c ≠ 45 ∧ c ≠ 40 ∧ c ≠ 33 := by
  refine ⟨?_, ?_, ?_⟩ <;> rintro rfl <;> cases h
theorem dec_ne45 (u : Nat) (t : List UInt8) : Lib.decDigits u ≠ 45 :: t := by
  intro h
  have := (decDigits_digit u).2 45 (by rw [h]; simp)
  cases this
theorem itoa_inj {a b : Int} (h : Lib.itoa a = Lib.itoa b) : a = b := by
  unfold Lib.itoa at h
  by_cases ha : a < 0
  · by_cases hb : b < 0
    · rw [if_pos ha, if_pos hb] at h
      have := decDigits_inj (List.cons.inj h).2
      omega
    · rw [if_pos ha, if_neg hb] at h
      exact absurd h.symm (dec_ne45 _ _)
  · by_cases hb : b < 0
    · rw [if_neg ha, if_pos hb] at h
      exact absurd h (dec_ne45 _ _)
    · rw [if_neg ha, if_neg hb] at h
      have := decDigits_inj h
      omega
theorem itoa_digit (n : Int) (h : 0 ≤ n) : Lib.itoa n ≠ [] ∧ ∀ c ∈ Lib.itoa n, Lx.digit c = true := by
  unfold Lib.itoa
  rw [if_neg (by omega)]
  exact decDigits_digit _
end Px
mutual
def Ex.nrm : Ex → Rt
  | .mk op mon name n _ _ kids _ => .mk op mon.data.toList name.data.toList (Lib.itoa n) (Ex.nrmL kids)
def Ex.nrmL : List Ex → List Rt
  | [] => []
  | e :: es => e.nrm :: Ex.nrmL es
end
theorem toList_beq (a b : ByteArray) : (a.toList == b.toList) = true ↔ a.data.toList = b.data.toList := by
  rw [beq_iff_eq, ByteArray.toList_eq, ByteArray.toList_eq]
theorem same_nrm (e : Ex) : ∀ e' : Ex, e.same e' = true ↔ e.nrm = e'.nrm := by
  induction e using Ex.ind with
  | h op mon name n ad cap kids pos ih =>
    rintro ⟨op', mon', name', n', ad', cap', kids', pos'⟩
    have hk : ∀ (ks ks' : List Ex), (∀ x ∈ ks, ∀ y, x.same y = true ↔ x.nrm = y.nrm) → (Ex.sameL ks ks' = true ↔ Ex.nrmL ks = Ex.nrmL ks') := by
      intro ks
      induction ks with
      | nil => intro ks' _; cases ks' <;> simp [Ex.sameL, Ex.nrmL]
      | cons a ks ih2 =>
        intro ks' hx
        cases ks' with
        | nil => simp [Ex.sameL, Ex.nrmL]
        | cons b ks' => simp only [Ex.sameL, Ex.nrmL, Bool.and_eq_true, List.cons.injEq]; rw [hx a (by simp) b, ih2 ks' (fun x hxm => hx x (by simp [hxm]))]
    rw [Ex.same, Ex.nrm, Ex.nrm]
    simp only [Bool.and_eq_true, toList_beq, Rt.mk.injEq]
    rw [hk kids kids' ih]
    constructor
    · rintro ⟨⟨⟨⟨h1, h2⟩, h3⟩, h4⟩, h5⟩
      exact ⟨eq_of_beq h1, h2, h3, by rw [eq_of_beq h4], h5⟩
    · rintro ⟨h1, h2, h3, h4, h5⟩
      exact ⟨⟨⟨⟨by rw [h1]; simp, h2⟩, h3⟩, by rw [itoa_inj h4]; simp⟩, h5⟩
end Go.Proofs.YtaekbgljbgmchaaGreatDoor
