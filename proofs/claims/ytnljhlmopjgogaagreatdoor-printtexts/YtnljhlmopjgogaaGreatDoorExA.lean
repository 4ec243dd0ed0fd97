/-
  expr of package print, out of bare: an expression is laid at a level.
-/
import Derived.Test.YtnljhlmopjgogaaGreatDoorShC
import Derived.Test.YtnljhlmopjgogaaGreatDoorPnA
import Derived.Deep.RegionHeld3
namespace Go.Proofs.YtnljhlmopjgogaaGreatDoor
open Go.RowKit Px
/-- expr lays e at a level. -/
def ExprLays (e : Ex) : Prop := ∀ (n₀ b m o l : Nat) (t : List UInt8) (w : World), n₀ ≤ b → e.Is n₀ w → Sh b m o t w → t.length + (100 * e.subs.length + 2) ≤ 1000000000000 →
  Calls Tryz.prog 29 #[.pointer (some ⟨b, 0, none⟩), e.val, .int .i64 (l : Int)] w fun r w' => r = .returned (.tuple #[]) ∧ Sh b m o (t ++ e.txt l) w' ∧ Kept b w w'
/-- bare lays e. -/
def BareLays (e : Ex) : Prop := ∀ (n₀ b m o : Nat) (t : List UInt8) (w : World), n₀ ≤ b → e.Is n₀ w → Sh b m o t w → t.length + 100 * e.subs.length ≤ 1000000000000 →
  Calls Tryz.prog 49 #[.pointer (some ⟨b, 0, none⟩), e.val] w fun r w' => r = .returned (.tuple #[]) ∧ Sh b m o (t ++ e.bare) w' ∧ Kept b w w'
theorem below_drewE {B : Nat} {w w' : World} (h : Below B w w') : Below B w w'.drew := ⟨h.os, h.tape, h.output, h.size, h.block⟩
set_option maxRecDepth 100000 in
set_option maxHeartbeats 4000000 in
theorem expr_of (e : Ex) (hok : e.ok = true) (hbare : BareLays e) : ExprLays e := by
  intro n₀ b m o l t w hn hI hs hlen
  have hbl := hs.bl
  have hbare2 := bare_len e n₀ w hI hok
  rcases he : e with ⟨op, mon, name, n, ad, cap, kids, pos⟩
  have HE := hid he
  have hop : e.opOf = op := by rw [he]; rfl
  have HT : Hid (e.txt l = atL l op e.bare) := by show _ = _; rw [Ex.txt, hop]
  clear hop
  obtain ⟨tx, htx⟩ : ∃ tx, e.txt l = tx := ⟨_, rfl⟩
  obtain ⟨bx, hbx⟩ : ∃ bx, e.bare = bx := ⟨_, rfl⟩
  rw [← he, htx]
  rw [htx, hbx] at HT
  rw [hbx] at hbare2
  have hbareW : ∀ t' W, Sh b m o t' W → Below b w W → t'.length + 100 * e.subs.length ≤ 1000000000000 → Calls Tryz.prog 49 #[.pointer (some ⟨b, 0, none⟩), e.val] W fun r w' => r = .returned (.tuple #[]) ∧ Sh b m o (t' ++ bx) w' ∧ Kept b W w' := fun t' W h1 h2 h3 => by
    rw [← hbx]; exact hbare n₀ b m o t' W hn (hI.below (h2.mono hn)) h1 h3
  have hvv : e.val = .agg #[.int .i64 op, .string mon, .string name, .int .i64 n, .slice ad kids.length cap, .int .i64 pos] := by rw [he]; rfl
  rw [hvv]
  simp only [hvv] at hbareW
  obtain ⟨sz, hsz⟩ : ∃ sz, e.subs.length = sz := ⟨_, rfl⟩
  rw [hsz] at hlen hbare2
  simp only [hsz] at hbareW
  clear hvv he htx hbx hsz hbare hok
  have bB : ExBox (w.alloc (.cells #[.int .i64 op, .string mon, .string name, .int .i64 n, .slice ad kids.length cap, .int .i64 pos] 50)) w.heap.size (.mk op mon name n ad cap kids pos) := ExBox.new w (.mk op mon name n ad cap kids pos)
  have hK0 : Kept b w (w.alloc (.cells #[.int .i64 op, .string mon, .string name, .int .i64 n, .slice ad kids.length cap, .int .i64 pos] 50)) := (Kept.refl b w).al (by omega) _
  have hs0 := hs.al (.cells #[.int .i64 op, .string mon, .string name, .int .i64 n, .slice ad kids.length cap, .int .i64 pos] 50)
  have hz0 : (w.alloc (.cells #[.int .i64 op, .string mon, .string name, .int .i64 n, .slice ad kids.length cap, .int .i64 pos] 50)).heap.size = w.heap.size + 1 := by simp
  have hne : w.heap.size ≠ b := by omega
  go_enter Tryz.func29, Tryz.ntmps29
  go_wp2_with fail
  obtain ⟨W0, hW0⟩ : ∃ W0, w.alloc (.cells #[.int .i64 op, .string mon, .string name, .int .i64 n, .slice ad kids.length cap, .int .i64 pos] 50) = W0 := ⟨_, rfl⟩
  rw [hW0] at bB hK0 hs0 hz0 ⊢
  clear hW0
  obtain ⟨c, hO, hSh⟩ := hs0.sheet
  have hf := full_any b _ _ c W0 hSh
  cases hd : decide (20000 < c.length)
  · rw [hd] at hf
    have c2 : W0.cell? ⟨b, 2, none⟩ = some (.map (some m)) := hSh.cells.1
    obtain ⟨d0, d1, d2, d3, d4, d5⟩ := bB.cells
    go_wp2_with (go_at_call 38; refine hf.mono ?_; rintro e w' ⟨rfl, hw'⟩; have hw2 := hw'.symm; subst hw2)
    clear hf hd
    have hq : ∀ W, Below W0.heap.size W0 W → Calls Tryz.prog 47 #[.map (some m), .int .i64 op, .int .i64 (l : Int)] W fun e w' => e = .returned (.bool (decide ((own op : Int) < l))) ∧ Below W.heap.size W w' := fun W hW => enclosed_any m op l W ((hs0.below hW).signs)
    have HK : Hid (∀ W, Below W0.heap.size W0 W → W.cell? ⟨b, 2, none⟩ = some (.map (some m)) ∧ W.cell? ⟨w.heap.size, 0, none⟩ = some (.int .i64 op)) := fun W hW => ⟨(hW.cell (p := ⟨b, 2, none⟩) (by show b < _; omega)).trans c2, (hW.cell (p := ⟨w.heap.size, 0, none⟩) (by show w.heap.size < _; omega)).trans d0⟩
    have B := below_drewE (Below.refl W0.heap.size W0)
    cases henc : decide ((own op : Int) < l)
    · simp only [henc] at hq
      have HTX : Hid (tx = bx) := by
        have := of_decide_eq_false henc
        show _ = _
        rw [HT.out, atL, if_neg (by omega)]
      clear henc HT
      go_region_held3 (fun W => W.cell? ⟨b, 2, none⟩ = some (.map (some m)) ∧ W.cell? ⟨w.heap.size, 0, none⟩ = some (.int .i64 op)) (exact HK.out _ B)
        ((go_at_call 47; refine (hq _ B).mono ?_; rintro r u1 ⟨rfl, bb⟩; have B := B.tr le_rfl' bb))
      have hs1 := hs0.below B
      have hK1 := hK0.of (by omega) B
      obtain ⟨e0, e1, e2, e3, e4, e5⟩ := (bB.below B (by omega)).cells
      have hcall := hbareW t u1 hs1 hK1.1 (by omega)
      go_wp2_with (go_at_call 49; refine hcall.mono ?_; rintro e w2 ⟨rfl, s2, k2⟩)
      go_end0
      exact ⟨rfl, by rw [HTX.out]; exact s2, hK1.trans k2⟩
    · simp only [henc] at hq
      have HTX : Hid (tx = 40 :: (bx ++ [41])) := by
        have := of_decide_eq_true henc
        show _ = _
        rw [HT.out, atL, if_pos (by omega)]
      clear henc HT
      go_region_held3 (fun W => W.cell? ⟨b, 2, none⟩ = some (.map (some m)) ∧ W.cell? ⟨w.heap.size, 0, none⟩ = some (.int .i64 op)) (exact HK.out _ B)
        ((go_at_call 47; refine (hq _ B).mono ?_; rintro r u1 ⟨rfl, bb⟩; have B := B.tr le_rfl' bb))
      have hs1 := hs0.below B
      have hK1 := hK0.of (by omega) B
      have bB1 := bB.below B (by omega)
      have hz1 := B.size
      have hl1 := lay_new [⟨#[40]⟩] b m o t u1 hs1 (by simp) (by simp [cat]; omega)
      simp only [List.map_cons, List.map_nil, List.length_cons, List.length_nil, Nat.zero_add, cat, List.flatMap_cons, List.flatMap_nil, List.append_nil] at hl1
      have hb2 : ∀ W, Sh b m o (t ++ [40]) W → Kept b u1 W → Calls Tryz.prog 49 #[.pointer (some ⟨b, 0, none⟩), .agg #[.int .i64 op, .string mon, .string name, .int .i64 n, .slice ad kids.length cap, .int .i64 pos]] W fun r w' => r = .returned (.tuple #[]) ∧ Sh b m o (t ++ [40] ++ bx) w' ∧ Kept b W w' := fun W h1 h2 =>
        hbareW (t ++ [40]) W h1 (hK1.trans h2).1 (by simp; omega)
      have hl2 : ∀ W, Sh b m o (t ++ [40] ++ bx) W → Calls Tryz.prog 48 #[.pointer (some ⟨b, 0, none⟩), .slice (some ⟨W.heap.size, 0, none⟩) 1 1] (W.alloc (.cells #[.string ⟨#[41]⟩] 9)) fun e w' => e = .returned (.tuple #[]) ∧ Sh b m o (t ++ [40] ++ bx ++ [41]) w' ∧ Kept b W w' := fun W h1 => by
        have := lay_new [⟨#[41]⟩] b m o (t ++ [40] ++ bx) W h1 (by simp) (by simp [cat]; omega)
        simpa [cat] using this
      go_wp2_with (first
        | (go_at_call 48; refine hl1.mono ?_; rintro e w2 ⟨rfl, s2, k2⟩; obtain ⟨e0, e1, e2, e3, e4, e5⟩ := (show ExBox w2 w.heap.size _ from k2.box bB1 hne (by decide)).cells; clear hl1)
        | (go_at_call 49; refine (hb2 _ s2 k2).mono ?_; rintro e w3 ⟨rfl, s3, k3⟩)
        | (go_at_call 48; refine (hl2 _ s3).mono ?_; rintro e w4 ⟨rfl, s4, k4⟩))
      go_end0
      refine ⟨rfl, ?_, ((hK1.trans k2).trans k3).trans k4⟩
      rw [HTX.out]
      simpa using s4
  · rw [hd] at hf
    have hd2 := of_decide_eq_true hd
    go_wp2_with (go_at_call 38; refine hf.mono ?_; rintro e w' ⟨rfl, hw'⟩; have hw2 := hw'.symm; subst hw2)
    ((try simp only [Exit.inBlock, Exit.then]); refine bodyPost_ret (results_none rfl _ _ _) rfl ?_)
    exact ⟨rfl, hs0.next (Below.refl _ _) (hO.full hd2 tx) hSh, hK0⟩
end Go.Proofs.YtnljhlmopjgogaaGreatDoor
