/-
  HeldFinds, walked.
-/
import Derived.Test.YthdkgfmlihgceaaHdX
namespace Go.Proofs.Ythdkgfmlihgceaa
open Go.RowKit
theorem SlAt.on {α : Type} {size : Nat} {cells : α → List Value} {W W' : World} {ad : Option Addr} {cap : Nat} {l : List α} (h : SlAt size cells W.heap.size W ad cap l) (hb : Below W.heap.size W W') : SlAt size cells W'.heap.size W' ad cap l := (h.below hb).mono hb.size
theorem RwsAt.on {W W' : World} {ad : Option Addr} {cap : Nat} {rs : List Rw} (h : RwsAt W.heap.size W ad cap rs) (hb : Below W.heap.size W W') : RwsAt W'.heap.size W' ad cap rs := (h.below hb).mono hb.size
/-- The flow's box, cell by cell. -/
def BoxIs (b : Nat) (name : ByteArray) (star : Bool) (locs : Int) (ead : Option Addr) (n ecap : Nat) (gad : Option Addr) (gl gc : Nat) (W : World) : Prop :=
  W.cell? ⟨b, 0, none⟩ = some (.string name) ∧ W.cell? ⟨b, 1, none⟩ = some (.bool star) ∧ W.cell? ⟨b, 2, none⟩ = some (.int .i64 locs) ∧ W.cell? ⟨b, 3, none⟩ = some (.slice ead n ecap) ∧ W.cell? ⟨b, 4, none⟩ = some (.slice gad gl gc)
theorem boxIs {W : World} {b : Nat} {name : ByteArray} {star : Bool} {locs : Int} {ead : Option Addr} {n ecap : Nat} {gad : Option Addr} {gl gc : Nat} (h : W.heap[b]? = some (.cells #[.string name, .bool star, .int .i64 locs, .slice ead n ecap, .slice gad gl gc] 25 (0, 0))) : BoxIs b name star locs ead n ecap gad gl gc W :=
  ⟨cellOf h 0, cellOf h 1, cellOf h 2, cellOf h 3, cellOf h 4⟩
theorem OwnBack.sl {l : List Int} {w w' : World} {r : Ending} (h : OwnBack l w w' r) : ∃ ad cp, r = .returned (.slice ad l.length cp) ∧ SlAt 1 icell w'.heap.size w' ad cp l ∧ Below w.heap.size w w' := by
  obtain ⟨v, rfl, h2, h3⟩ := h
  obtain ⟨ad, cp, rfl, hs, _⟩ := sl_own2 h2
  exact ⟨ad, cp, rfl, hs, h3⟩
set_option maxRecDepth 100000 in
set_option maxHeartbeats 16000000 in
theorem heldFinds_walk (f : Fl) (mons mon : Int) (n₀ : Nat) (w : World) (hn : n₀ ≤ w.heap.size) (hf : f.Is n₀ w) :
    Calls Try.prog 3 #[f.val, .int .i64 mons, .int .i64 mon] w fun r w' => r = .returned (.bool true) ∧ Below w.heap.size w w' := by
  have hq6 := live_any
  have hB1 := (Below.refl w.heap.size w).al le_rfl' (.cells f.cells.toArray 25)
  by_cases hbig : 100 < f.es.length
  · rcases f with ⟨name, star, locs, ead, ecap, es, gad, gl, gc⟩
    simp only [Fl.val, Fl.cells] at hB1 hbig ⊢
    have hd : decide ((100 : Int) < (es.length : Int)) = true := by simp; omega
    clear hf
    go_enter Try.func3, Try.ntmps3
    go_wp2_with (go_at_call 6; (with_reducible refine (hq6 _).mono ?_); rintro r w1 ⟨rfl, hb1⟩)
    go_ret
    exact ⟨rfl, hB1.tr le_rfl' hb1⟩
  by_cases hmid : 100 < f.locs ∧ f.locs ≤ 600
  · rcases f with ⟨name, star, locs, ead, ecap, es, gad, gl, gc⟩
    simp only [Fl.val, Fl.cells] at hB1 hbig hmid ⊢
    have hd : decide ((100 : Int) < (es.length : Int)) = false := by simp; omega
    obtain ⟨hm1, hm2⟩ := hmid
    have hd1 : decide ((100 : Int) < locs) = true := by simpa using hm1
    have hd2 : decide (locs ≤ 600) = true := by simpa using hm2
    clear hf
    go_enter Try.func3, Try.ntmps3
    go_wp2_with (go_at_call 6; (with_reducible refine (hq6 _).mono ?_); rintro r w1 ⟨rfl, hb1⟩)
    go_ret
    exact ⟨rfl, hB1.tr le_rfl' hb1⟩
  have hes : f.es.length ≤ 1000000 := by omega
  have hq7 := fun (W : World) (hW : Below w.heap.size w W) => (held_any f mons n₀ W (by have := hW.size; omega) (hf.below (hW.mono hn)) hes).mono (fun r w' h => h.uni)
  have hq8 := fun (W : World) (hW : Below w.heap.size w W) => (docHeld_any f mons n₀ W (by have := hW.size; omega) (hf.below (hW.mono hn)) hes).mono (fun r w' h => h.uni)
  have hq11 := fun (W : World) (hW : Below w.heap.size w W) => (sections_any f mons mon n₀ W (by have := hW.size; omega) (hf.below (hW.mono hn)) hes).mono (fun r w' h => h.sl)
  have hq12 := fun (W : World) (hW : Below w.heap.size w W) => (docSections_any f mons mon n₀ W (by have := hW.size; omega) (hf.below (hW.mono hn)) hes).mono (fun r w' h => h.sl)
  obtain ⟨S, hS⟩ : ∃ S, secR f mons mon = S := ⟨_, rfl⟩
  obtain ⟨H, hH⟩ : ∃ H, (heldR f mons).getD [] = H := ⟨_, rfl⟩
  obtain ⟨ok, hok⟩ : ∃ ok, (heldR f mons).isSome = ok := ⟨_, rfl⟩
  rw [hS] at hq11 hq12
  rw [hH, hok] at hq7 hq8
  have h9 : ∀ (W : World) (rs qs : List Rw) (a1 a2 : Option Addr) (c1 c2 n1 n2 : Nat), H = rs.map Rw.l → H = qs.map Rw.l → RwsAt n1 W a1 c1 rs → RwsAt n2 W a2 c2 qs → Calls Try.prog 9 #[.slice a1 rs.length c1, .slice a2 qs.length c2] W fun r w' => r = .returned (.bool true) ∧ Below W.heap.size W w' := fun W rs qs a1 a2 c1 c2 n1 n2 e1 e2 h1 h2 => (lists_any rs qs a1 a2 c1 c2 n1 n2 W h1 h2).mono (by
    rintro r w' ⟨rfl, n, rfl⟩
    exact ⟨by rw [← e1, ← e2]; simp, below_drewN (Below.refl _ _) _⟩)
  have h10 : ∀ (W : World) (a1 a2 : Option Addr) (c1 c2 n1 n2 : Nat), SlAt 1 icell n1 W a1 c1 S → SlAt 1 icell n2 W a2 c2 S → Calls Try.prog 10 #[.slice a1 S.length c1, .slice a2 S.length c2] W fun r w' => r = .returned (.bool true) ∧ Below W.heap.size W w' := fun W a1 a2 c1 c2 n1 n2 h1 h2 => (sameS_any S S a1 a2 c1 c2 n1 n2 W h1 h2).mono (by
    rintro r w' ⟨rfl, n, rfl⟩
    exact ⟨by simp, below_drewN (Below.refl _ _) _⟩)
  clear hS hH hok hf hes
  rcases f with ⟨name, star, locs, ead, ecap, es, gad, gl, gc⟩
  simp only [Fl.val, Fl.cells] at hB1 hbig hmid hq7 hq8 hq11 hq12 ⊢
  have hd : decide ((100 : Int) < (es.length : Int)) = false := by simp; omega
  obtain ⟨bF, hBF, hzF⟩ := one_box w #[.string name, .bool star, .int .i64 locs, .slice ead es.length ecap, .slice gad gl gc] 25
  have HK : Hid (∀ W, Below (w.heap.size + 1) (w.alloc (.cells #[.string name, .bool star, .int .i64 locs, .slice ead es.length ecap, .slice gad gl gc] 25)) W → BoxIs w.heap.size name star locs ead es.length ecap gad gl gc W) := fun W hW => boxIs ((hW.block w.heap.size (Nat.lt_succ_self _)).trans bF)
  have HW : Hid (∀ W, Below (w.heap.size + 1) (w.alloc (.cells #[.string name, .bool star, .int .i64 locs, .slice ead es.length ecap, .slice gad gl gc] 25)) W → Below w.heap.size w W) := fun W hW => hBF.trans (hW.mono (Nat.le_succ _))
  have B : Below (w.heap.size + 1) (w.alloc (.cells #[.string name, .bool star, .int .i64 locs, .slice ead es.length ecap, .slice gad gl gc] 25)) (w.alloc (.cells #[.string name, .bool star, .int .i64 locs, .slice ead es.length ecap, .slice gad gl gc] 25)) := Below.refl _ _
  have hsz : w.heap.size + 1 ≤ (w.alloc (.cells #[.string name, .bool star, .int .i64 locs, .slice ead es.length ecap, .slice gad gl gc] 25)).heap.size := by rw [World.size_alloc]; exact Nat.le_refl _
  have HSZ := hid hsz
  clear hsz hzF bF hBF
  have hmain : Calls Try.prog 3 #[.agg #[.string name, .bool star, .int .i64 locs, .slice ead es.length ecap, .slice gad gl gc], .int .i64 mons, .int .i64 mon] w fun r w' => r = .returned (.bool true) ∧ Below w.heap.size w w' := by
    by_cases hm1 : 100 < locs
    all_goals
      first
        | have hd1 : decide ((100 : Int) < locs) = true := by simpa using hm1
          have hd2 : decide (locs ≤ 600) = false := by simp; omega
        | have hd1 : decide ((100 : Int) < locs) = false := by simpa using hm1
      clear hmid hbig hB1
      go_enter Try.func3, Try.ntmps3
      go_upto_region 5 with (first
        | (go_at_call 7; (with_reducible refine (hq7 _ (HW.out _ B)).mono ?_); rintro r w1 ⟨a1, c1, rs, e1, rfl, hr1, bb⟩; have B := B.tr HSZ.out bb; have E1 := hid e1; clear e1; obtain ⟨m0, m1, m2, m3, m4⟩ := HK.out _ B)
        | (go_at_call 8; (with_reducible refine (hq8 _ (HW.out _ B)).mono ?_); rintro r w2 ⟨a2, c2, qs, e2, rfl, hr2, bb⟩; have B := B.tr HSZ.out bb; have E2 := hid e2; clear e2; have hr1 := hr1.on bb))
      have dr : Below w2.heap.size w2 w2.drew := (Below.refl _ _).drew
      have B := B.tr HSZ.out dr
      have hr1 := hr1.on dr
      have hr2 := hr2.on dr
      clear dr
      go_region_held3 (fun W => W.cell? ⟨w.heap.size, 0, none⟩ = some (.string name) ∧ W.cell? ⟨w.heap.size, 1, none⟩ = some (.bool star) ∧ W.cell? ⟨w.heap.size, 2, none⟩ = some (.int .i64 locs) ∧ W.cell? ⟨w.heap.size, 3, none⟩ = some (.slice ead es.length ecap) ∧ W.cell? ⟨w.heap.size, 4, none⟩ = some (.slice gad gl gc)) (exact HK.out _ B) (first
        | (go_at_call 9; (with_reducible refine (h9 _ _ _ _ _ _ _ _ _ E1.out E2.out hr1 hr2).mono ?_); rintro r u6 ⟨rfl, bb⟩; have B := B.tr HSZ.out bb)
        | (go_at_call 10; (with_reducible refine (h10 _ _ _ _ _ _ _ hs3 hs4).mono ?_); rintro r u9 ⟨rfl, bb⟩; have B := B.tr HSZ.out bb)
        | (go_at_call 11; (with_reducible refine (hq11 _ (HW.out _ B)).mono ?_); rintro r u7 ⟨a3, c3, rfl, hs3, bb⟩; have B := B.tr HSZ.out bb; try (have hs4 := hs4.on bb))
        | (go_at_call 12; (with_reducible refine (hq12 _ (HW.out _ B)).mono ?_); rintro r u8 ⟨a4, c4, rfl, hs4, bb⟩; have B := B.tr HSZ.out bb; try (have hs3 := hs3.on bb))
        | (go_at_call 6; (with_reducible refine (hq6 _).mono ?_); rintro r u3 ⟨rfl, bb⟩; have B := B.tr HSZ.out bb))
      all_goals go_wp2
      all_goals go_ret
      all_goals exact ⟨rfl, HW.out _ B⟩
  exact hmain
end Go.Proofs.Ythdkgfmlihgceaa
