/-
  PrintDeep hands back true.
-/
import Derived.Test.YtnljhlmopjgogaaDoorDpA
namespace Go.Proofs.YtnljhlmopjgogaaDoor
open Go.RowKit Px
/-- Six cells of a block are set. -/
def set6 (w : World) (b : Nat) (v0 v1 v2 v3 v4 v5 : Value) : World := (((((w.setCell ⟨b, 0, none⟩ v0).setCell ⟨b, 1, none⟩ v1).setCell ⟨b, 2, none⟩ v2).setCell ⟨b, 3, none⟩ v3).setCell ⟨b, 4, none⟩ v4).setCell ⟨b, 5, none⟩ v5
theorem set6_heap {w : World} {b : Nat} {c0 c1 c2 c3 c4 c5 : Value} {T : TypeId} (h : w.heap[b]? = some (.cells #[c0, c1, c2, c3, c4, c5] T (0, 0))) (v0 v1 v2 v3 v4 v5 : Value) : (set6 w b v0 v1 v2 v3 v4 v5).heap[b]? = some (.cells #[v0, v1, v2, v3, v4, v5] T (0, 0)) := by
  simp [set6, World.setCell, Array.getElem?_modify, h]
theorem set6_other (w : World) (b k : Nat) (hk : k ≠ b) (v0 v1 v2 v3 v4 v5 : Value) : (set6 w b v0 v1 v2 v3 v4 v5).heap[k]? = w.heap[k]? := by
  unfold set6
  rw [Below.heap_setCell _ _ _ _ (fun e => hk (by simp [e])), Below.heap_setCell _ _ _ _ (fun e => hk (by simp [e])), Below.heap_setCell _ _ _ _ (fun e => hk (by simp [e])), Below.heap_setCell _ _ _ _ (fun e => hk (by simp [e])), Below.heap_setCell _ _ _ _ (fun e => hk (by simp [e])), Below.heap_setCell _ _ _ _ (fun e => hk (by simp [e]))]
theorem set6_size (w : World) (b : Nat) (v0 v1 v2 v3 v4 v5 : Value) : (set6 w b v0 v1 v2 v3 v4 v5).heap.size = w.heap.size := by simp [set6, World.setCell]
theorem set6_below {n₀ : Nat} {u w : World} (h : Below n₀ u w) (b : Nat) (hb : n₀ ≤ b) (v0 v1 v2 v3 v4 v5 : Value) : Below n₀ u (set6 w b v0 v1 v2 v3 v4 v5) :=
  (((((h.setCell (p := ⟨b, 0, none⟩) hb _).setCell (p := ⟨b, 1, none⟩) hb _).setCell (p := ⟨b, 2, none⟩) hb _).setCell (p := ⟨b, 3, none⟩) hb _).setCell (p := ⟨b, 4, none⟩) hb _).setCell (p := ⟨b, 5, none⟩) hb _
theorem dp_next {op : Int} {Be n₀ : Nat} {w wr : World} {gs : List Nat} {hs : List (Nat × Nat)} {ad : Option Addr} {X : Ex} {Y : Bl} (bE : ExBox wr Be (dpE op gs)) (hA : DpAt op Be wr gs) (hD : DbAt ad Be wr hs) (hB : Below n₀ w wr) (hn : n₀ ≤ Be) (hX : dpE op gs = X) (hY : dpB ad hs = Y) :
    ExBox (((((set6 wr Be (.int .i64 op) (.string ⟨#[]⟩) (.string ⟨#[]⟩) (.int .i64 0) (.slice (some ⟨wr.heap.size, 0, none⟩) 1 1) (.int .i64 0)).alloc (.cells X.cells.toArray 24)).alloc (.cells #[Y.slice] 44)).alloc (.cells (dpS (wr.heap.size + 1) Y).cells.toArray 47))) Be (dpE op (wr.heap.size :: gs)) ∧
    DpAt op Be (((((set6 wr Be (.int .i64 op) (.string ⟨#[]⟩) (.string ⟨#[]⟩) (.int .i64 0) (.slice (some ⟨wr.heap.size, 0, none⟩) 1 1) (.int .i64 0)).alloc (.cells X.cells.toArray 24)).alloc (.cells #[Y.slice] 44)).alloc (.cells (dpS (wr.heap.size + 1) Y).cells.toArray 47))) (wr.heap.size :: gs) ∧
    DbAt ad Be (((((set6 wr Be (.int .i64 op) (.string ⟨#[]⟩) (.string ⟨#[]⟩) (.int .i64 0) (.slice (some ⟨wr.heap.size, 0, none⟩) 1 1) (.int .i64 0)).alloc (.cells X.cells.toArray 24)).alloc (.cells #[Y.slice] 44)).alloc (.cells (dpS (wr.heap.size + 1) Y).cells.toArray 47))) ((wr.heap.size + 1, wr.heap.size + 1 + 1) :: hs) ∧
    Below n₀ w (((((set6 wr Be (.int .i64 op) (.string ⟨#[]⟩) (.string ⟨#[]⟩) (.int .i64 0) (.slice (some ⟨wr.heap.size, 0, none⟩) 1 1) (.int .i64 0)).alloc (.cells X.cells.toArray 24)).alloc (.cells #[Y.slice] 44)).alloc (.cells (dpS (wr.heap.size + 1) Y).cells.toArray 47))) := by
  subst hX hY
  have hlt := bE.lt
  have bE1 : wr.heap[Be]? = some (.cells (dpE op gs).cells.toArray 24 (0, 0)) := bE
  obtain ⟨S, hS⟩ : ∃ S, set6 wr Be (.int .i64 op) (.string ⟨#[]⟩) (.string ⟨#[]⟩) (.int .i64 0) (.slice (some ⟨wr.heap.size, 0, none⟩) 1 1) (.int .i64 0) = S := ⟨_, rfl⟩
  have h1 : S.heap[Be]? = some (.cells (dpE op (wr.heap.size :: gs)).cells.toArray 24 (0, 0)) := by
    rw [← hS]
    rcases hx : dpE op gs with ⟨xop, xmon, xname, xn, xad, xcap, xkids, xpos⟩
    rw [hx] at bE1
    exact set6_heap bE1 _ _ _ _ _ _
  have h2 : ∀ k, k ≠ Be → S.heap[k]? = wr.heap[k]? := fun k hk => by rw [← hS]; exact set6_other _ _ _ hk _ _ _ _ _ _
  have h3 : S.heap.size = wr.heap.size := by rw [← hS]; exact set6_size _ _ _ _ _ _ _ _
  have h4 : Below n₀ w S := by rw [← hS]; exact set6_below hB _ hn _ _ _ _ _ _
  rw [hS]
  have hk : ∀ k, Be < k → k < wr.heap.size → (((S.alloc (.cells (dpE op gs).cells.toArray 24)).alloc (.cells #[(dpB ad hs).slice] 44)).alloc (.cells (dpS (wr.heap.size + 1) (dpB ad hs)).cells.toArray 47)).heap[k]? = wr.heap[k]? := fun k k1 k2 =>
    (Below.heap_alloc _ _ _ (by simp; omega)).trans ((Below.heap_alloc _ _ _ (by simp; omega)).trans ((Below.heap_alloc _ _ _ (by omega)).trans (h2 k (by omega))))
  have a1 : (((S.alloc (.cells (dpE op gs).cells.toArray 24)).alloc (.cells #[(dpB ad hs).slice] 44)).alloc (.cells (dpS (wr.heap.size + 1) (dpB ad hs)).cells.toArray 47)).heap[wr.heap.size]? = some (.cells (dpE op gs).cells.toArray 24 (0, 0)) := by
    rw [← h3]
    exact (Below.heap_alloc _ _ _ (by simp; omega)).trans ((Below.heap_alloc _ _ _ (by simp)).trans (heap_alloc_new S _))
  have a2 : (((S.alloc (.cells (dpE op gs).cells.toArray 24)).alloc (.cells #[(dpB ad hs).slice] 44)).alloc (.cells (dpS (wr.heap.size + 1) (dpB ad hs)).cells.toArray 47)).heap[wr.heap.size + 1]? = some (.cells #[(dpB ad hs).slice] 44 (0, 0)) := by
    rw [← h3]
    refine (Below.heap_alloc _ _ _ (by simp)).trans ?_
    have := heap_alloc_new (S.alloc (.cells (dpE op gs).cells.toArray 24)) (.cells #[(dpB ad hs).slice] 44)
    rwa [World.size_alloc] at this
  have a3 : (((S.alloc (.cells (dpE op gs).cells.toArray 24)).alloc (.cells #[(dpB ad hs).slice] 44)).alloc (.cells (dpS (wr.heap.size + 1) (dpB ad hs)).cells.toArray 47)).heap[wr.heap.size + 1 + 1]? = some (.cells (dpS (wr.heap.size + 1) (dpB ad hs)).cells.toArray 47 (0, 0)) := by
    have := heap_alloc_new ((S.alloc (.cells (dpE op gs).cells.toArray 24)).alloc (.cells #[(dpB ad hs).slice] 44)) (.cells (dpS (wr.heap.size + 1) (dpB ad hs)).cells.toArray 47)
    rwa [World.size_alloc, World.size_alloc, h3] at this
  refine ⟨?_, ⟨a1, hlt, hA.keep hk⟩, ⟨a2, a3, by omega, by omega, hD.keep hk⟩, ((h4.alloc (by rw [h3]; omega) _).alloc (by simp; omega) _).alloc (by simp; omega) _⟩
  exact (Below.heap_alloc _ _ _ (by simp; omega)).trans ((Below.heap_alloc _ _ _ (by simp; omega)).trans ((Below.heap_alloc _ _ _ (by omega)).trans h1))
set_option maxRecDepth 100000 in
set_option maxHeartbeats 4000000 in
theorem printDeep_walk (n op : Int) (w : World) (hL : Laid w) (hn : I64 n) : Calls Tryd.prog 6 #[.int .i64 n, .int .i64 op] w fun r w' => r = .returned (.bool true) ∧ Below w.heap.size w w' := by
  have hlive := live_any w hL
  unfold I64 at hn
  by_cases h0 : n < 0
  · have h0' : decide (n < 0) = true := decide_eq_true h0
    go_enter Tryd.func6, Tryd.ntmps6
    go_wp2_with (go_at_call 8; (with_reducible refine hlive.mono ?_); rintro r w1 ⟨rfl, b1⟩)
    go_ret
    exact ⟨rfl, b1⟩
  have h0' : decide (n < 0) = false := decide_eq_false h0
  by_cases h1 : 80 < n
  · have h1' : decide (80 < n) = true := decide_eq_true h1
    go_enter Tryd.func6, Tryd.ntmps6
    go_wp2_with (go_at_call 8; (with_reducible refine hlive.mono ?_); rintro r w1 ⟨rfl, b1⟩)
    go_ret
    exact ⟨rfl, b1⟩
  have h1' : decide (80 < n) = false := decide_eq_false h1
  by_cases ho : ¬ (op = 5 ∨ op = 6 ∨ op = 7)
  · have q5 : (op != 5) = true := by rw [bne_iff_ne]; omega
    have q6 : (op != 6) = true := by rw [bne_iff_ne]; omega
    have q7 : (op != 7) = true := by rw [bne_iff_ne]; omega
    clear ho
    go_enter Tryd.func6, Tryd.ntmps6
    go_wp2_with (go_at_call 8; (with_reducible refine hlive.mono ?_); rintro r w1 ⟨rfl, b1⟩)
    go_ret
    exact ⟨rfl, b1⟩
  have ho2 := Decidable.not_not.1 ho
  clear ho hlive
  have hv1 := v_any ⟨#[120]⟩ w
  obtain ⟨nn, rfl⟩ : ∃ nn : Nat, n = (nn : Int) := ⟨n.toNat, by omega⟩
  have hnn : nn ≤ 80 := by omega
  have h3 := hL.size
  rcases ho2 with rfl | rfl | rfl
  · go_enter Tryd.func6, Tryd.ntmps6
    go_upto_region 5 with (go_at_call 18; (with_reducible refine hv1.mono ?_); rintro r u1 ⟨rfl, bb1⟩)
    have hz1 := bb1.size
    have hB0 : Below w.heap.size w ((u1.alloc (.cells #[.int .i64 4, .string ⟨#[97]⟩, .string ⟨#[120]⟩, .int .i64 0, .slice none 0 0, .int .i64 0] 24)).alloc (.cells #[] 47)) := (bb1.al le_rfl' _).al le_rfl' _
    have bE0 : ExBox ((u1.alloc (.cells #[.int .i64 4, .string ⟨#[97]⟩, .string ⟨#[120]⟩, .int .i64 0, .slice none 0 0, .int .i64 0] 24)).alloc (.cells #[] 47)) u1.heap.size (lvX 120) := (Below.heap_alloc _ _ _ (by simp)).trans (heap_alloc_new u1 _)
    obtain ⟨W0, hW0⟩ : ∃ W0, (u1.alloc (.cells #[.int .i64 4, .string ⟨#[97]⟩, .string ⟨#[120]⟩, .int .i64 0, .slice none 0 0, .int .i64 0] 24)).alloc (.cells #[] 47) = W0 := ⟨_, rfl⟩
    rw [hW0] at hB0 bE0 ⊢
    obtain ⟨Be, hBe⟩ : ∃ Be, u1.heap.size = Be := ⟨_, rfl⟩
    rw [hBe] at bE0 hz1 ⊢
    clear hW0 hBe bb1 hv1
    go_wp2
    go_loopw [6, 7] (fun vb vi wr => ∃ (k : Nat) (gs : List Nat) (hs : List (Nat × Nat)), k ≤ nn ∧ Hid (gs.length = k ∧ hs.length = k) ∧ vb = (dpB (some ⟨Be + 1, 0, none⟩) hs).slice ∧ vi = .int .i64 (k : Int) ∧ ExBox wr Be (dpE 5 gs) ∧ DpAt 5 Be wr gs ∧ DbAt (some ⟨Be + 1, 0, none⟩) Be wr hs ∧ Below w.heap.size w wr) (fun _ i _ => nn - (intOf i).toNat)
    case atStart => exact ⟨0, [], [], by omega, ⟨rfl, rfl⟩, rfl, rfl, bE0, trivial, trivial, hB0⟩
    case round =>
      obtain ⟨k, gs, hs, hk, HLN, rfl, rfl, bE, hA, hD, hB⟩ := hrel
      have hBl := bE.lt
      rcases hx : dpE 5 gs with ⟨xop, xmon, xname, xn, xad, xcap, xkids, xpos⟩
      rcases hy : dpB (some ⟨Be + 1, 0, none⟩) hs with ⟨yad, ycap, ybody⟩
      have bE2 := bE
      rw [hx] at bE2
      obtain ⟨c0, c1, c2, c3, c4, c5⟩ := bE2.cells
      have HX := hid hx
      have HY := hid hy
      simp only [Bl.slice]
      by_cases hlt : k < nn
      · have hlt' : (k : Int) < (nn : Int) := by omega
        have f0 : ∀ i, wr.frozen? ⟨Be, i, none⟩ = false := fun i => Lib.frozen_of_heap bE i
        have hBn : Be ≠ wr.heap.size := by omega
        go_wp2
        go_roundw
        case rel =>
          have hnx := dp_next bE hA hD hB (by omega) HX.out HY.out
          have hln := HLN.out
          exact ⟨k + 1, wr.heap.size :: gs, (wr.heap.size + 1, wr.heap.size + 1 + 1) :: hs, by omega, ⟨by simp [hln.1], by simp [hln.2]⟩, rfl, by go_num, hnx⟩
        case measure => simp [intOf]; omega
      · have hkd : decide ((k : Int) < (nn : Int)) = false := by simp; omega
        have hkn : k = nn := by omega
        obtain ⟨hg, hh⟩ := HLN.out
        have hIe := DpAt.is (by omega) hA
        have hIb := DbAt.is hD
        obtain ⟨es, ec, heo, hec⟩ := dpE_out 5 (by omega) gs
        have hno : nestOut (dpE 5 gs) = nn := by rw [nestOut, dpE_ok 5 (by omega), dpE_nest1 5 (by omega), hg, hkn]; rfl
        have hsub : (dpE 5 gs).subs.length ≤ 1000000 := by rw [dpE_subs]; omega
        have hE1 : ∀ V, Below wr.heap.size wr V → Calls Tryd.prog 9 #[(dpE 5 gs).val] V fun r w' => r = .returned (.tuple #[.string es, .int .i64 ec]) ∧ Below V.heap.size V w' := fun V hV => by
          have := printExpr_any (dpE 5 gs) wr.heap.size V hV.size (hIe.below hV) (hL.below (hB.trans (hV.mono hB.size)) h3) hsub
          rwa [heo] at this
        have hE2 : ∀ V, Below wr.heap.size wr V → Calls Tryd.prog 12 #[(dpE 5 gs).val] V fun r w' => r = .returned (.int .i64 (nn : Int)) ∧ Below V.heap.size V w' := fun V hV => by
          have := nestExpr_any (dpE 5 gs) wr.heap.size V hV.size (hIe.below hV) (hL.below (hB.trans (hV.mono hB.size)) h3) hsub
          rwa [hno] at this
        have hP1 : ∀ V, Below wr.heap.size wr V → ∃ ts tc, ((tc == 41) = decide (64 < nn + 1)) ∧ Calls Tryd.prog 15 #[.agg #[.slice none 0 0, .slice (some ⟨V.heap.size, 0, none⟩) 1 1]] (V.alloc (.cells #[.string ⟨#[114]⟩, .bool true, .int .i64 0, (dpB (some ⟨Be + 1, 0, none⟩) hs).slice, .int .i64 0] 49)) fun r w' => r = .returned (.tuple #[.string ts, .int .i64 tc]) ∧ Below V.heap.size V w' := fun V hV => by
          obtain ⟨ts, tc, h1, h2⟩ := dpP_out (some ⟨Be + 1, 0, none⟩) hs V.heap.size
          refine ⟨ts, tc, by rw [h2, hh, hkn], ?_⟩
          have hV2 : Below V.heap.size V (V.alloc (.cells #[.string ⟨#[114]⟩, .bool true, .int .i64 0, (dpB (some ⟨Be + 1, 0, none⟩) hs).slice, .int .i64 0] 49)) := (Below.refl _ V).al le_rfl' _
          have h4 := printText_any (dpP (some ⟨Be + 1, 0, none⟩) hs V.heap.size) _ _ (Nat.le_refl _) (dpP_is ((((hIb.below hV).mono hV.size).below hV2).mono hV2.size) (heap_alloc_new V _)) (hL.below ((hB.trans (hV.mono hB.size)).trans (hV2.mono (by have := hB.size; have := hV.size; omega))) h3) (by rw [dpP_size, hh]; omega)
          rw [h1] at h4
          refine h4.mono ?_
          rintro r w' ⟨rfl, hb⟩
          exact ⟨rfl, hV2.tr le_rfl' hb⟩
        have hLv : ∀ V, Below wr.heap.size wr V → Calls Tryd.prog 8 #[] V fun r w' => r = .returned (.bool true) ∧ Below V.heap.size V w' := fun V hV => live_any V (hL.below (hB.trans (hV.mono hB.size)) h3)
        rw [hx] at hE1 hE2
        rw [hy] at hP1
        simp only [Ex.val, Ex.cells, Bl.slice] at hE1 hE2 hP1
        have HBX : Hid (∀ V, Below wr.heap.size wr V → V.cell? ⟨Be, 0, none⟩ = some (.int .i64 xop) ∧ V.cell? ⟨Be, 1, none⟩ = some (.string xmon) ∧ V.cell? ⟨Be, 2, none⟩ = some (.string xname) ∧ V.cell? ⟨Be, 3, none⟩ = some (.int .i64 xn) ∧ V.cell? ⟨Be, 4, none⟩ = some (.slice xad xkids.length xcap) ∧ V.cell? ⟨Be, 5, none⟩ = some (.int .i64 xpos)) := fun V hV => (bE2.below hV hBl).cells
        have HEC : Hid ((ec == 41) = decide (64 < nn)) := by show _ = _; rw [hec, hg, hkn]
        clear hec heo hno hsub hkn hx hy hIe hIb hA hD hg hh
        have B := Below.refl wr.heap.size wr
        by_cases hn64 : 64 < nn
        · have e41 : (ec == 41) = true := by rw [HEC.out]; exact decide_eq_true hn64
          have hn64' : (64 : Int) < (nn : Int) := by omega
          have hn65' : (64 : Int) < (nn : Int) + 1 := by omega
          go_wp2_with (first
            | (go_at_call 9; (with_reducible refine (hE1 _ B).mono ?_); rintro r w1 ⟨rfl, bb⟩; have B := B.tr le_rfl' bb; obtain ⟨ts, tc, htc, hP⟩ := hP1 w1 B; have t41 : (tc == 41) = true := (by rw [htc]; exact decide_eq_true (by omega)))
            | (go_at_call 15; (with_reducible refine hP.mono ?_); rintro r w2 ⟨rfl, bb⟩; have B := B.tr le_rfl' bb; obtain ⟨c0, c1, c2, c3, c4, c5⟩ := HBX.out _ B)
            | (go_at_call 12; (with_reducible refine (hE2 _ B).mono ?_); rintro r w4 ⟨rfl, bb⟩; have B := B.tr le_rfl' bb)
            | (go_at_call 11; (with_reducible refine (num_any3 _ _).mono ?_); rintro r w' ⟨rfl, hw'⟩; subst hw')
            | (go_at_call 8; (with_reducible refine (hLv _ B).mono ?_); rintro r w5 ⟨rfl, bb⟩; have B := B.tr le_rfl' bb))
          go_ret
          exact ⟨rfl, hB.trans (B.mono hB.size)⟩
        · have e41 : (ec == 41) = false := by rw [HEC.out]; exact decide_eq_false hn64
          have hn64' : decide ((64 : Int) < (nn : Int)) = false := by simp; omega
          by_cases hn65 : 64 < nn + 1
          · have hn65' : (64 : Int) < (nn : Int) + 1 := by omega
            go_wp2_with (first
              | (go_at_call 9; (with_reducible refine (hE1 _ B).mono ?_); rintro r w1 ⟨rfl, bb⟩; have B := B.tr le_rfl' bb; obtain ⟨ts, tc, htc, hP⟩ := hP1 w1 B; have t41 : (tc == 41) = true := (by rw [htc]; exact decide_eq_true (by omega)))
              | (go_at_call 15; (with_reducible refine hP.mono ?_); rintro r w2 ⟨rfl, bb⟩; have B := B.tr le_rfl' bb; obtain ⟨c0, c1, c2, c3, c4, c5⟩ := HBX.out _ B)
              | (go_at_call 12; (with_reducible refine (hE2 _ B).mono ?_); rintro r w4 ⟨rfl, bb⟩; have B := B.tr le_rfl' bb)
              | (go_at_call 11; (with_reducible refine (num_any3 _ _).mono ?_); rintro r w' ⟨rfl, hw'⟩; subst hw')
              | (go_at_call 8; (with_reducible refine (hLv _ B).mono ?_); rintro r w5 ⟨rfl, bb⟩; have B := B.tr le_rfl' bb))
            go_ret
            exact ⟨rfl, hB.trans (B.mono hB.size)⟩
          · have hn65' : decide ((64 : Int) < (nn : Int) + 1) = false := by simp; omega
            go_wp2_with (first
              | (go_at_call 9; (with_reducible refine (hE1 _ B).mono ?_); rintro r w1 ⟨rfl, bb⟩; have B := B.tr le_rfl' bb; obtain ⟨ts, tc, htc, hP⟩ := hP1 w1 B; have t41 : (tc == 41) = false := (by rw [htc]; exact decide_eq_false (by omega)))
              | (go_at_call 15; (with_reducible refine hP.mono ?_); rintro r w2 ⟨rfl, bb⟩; have B := B.tr le_rfl' bb; obtain ⟨c0, c1, c2, c3, c4, c5⟩ := HBX.out _ B)
              | (go_at_call 12; (with_reducible refine (hE2 _ B).mono ?_); rintro r w4 ⟨rfl, bb⟩; have B := B.tr le_rfl' bb)
              | (go_at_call 11; (with_reducible refine (num_any3 _ _).mono ?_); rintro r w' ⟨rfl, hw'⟩; subst hw')
              | (go_at_call 8; (with_reducible refine (hLv _ B).mono ?_); rintro r w5 ⟨rfl, bb⟩; have B := B.tr le_rfl' bb))
            go_ret
            exact ⟨rfl, hB.trans (B.mono hB.size)⟩
  · go_enter Tryd.func6, Tryd.ntmps6
    go_upto_region 5 with (go_at_call 18; (with_reducible refine hv1.mono ?_); rintro r u1 ⟨rfl, bb1⟩)
    have hz1 := bb1.size
    have hB0 : Below w.heap.size w ((u1.alloc (.cells #[.int .i64 4, .string ⟨#[97]⟩, .string ⟨#[120]⟩, .int .i64 0, .slice none 0 0, .int .i64 0] 24)).alloc (.cells #[] 47)) := (bb1.al le_rfl' _).al le_rfl' _
    have bE0 : ExBox ((u1.alloc (.cells #[.int .i64 4, .string ⟨#[97]⟩, .string ⟨#[120]⟩, .int .i64 0, .slice none 0 0, .int .i64 0] 24)).alloc (.cells #[] 47)) u1.heap.size (lvX 120) := (Below.heap_alloc _ _ _ (by simp)).trans (heap_alloc_new u1 _)
    obtain ⟨W0, hW0⟩ : ∃ W0, (u1.alloc (.cells #[.int .i64 4, .string ⟨#[97]⟩, .string ⟨#[120]⟩, .int .i64 0, .slice none 0 0, .int .i64 0] 24)).alloc (.cells #[] 47) = W0 := ⟨_, rfl⟩
    rw [hW0] at hB0 bE0 ⊢
    obtain ⟨Be, hBe⟩ : ∃ Be, u1.heap.size = Be := ⟨_, rfl⟩
    rw [hBe] at bE0 hz1 ⊢
    clear hW0 hBe bb1 hv1
    go_wp2
    go_loopw [6, 7] (fun vb vi wr => ∃ (k : Nat) (gs : List Nat) (hs : List (Nat × Nat)), k ≤ nn ∧ Hid (gs.length = k ∧ hs.length = k) ∧ vb = (dpB (some ⟨Be + 1, 0, none⟩) hs).slice ∧ vi = .int .i64 (k : Int) ∧ ExBox wr Be (dpE 6 gs) ∧ DpAt 6 Be wr gs ∧ DbAt (some ⟨Be + 1, 0, none⟩) Be wr hs ∧ Below w.heap.size w wr) (fun _ i _ => nn - (intOf i).toNat)
    case atStart => exact ⟨0, [], [], by omega, ⟨rfl, rfl⟩, rfl, rfl, bE0, trivial, trivial, hB0⟩
    case round =>
      obtain ⟨k, gs, hs, hk, HLN, rfl, rfl, bE, hA, hD, hB⟩ := hrel
      have hBl := bE.lt
      rcases hx : dpE 6 gs with ⟨xop, xmon, xname, xn, xad, xcap, xkids, xpos⟩
      rcases hy : dpB (some ⟨Be + 1, 0, none⟩) hs with ⟨yad, ycap, ybody⟩
      have bE2 := bE
      rw [hx] at bE2
      obtain ⟨c0, c1, c2, c3, c4, c5⟩ := bE2.cells
      have HX := hid hx
      have HY := hid hy
      simp only [Bl.slice]
      by_cases hlt : k < nn
      · have hlt' : (k : Int) < (nn : Int) := by omega
        have f0 : ∀ i, wr.frozen? ⟨Be, i, none⟩ = false := fun i => Lib.frozen_of_heap bE i
        have hBn : Be ≠ wr.heap.size := by omega
        go_wp2
        go_roundw
        case rel =>
          have hnx := dp_next bE hA hD hB (by omega) HX.out HY.out
          have hln := HLN.out
          exact ⟨k + 1, wr.heap.size :: gs, (wr.heap.size + 1, wr.heap.size + 1 + 1) :: hs, by omega, ⟨by simp [hln.1], by simp [hln.2]⟩, rfl, by go_num, hnx⟩
        case measure => simp [intOf]; omega
      · have hkd : decide ((k : Int) < (nn : Int)) = false := by simp; omega
        have hkn : k = nn := by omega
        obtain ⟨hg, hh⟩ := HLN.out
        have hIe := DpAt.is (by omega) hA
        have hIb := DbAt.is hD
        obtain ⟨es, ec, heo, hec⟩ := dpE_out 6 (by omega) gs
        have hno : nestOut (dpE 6 gs) = nn := by rw [nestOut, dpE_ok 6 (by omega), dpE_nest1 6 (by omega), hg, hkn]; rfl
        have hsub : (dpE 6 gs).subs.length ≤ 1000000 := by rw [dpE_subs]; omega
        have hE1 : ∀ V, Below wr.heap.size wr V → Calls Tryd.prog 9 #[(dpE 6 gs).val] V fun r w' => r = .returned (.tuple #[.string es, .int .i64 ec]) ∧ Below V.heap.size V w' := fun V hV => by
          have := printExpr_any (dpE 6 gs) wr.heap.size V hV.size (hIe.below hV) (hL.below (hB.trans (hV.mono hB.size)) h3) hsub
          rwa [heo] at this
        have hE2 : ∀ V, Below wr.heap.size wr V → Calls Tryd.prog 12 #[(dpE 6 gs).val] V fun r w' => r = .returned (.int .i64 (nn : Int)) ∧ Below V.heap.size V w' := fun V hV => by
          have := nestExpr_any (dpE 6 gs) wr.heap.size V hV.size (hIe.below hV) (hL.below (hB.trans (hV.mono hB.size)) h3) hsub
          rwa [hno] at this
        have hP1 : ∀ V, Below wr.heap.size wr V → ∃ ts tc, ((tc == 41) = decide (64 < nn + 1)) ∧ Calls Tryd.prog 15 #[.agg #[.slice none 0 0, .slice (some ⟨V.heap.size, 0, none⟩) 1 1]] (V.alloc (.cells #[.string ⟨#[114]⟩, .bool true, .int .i64 0, (dpB (some ⟨Be + 1, 0, none⟩) hs).slice, .int .i64 0] 49)) fun r w' => r = .returned (.tuple #[.string ts, .int .i64 tc]) ∧ Below V.heap.size V w' := fun V hV => by
          obtain ⟨ts, tc, h1, h2⟩ := dpP_out (some ⟨Be + 1, 0, none⟩) hs V.heap.size
          refine ⟨ts, tc, by rw [h2, hh, hkn], ?_⟩
          have hV2 : Below V.heap.size V (V.alloc (.cells #[.string ⟨#[114]⟩, .bool true, .int .i64 0, (dpB (some ⟨Be + 1, 0, none⟩) hs).slice, .int .i64 0] 49)) := (Below.refl _ V).al le_rfl' _
          have h4 := printText_any (dpP (some ⟨Be + 1, 0, none⟩) hs V.heap.size) _ _ (Nat.le_refl _) (dpP_is ((((hIb.below hV).mono hV.size).below hV2).mono hV2.size) (heap_alloc_new V _)) (hL.below ((hB.trans (hV.mono hB.size)).trans (hV2.mono (by have := hB.size; have := hV.size; omega))) h3) (by rw [dpP_size, hh]; omega)
          rw [h1] at h4
          refine h4.mono ?_
          rintro r w' ⟨rfl, hb⟩
          exact ⟨rfl, hV2.tr le_rfl' hb⟩
        have hLv : ∀ V, Below wr.heap.size wr V → Calls Tryd.prog 8 #[] V fun r w' => r = .returned (.bool true) ∧ Below V.heap.size V w' := fun V hV => live_any V (hL.below (hB.trans (hV.mono hB.size)) h3)
        rw [hx] at hE1 hE2
        rw [hy] at hP1
        simp only [Ex.val, Ex.cells, Bl.slice] at hE1 hE2 hP1
        have HBX : Hid (∀ V, Below wr.heap.size wr V → V.cell? ⟨Be, 0, none⟩ = some (.int .i64 xop) ∧ V.cell? ⟨Be, 1, none⟩ = some (.string xmon) ∧ V.cell? ⟨Be, 2, none⟩ = some (.string xname) ∧ V.cell? ⟨Be, 3, none⟩ = some (.int .i64 xn) ∧ V.cell? ⟨Be, 4, none⟩ = some (.slice xad xkids.length xcap) ∧ V.cell? ⟨Be, 5, none⟩ = some (.int .i64 xpos)) := fun V hV => (bE2.below hV hBl).cells
        have HEC : Hid ((ec == 41) = decide (64 < nn)) := by show _ = _; rw [hec, hg, hkn]
        clear hec heo hno hsub hkn hx hy hIe hIb hA hD hg hh
        have B := Below.refl wr.heap.size wr
        by_cases hn64 : 64 < nn
        · have e41 : (ec == 41) = true := by rw [HEC.out]; exact decide_eq_true hn64
          have hn64' : (64 : Int) < (nn : Int) := by omega
          have hn65' : (64 : Int) < (nn : Int) + 1 := by omega
          go_wp2_with (first
            | (go_at_call 9; (with_reducible refine (hE1 _ B).mono ?_); rintro r w1 ⟨rfl, bb⟩; have B := B.tr le_rfl' bb; obtain ⟨ts, tc, htc, hP⟩ := hP1 w1 B; have t41 : (tc == 41) = true := (by rw [htc]; exact decide_eq_true (by omega)))
            | (go_at_call 15; (with_reducible refine hP.mono ?_); rintro r w2 ⟨rfl, bb⟩; have B := B.tr le_rfl' bb; obtain ⟨c0, c1, c2, c3, c4, c5⟩ := HBX.out _ B)
            | (go_at_call 12; (with_reducible refine (hE2 _ B).mono ?_); rintro r w4 ⟨rfl, bb⟩; have B := B.tr le_rfl' bb)
            | (go_at_call 11; (with_reducible refine (num_any3 _ _).mono ?_); rintro r w' ⟨rfl, hw'⟩; subst hw')
            | (go_at_call 8; (with_reducible refine (hLv _ B).mono ?_); rintro r w5 ⟨rfl, bb⟩; have B := B.tr le_rfl' bb))
          go_ret
          exact ⟨rfl, hB.trans (B.mono hB.size)⟩
        · have e41 : (ec == 41) = false := by rw [HEC.out]; exact decide_eq_false hn64
          have hn64' : decide ((64 : Int) < (nn : Int)) = false := by simp; omega
          by_cases hn65 : 64 < nn + 1
          · have hn65' : (64 : Int) < (nn : Int) + 1 := by omega
            go_wp2_with (first
              | (go_at_call 9; (with_reducible refine (hE1 _ B).mono ?_); rintro r w1 ⟨rfl, bb⟩; have B := B.tr le_rfl' bb; obtain ⟨ts, tc, htc, hP⟩ := hP1 w1 B; have t41 : (tc == 41) = true := (by rw [htc]; exact decide_eq_true (by omega)))
              | (go_at_call 15; (with_reducible refine hP.mono ?_); rintro r w2 ⟨rfl, bb⟩; have B := B.tr le_rfl' bb; obtain ⟨c0, c1, c2, c3, c4, c5⟩ := HBX.out _ B)
              | (go_at_call 12; (with_reducible refine (hE2 _ B).mono ?_); rintro r w4 ⟨rfl, bb⟩; have B := B.tr le_rfl' bb)
              | (go_at_call 11; (with_reducible refine (num_any3 _ _).mono ?_); rintro r w' ⟨rfl, hw'⟩; subst hw')
              | (go_at_call 8; (with_reducible refine (hLv _ B).mono ?_); rintro r w5 ⟨rfl, bb⟩; have B := B.tr le_rfl' bb))
            go_ret
            exact ⟨rfl, hB.trans (B.mono hB.size)⟩
          · have hn65' : decide ((64 : Int) < (nn : Int) + 1) = false := by simp; omega
            go_wp2_with (first
              | (go_at_call 9; (with_reducible refine (hE1 _ B).mono ?_); rintro r w1 ⟨rfl, bb⟩; have B := B.tr le_rfl' bb; obtain ⟨ts, tc, htc, hP⟩ := hP1 w1 B; have t41 : (tc == 41) = false := (by rw [htc]; exact decide_eq_false (by omega)))
              | (go_at_call 15; (with_reducible refine hP.mono ?_); rintro r w2 ⟨rfl, bb⟩; have B := B.tr le_rfl' bb; obtain ⟨c0, c1, c2, c3, c4, c5⟩ := HBX.out _ B)
              | (go_at_call 12; (with_reducible refine (hE2 _ B).mono ?_); rintro r w4 ⟨rfl, bb⟩; have B := B.tr le_rfl' bb)
              | (go_at_call 11; (with_reducible refine (num_any3 _ _).mono ?_); rintro r w' ⟨rfl, hw'⟩; subst hw')
              | (go_at_call 8; (with_reducible refine (hLv _ B).mono ?_); rintro r w5 ⟨rfl, bb⟩; have B := B.tr le_rfl' bb))
            go_ret
            exact ⟨rfl, hB.trans (B.mono hB.size)⟩
  · go_enter Tryd.func6, Tryd.ntmps6
    go_upto_region 5 with (go_at_call 18; (with_reducible refine hv1.mono ?_); rintro r u1 ⟨rfl, bb1⟩)
    have hz1 := bb1.size
    have hB0 : Below w.heap.size w ((u1.alloc (.cells #[.int .i64 4, .string ⟨#[97]⟩, .string ⟨#[120]⟩, .int .i64 0, .slice none 0 0, .int .i64 0] 24)).alloc (.cells #[] 47)) := (bb1.al le_rfl' _).al le_rfl' _
    have bE0 : ExBox ((u1.alloc (.cells #[.int .i64 4, .string ⟨#[97]⟩, .string ⟨#[120]⟩, .int .i64 0, .slice none 0 0, .int .i64 0] 24)).alloc (.cells #[] 47)) u1.heap.size (lvX 120) := (Below.heap_alloc _ _ _ (by simp)).trans (heap_alloc_new u1 _)
    obtain ⟨W0, hW0⟩ : ∃ W0, (u1.alloc (.cells #[.int .i64 4, .string ⟨#[97]⟩, .string ⟨#[120]⟩, .int .i64 0, .slice none 0 0, .int .i64 0] 24)).alloc (.cells #[] 47) = W0 := ⟨_, rfl⟩
    rw [hW0] at hB0 bE0 ⊢
    obtain ⟨Be, hBe⟩ : ∃ Be, u1.heap.size = Be := ⟨_, rfl⟩
    rw [hBe] at bE0 hz1 ⊢
    clear hW0 hBe bb1 hv1
    go_wp2
    go_loopw [6, 7] (fun vb vi wr => ∃ (k : Nat) (gs : List Nat) (hs : List (Nat × Nat)), k ≤ nn ∧ Hid (gs.length = k ∧ hs.length = k) ∧ vb = (dpB (some ⟨Be + 1, 0, none⟩) hs).slice ∧ vi = .int .i64 (k : Int) ∧ ExBox wr Be (dpE 7 gs) ∧ DpAt 7 Be wr gs ∧ DbAt (some ⟨Be + 1, 0, none⟩) Be wr hs ∧ Below w.heap.size w wr) (fun _ i _ => nn - (intOf i).toNat)
    case atStart => exact ⟨0, [], [], by omega, ⟨rfl, rfl⟩, rfl, rfl, bE0, trivial, trivial, hB0⟩
    case round =>
      obtain ⟨k, gs, hs, hk, HLN, rfl, rfl, bE, hA, hD, hB⟩ := hrel
      have hBl := bE.lt
      rcases hx : dpE 7 gs with ⟨xop, xmon, xname, xn, xad, xcap, xkids, xpos⟩
      rcases hy : dpB (some ⟨Be + 1, 0, none⟩) hs with ⟨yad, ycap, ybody⟩
      have bE2 := bE
      rw [hx] at bE2
      obtain ⟨c0, c1, c2, c3, c4, c5⟩ := bE2.cells
      have HX := hid hx
      have HY := hid hy
      simp only [Bl.slice]
      by_cases hlt : k < nn
      · have hlt' : (k : Int) < (nn : Int) := by omega
        have f0 : ∀ i, wr.frozen? ⟨Be, i, none⟩ = false := fun i => Lib.frozen_of_heap bE i
        have hBn : Be ≠ wr.heap.size := by omega
        go_wp2
        go_roundw
        case rel =>
          have hnx := dp_next bE hA hD hB (by omega) HX.out HY.out
          have hln := HLN.out
          exact ⟨k + 1, wr.heap.size :: gs, (wr.heap.size + 1, wr.heap.size + 1 + 1) :: hs, by omega, ⟨by simp [hln.1], by simp [hln.2]⟩, rfl, by go_num, hnx⟩
        case measure => simp [intOf]; omega
      · have hkd : decide ((k : Int) < (nn : Int)) = false := by simp; omega
        have hkn : k = nn := by omega
        obtain ⟨hg, hh⟩ := HLN.out
        have hIe := DpAt.is (by omega) hA
        have hIb := DbAt.is hD
        obtain ⟨es, ec, heo, hec⟩ := dpE_out 7 (by omega) gs
        have hno : nestOut (dpE 7 gs) = nn := by rw [nestOut, dpE_ok 7 (by omega), dpE_nest1 7 (by omega), hg, hkn]; rfl
        have hsub : (dpE 7 gs).subs.length ≤ 1000000 := by rw [dpE_subs]; omega
        have hE1 : ∀ V, Below wr.heap.size wr V → Calls Tryd.prog 9 #[(dpE 7 gs).val] V fun r w' => r = .returned (.tuple #[.string es, .int .i64 ec]) ∧ Below V.heap.size V w' := fun V hV => by
          have := printExpr_any (dpE 7 gs) wr.heap.size V hV.size (hIe.below hV) (hL.below (hB.trans (hV.mono hB.size)) h3) hsub
          rwa [heo] at this
        have hE2 : ∀ V, Below wr.heap.size wr V → Calls Tryd.prog 12 #[(dpE 7 gs).val] V fun r w' => r = .returned (.int .i64 (nn : Int)) ∧ Below V.heap.size V w' := fun V hV => by
          have := nestExpr_any (dpE 7 gs) wr.heap.size V hV.size (hIe.below hV) (hL.below (hB.trans (hV.mono hB.size)) h3) hsub
          rwa [hno] at this
        have hP1 : ∀ V, Below wr.heap.size wr V → ∃ ts tc, ((tc == 41) = decide (64 < nn + 1)) ∧ Calls Tryd.prog 15 #[.agg #[.slice none 0 0, .slice (some ⟨V.heap.size, 0, none⟩) 1 1]] (V.alloc (.cells #[.string ⟨#[114]⟩, .bool true, .int .i64 0, (dpB (some ⟨Be + 1, 0, none⟩) hs).slice, .int .i64 0] 49)) fun r w' => r = .returned (.tuple #[.string ts, .int .i64 tc]) ∧ Below V.heap.size V w' := fun V hV => by
          obtain ⟨ts, tc, h1, h2⟩ := dpP_out (some ⟨Be + 1, 0, none⟩) hs V.heap.size
          refine ⟨ts, tc, by rw [h2, hh, hkn], ?_⟩
          have hV2 : Below V.heap.size V (V.alloc (.cells #[.string ⟨#[114]⟩, .bool true, .int .i64 0, (dpB (some ⟨Be + 1, 0, none⟩) hs).slice, .int .i64 0] 49)) := (Below.refl _ V).al le_rfl' _
          have h4 := printText_any (dpP (some ⟨Be + 1, 0, none⟩) hs V.heap.size) _ _ (Nat.le_refl _) (dpP_is ((((hIb.below hV).mono hV.size).below hV2).mono hV2.size) (heap_alloc_new V _)) (hL.below ((hB.trans (hV.mono hB.size)).trans (hV2.mono (by have := hB.size; have := hV.size; omega))) h3) (by rw [dpP_size, hh]; omega)
          rw [h1] at h4
          refine h4.mono ?_
          rintro r w' ⟨rfl, hb⟩
          exact ⟨rfl, hV2.tr le_rfl' hb⟩
        have hLv : ∀ V, Below wr.heap.size wr V → Calls Tryd.prog 8 #[] V fun r w' => r = .returned (.bool true) ∧ Below V.heap.size V w' := fun V hV => live_any V (hL.below (hB.trans (hV.mono hB.size)) h3)
        rw [hx] at hE1 hE2
        rw [hy] at hP1
        simp only [Ex.val, Ex.cells, Bl.slice] at hE1 hE2 hP1
        have HBX : Hid (∀ V, Below wr.heap.size wr V → V.cell? ⟨Be, 0, none⟩ = some (.int .i64 xop) ∧ V.cell? ⟨Be, 1, none⟩ = some (.string xmon) ∧ V.cell? ⟨Be, 2, none⟩ = some (.string xname) ∧ V.cell? ⟨Be, 3, none⟩ = some (.int .i64 xn) ∧ V.cell? ⟨Be, 4, none⟩ = some (.slice xad xkids.length xcap) ∧ V.cell? ⟨Be, 5, none⟩ = some (.int .i64 xpos)) := fun V hV => (bE2.below hV hBl).cells
        have HEC : Hid ((ec == 41) = decide (64 < nn)) := by show _ = _; rw [hec, hg, hkn]
        clear hec heo hno hsub hkn hx hy hIe hIb hA hD hg hh
        have B := Below.refl wr.heap.size wr
        by_cases hn64 : 64 < nn
        · have e41 : (ec == 41) = true := by rw [HEC.out]; exact decide_eq_true hn64
          have hn64' : (64 : Int) < (nn : Int) := by omega
          have hn65' : (64 : Int) < (nn : Int) + 1 := by omega
          go_wp2_with (first
            | (go_at_call 9; (with_reducible refine (hE1 _ B).mono ?_); rintro r w1 ⟨rfl, bb⟩; have B := B.tr le_rfl' bb; obtain ⟨ts, tc, htc, hP⟩ := hP1 w1 B; have t41 : (tc == 41) = true := (by rw [htc]; exact decide_eq_true (by omega)))
            | (go_at_call 15; (with_reducible refine hP.mono ?_); rintro r w2 ⟨rfl, bb⟩; have B := B.tr le_rfl' bb; obtain ⟨c0, c1, c2, c3, c4, c5⟩ := HBX.out _ B)
            | (go_at_call 12; (with_reducible refine (hE2 _ B).mono ?_); rintro r w4 ⟨rfl, bb⟩; have B := B.tr le_rfl' bb)
            | (go_at_call 11; (with_reducible refine (num_any3 _ _).mono ?_); rintro r w' ⟨rfl, hw'⟩; subst hw')
            | (go_at_call 8; (with_reducible refine (hLv _ B).mono ?_); rintro r w5 ⟨rfl, bb⟩; have B := B.tr le_rfl' bb))
          go_ret
          exact ⟨rfl, hB.trans (B.mono hB.size)⟩
        · have e41 : (ec == 41) = false := by rw [HEC.out]; exact decide_eq_false hn64
          have hn64' : decide ((64 : Int) < (nn : Int)) = false := by simp; omega
          by_cases hn65 : 64 < nn + 1
          · have hn65' : (64 : Int) < (nn : Int) + 1 := by omega
            go_wp2_with (first
              | (go_at_call 9; (with_reducible refine (hE1 _ B).mono ?_); rintro r w1 ⟨rfl, bb⟩; have B := B.tr le_rfl' bb; obtain ⟨ts, tc, htc, hP⟩ := hP1 w1 B; have t41 : (tc == 41) = true := (by rw [htc]; exact decide_eq_true (by omega)))
              | (go_at_call 15; (with_reducible refine hP.mono ?_); rintro r w2 ⟨rfl, bb⟩; have B := B.tr le_rfl' bb; obtain ⟨c0, c1, c2, c3, c4, c5⟩ := HBX.out _ B)
              | (go_at_call 12; (with_reducible refine (hE2 _ B).mono ?_); rintro r w4 ⟨rfl, bb⟩; have B := B.tr le_rfl' bb)
              | (go_at_call 11; (with_reducible refine (num_any3 _ _).mono ?_); rintro r w' ⟨rfl, hw'⟩; subst hw')
              | (go_at_call 8; (with_reducible refine (hLv _ B).mono ?_); rintro r w5 ⟨rfl, bb⟩; have B := B.tr le_rfl' bb))
            go_ret
            exact ⟨rfl, hB.trans (B.mono hB.size)⟩
          · have hn65' : decide ((64 : Int) < (nn : Int) + 1) = false := by simp; omega
            go_wp2_with (first
              | (go_at_call 9; (with_reducible refine (hE1 _ B).mono ?_); rintro r w1 ⟨rfl, bb⟩; have B := B.tr le_rfl' bb; obtain ⟨ts, tc, htc, hP⟩ := hP1 w1 B; have t41 : (tc == 41) = false := (by rw [htc]; exact decide_eq_false (by omega)))
              | (go_at_call 15; (with_reducible refine hP.mono ?_); rintro r w2 ⟨rfl, bb⟩; have B := B.tr le_rfl' bb; obtain ⟨c0, c1, c2, c3, c4, c5⟩ := HBX.out _ B)
              | (go_at_call 12; (with_reducible refine (hE2 _ B).mono ?_); rintro r w4 ⟨rfl, bb⟩; have B := B.tr le_rfl' bb)
              | (go_at_call 11; (with_reducible refine (num_any3 _ _).mono ?_); rintro r w' ⟨rfl, hw'⟩; subst hw')
              | (go_at_call 8; (with_reducible refine (hLv _ B).mono ?_); rintro r w5 ⟨rfl, bb⟩; have B := B.tr le_rfl' bb))
            go_ret
            exact ⟨rfl, hB.trans (B.mono hB.size)⟩
end Go.Proofs.YtnljhlmopjgogaaDoor
