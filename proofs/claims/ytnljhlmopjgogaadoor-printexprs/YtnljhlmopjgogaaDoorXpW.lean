/-
  Expr and NestExpr of the document's answer; PrintExprs hands back true.
-/
import Derived.Test.YtnljhlmopjgogaaDoorRfC
import Derived.Test.YtnljhlmopjgogaaDoorIeB
import Derived.Test.YtnljhlmopjgogaaDoorLvD
namespace Go.Proofs.YtnljhlmopjgogaaDoor
open Go.RowKit Px
set_option maxRecDepth 100000 in
set_option maxHeartbeats 1000000 in
theorem refE_any (e : Ex) (n₀ : Nat) (w : World) (hn : n₀ ≤ w.heap.size) (hI : e.Is n₀ w) (hsz : e.subs.length ≤ 1000000) :
    Calls Tryd.prog 10 #[e.val] w fun r w' => r = .returned (exprOut e) ∧ Below w.heap.size w w' := by
  have hchk : ∀ W, Below w.heap.size w W → Calls Tryd.prog 25 #[e.val] W fun r w' => r = .returned (.bool e.ok) ∧ Below W.heap.size W w' := fun W hW =>
    refIsExpr_any n₀ e W (by have := hW.size; omega) (hI.below (hW.mono hn))
  have hnst : e.ok = true → ∀ W, Below w.heap.size w W → Calls Tryd.prog 26 #[e.val, .int .i64 1] W fun r w' => r = .returned (.int .i64 ((e.nest 1 : Nat) : Int)) ∧ Below W.heap.size W w' := fun hk W hW =>
    refNest_any e hk n₀ W 1 (by have := hW.size; omega) (hI.below (hW.mono hn)) hsz
  have hlay : e.ok = true → ∀ W, Below w.heap.size w W → Calls Tryd.prog 27 #[e.val, .int .i64 1] W fun r w' => r = .returned (.string ⟨(e.txt 1).toArray⟩) ∧ Below W.heap.size W w' := fun hk W hW =>
    refExpr_any e hk n₀ W 1 (by have := hW.size; omega) (hI.below (hW.mono hn)) hsz
  have HO : Hid (exprOut e = if e.ok then (if 64 < e.nest 1 then .tuple #[.string ⟨#[]⟩, .int .i64 41] else toldOf (e.txt 1)) else .tuple #[.string ⟨#[]⟩, .int .i64 20]) := rfl
  have hbl : e.ok = true → (e.txt 1).length ≤ 200000000 := fun hk => by
    have h1 := bare_len e n₀ w hI hk
    have h2 := atL_len 1 e.opOf e.bare
    unfold Ex.txt; omega
  obtain ⟨out, hout⟩ : ∃ out, exprOut e = out := ⟨_, rfl⟩
  rw [hout] at HO ⊢
  clear hout
  obtain ⟨tx, htx⟩ : ∃ tx, e.txt 1 = tx := ⟨_, rfl⟩
  obtain ⟨y, hy⟩ : ∃ y, e.nest 1 = y := ⟨_, rfl⟩
  rw [htx, hy] at HO
  rw [htx] at hbl
  simp only [htx] at hlay
  simp only [hy] at hnst
  clear htx hy hsz hI
  obtain ⟨ok, hok⟩ : ∃ ok, e.ok = ok := ⟨_, rfl⟩
  simp only [hok] at hchk hlay hnst HO hbl
  clear hok
  rcases e with ⟨op, mon, name, n, ad, cap, kids, pos⟩
  simp only [Ex.val, Ex.cells] at hchk hnst hlay ⊢
  have hB0 : Below w.heap.size w (w.alloc (.cells #[.int .i64 op, .string mon, .string name, .int .i64 n, .slice ad kids.length cap, .int .i64 pos] 24)) := (Below.refl _ w).al le_rfl' _
  have bB : ExBox (w.alloc (.cells #[.int .i64 op, .string mon, .string name, .int .i64 n, .slice ad kids.length cap, .int .i64 pos] 24)) w.heap.size (.mk op mon name n ad cap kids pos) := ExBox.new w (.mk op mon name n ad cap kids pos)
  have hz0 : w.heap.size < (w.alloc (.cells #[.int .i64 op, .string mon, .string name, .int .i64 n, .slice ad kids.length cap, .int .i64 pos] 24)).heap.size := by simp
  have hc0 := hchk _ hB0
  cases ok
  · have HO2 : Hid (out = .tuple #[.string ⟨#[]⟩, .int .i64 20]) := by show _ = _; rw [HO.out]; simp
    go_enter Tryd.func10, Tryd.ntmps10
    go_wp2_with (go_at_call 25; (with_reducible refine hc0.mono ?_); rintro r w1 ⟨rfl, b1⟩)
    go_ret2
    exact ⟨by rw [HO2.out]; rfl, hB0.tr le_rfl' b1⟩
  · have hn1 := hnst (by trivial)
    have hl1 := hlay (by trivial)
    have htl := hbl (by trivial)
    by_cases hd : 64 < y
    · have hd' : (64 : Int) < (y : Int) := by omega
      have HO2 : Hid (out = .tuple #[.string ⟨#[]⟩, .int .i64 41]) := by show _ = _; rw [HO.out]; simp [hd]
      clear HO hlay hnst hbl
      go_enter Tryd.func10, Tryd.ntmps10
      go_wp2_with (first
        | (go_at_call 25; (with_reducible refine hc0.mono ?_); rintro r w1 ⟨rfl, b1⟩; have B1 := hB0.tr le_rfl' b1; have bB1 := bB.below b1 hz0; obtain ⟨f0, f1, f2, f3, f4, f5⟩ := bB1.cells; have hn2 := hn1 w1 B1)
        | (go_at_call 26; (with_reducible refine hn2.mono ?_); rintro r w2 ⟨rfl, b2⟩))
      go_ret2
      exact ⟨by rw [HO2.out]; rfl, B1.tr le_rfl' b2⟩
    · have hd' : decide ((64 : Int) < (y : Int)) = false := by simp; omega
      by_cases hlg : 20000 < tx.length
      · have HO2 : Hid (out = .tuple #[.string ⟨#[]⟩, .int .i64 1]) := by show _ = _; rw [HO.out]; simp [hd, toldOf, hlg]
        obtain ⟨s, hs⟩ : ∃ s : ByteArray, (⟨tx.toArray⟩ : ByteArray) = s := ⟨_, rfl⟩
        have hsl : (20000 : Int) < (s.size : Int) := by rw [← hs]; show (20000 : Int) < ((tx.toArray.size : Nat) : Int); rw [List.size_toArray]; omega
        have hsu : s.size ≤ 200000000 := by rw [← hs]; show tx.toArray.size ≤ _; rw [List.size_toArray]; exact htl
        simp only [hs] at hl1
        clear HO hlay hnst hbl hd hlg hs
        go_enter Tryd.func10, Tryd.ntmps10
        go_wp2_with (first
          | (go_at_call 25; (with_reducible refine hc0.mono ?_); rintro r w1 ⟨rfl, b1⟩; have B1 := hB0.tr le_rfl' b1; have bB1 := bB.below b1 hz0; have hz1 := bB1.lt; obtain ⟨f0, f1, f2, f3, f4, f5⟩ := bB1.cells; have hn2 := hn1 w1 B1)
          | (go_at_call 26; (with_reducible refine hn2.mono ?_); rintro r w2 ⟨rfl, b2⟩; have B2 := B1.tr le_rfl' b2; clear f0 f1 f2 f3 f4 f5; obtain ⟨f0, f1, f2, f3, f4, f5⟩ := (bB1.below b2 hz1).cells; have hl2 := hl1 w2 B2)
          | (go_at_call 27; (with_reducible refine hl2.mono ?_); rintro r w3 ⟨rfl, b3⟩))
        go_ret2
        exact ⟨by rw [HO2.out]; rfl, B2.tr le_rfl' b3⟩
      · have HO2 : Hid (out = .tuple #[.string ⟨tx.toArray⟩, .int .i64 0]) := by show _ = _; rw [HO.out]; simp [hd, toldOf, hlg]
        obtain ⟨s, hs⟩ : ∃ s : ByteArray, (⟨tx.toArray⟩ : ByteArray) = s := ⟨_, rfl⟩
        have hsl : decide ((20000 : Int) < (s.size : Int)) = false := by rw [← hs]; rw [decide_eq_false_iff_not]; show ¬ (20000 : Int) < ((tx.toArray.size : Nat) : Int); rw [List.size_toArray]; omega
        have hsu : s.size ≤ 200000000 := by rw [← hs]; show tx.toArray.size ≤ _; rw [List.size_toArray]; exact htl
        rw [hs] at HO2
        simp only [hs] at hl1
        clear HO hlay hnst hbl hd hlg hs
        go_enter Tryd.func10, Tryd.ntmps10
        go_wp2_with (first
          | (go_at_call 25; (with_reducible refine hc0.mono ?_); rintro r w1 ⟨rfl, b1⟩; have B1 := hB0.tr le_rfl' b1; have bB1 := bB.below b1 hz0; have hz1 := bB1.lt; obtain ⟨f0, f1, f2, f3, f4, f5⟩ := bB1.cells; have hn2 := hn1 w1 B1)
          | (go_at_call 26; (with_reducible refine hn2.mono ?_); rintro r w2 ⟨rfl, b2⟩; have B2 := B1.tr le_rfl' b2; clear f0 f1 f2 f3 f4 f5; obtain ⟨f0, f1, f2, f3, f4, f5⟩ := (bB1.below b2 hz1).cells; have hl2 := hl1 w2 B2)
          | (go_at_call 27; (with_reducible refine hl2.mono ?_); rintro r w3 ⟨rfl, b3⟩))
        go_ret2
        exact ⟨by rw [HO2.out]; rfl, B2.tr le_rfl' b3⟩
set_option maxRecDepth 100000 in
set_option maxHeartbeats 1000000 in
theorem refN_any (e : Ex) (n₀ : Nat) (w : World) (hn : n₀ ≤ w.heap.size) (hI : e.Is n₀ w) (hsz : e.subs.length ≤ 1000000) :
    Calls Tryd.prog 13 #[e.val] w fun r w' => r = .returned (.int .i64 ((nestOut e : Nat) : Int)) ∧ Below w.heap.size w w' := by
  have hchk : ∀ W, Below w.heap.size w W → Calls Tryd.prog 25 #[e.val] W fun r w' => r = .returned (.bool e.ok) ∧ Below W.heap.size W w' := fun W hW =>
    refIsExpr_any n₀ e W (by have := hW.size; omega) (hI.below (hW.mono hn))
  have hnst : e.ok = true → ∀ W, Below w.heap.size w W → Calls Tryd.prog 26 #[e.val, .int .i64 1] W fun r w' => r = .returned (.int .i64 ((e.nest 1 : Nat) : Int)) ∧ Below W.heap.size W w' := fun hk W hW =>
    refNest_any e hk n₀ W 1 (by have := hW.size; omega) (hI.below (hW.mono hn)) hsz
  have HO : Hid (nestOut e = if e.ok then e.nest 1 else 0) := rfl
  obtain ⟨out, hout⟩ : ∃ out, nestOut e = out := ⟨_, rfl⟩
  rw [hout] at HO ⊢
  clear hout
  obtain ⟨y, hy⟩ : ∃ y, e.nest 1 = y := ⟨_, rfl⟩
  rw [hy] at HO
  simp only [hy] at hnst
  clear hy hsz hI
  obtain ⟨ok, hok⟩ : ∃ ok, e.ok = ok := ⟨_, rfl⟩
  simp only [hok] at hchk hnst HO
  clear hok
  rcases e with ⟨op, mon, name, n, ad, cap, kids, pos⟩
  simp only [Ex.val, Ex.cells] at hchk hnst ⊢
  have hB0 : Below w.heap.size w (w.alloc (.cells #[.int .i64 op, .string mon, .string name, .int .i64 n, .slice ad kids.length cap, .int .i64 pos] 24)) := (Below.refl _ w).al le_rfl' _
  have bB : ExBox (w.alloc (.cells #[.int .i64 op, .string mon, .string name, .int .i64 n, .slice ad kids.length cap, .int .i64 pos] 24)) w.heap.size (.mk op mon name n ad cap kids pos) := ExBox.new w (.mk op mon name n ad cap kids pos)
  have hz0 : w.heap.size < (w.alloc (.cells #[.int .i64 op, .string mon, .string name, .int .i64 n, .slice ad kids.length cap, .int .i64 pos] 24)).heap.size := by simp
  have hc0 := hchk _ hB0
  cases ok
  · have HO2 : Hid (out = 0) := by show _ = _; rw [HO.out]; simp
    go_enter Tryd.func13, Tryd.ntmps13
    go_wp2_with (go_at_call 25; (with_reducible refine hc0.mono ?_); rintro r w1 ⟨rfl, b1⟩)
    go_ret
    exact ⟨by rw [HO2.out]; rfl, hB0.tr le_rfl' b1⟩
  · have hn1 := hnst (by trivial)
    have HO2 : Hid (out = y) := by show _ = _; rw [HO.out]; simp
    clear hnst HO
    go_enter Tryd.func13, Tryd.ntmps13
    go_wp2_with (first
      | (go_at_call 25; (with_reducible refine hc0.mono ?_); rintro r w1 ⟨rfl, b1⟩; have B1 := hB0.tr le_rfl' b1; have bB1 := bB.below b1 hz0; obtain ⟨f0, f1, f2, f3, f4, f5⟩ := bB1.cells; have hn2 := hn1 w1 B1)
      | (go_at_call 26; (with_reducible refine hn2.mono ?_); rintro r w2 ⟨rfl, b2⟩))
    go_ret
    exact ⟨by rw [HO2.out]; rfl, B1.tr le_rfl' b2⟩
theorem exprOut_form (e : Ex) : ∃ (s : ByteArray) (c : Int), exprOut e = .tuple #[.string s, .int .i64 c] := by
  unfold exprOut; split
  · split
    · exact ⟨_, _, rfl⟩
    · exact toldOf_form _
  · exact ⟨_, _, rfl⟩
set_option maxRecDepth 100000 in
set_option maxHeartbeats 2000000 in
theorem printExprs_walk (e : Ex) (w : World) (hL : Laid w) (hI : e.Is w.heap.size w) :
    Calls Tryd.prog 3 #[e.val] w fun r w' => r = .returned (.bool true) ∧ Below w.heap.size w w' := by
  have h3 := hL.size
  have hrc := rest_count e 400
  obtain ⟨ra, hra⟩ : ∃ ra, restE e 400 = ra := ⟨_, rfl⟩
  have h7 : ∀ W, Below w.heap.size w W → Calls Tryd.prog 7 #[e.val, .int .i64 400] W fun r w' => r = .returned (.int .i64 ra) ∧ Below W.heap.size W w' := fun W hW => by
    have := restExpr_any w.heap.size e 400 W (by omega) (by omega) hW.size (hI.below hW)
    rwa [hra] at this
  rw [hra] at hrc
  clear hra
  have h8 : ∀ W, Below w.heap.size w W → Calls Tryd.prog 8 #[] W fun r w' => r = .returned (.bool true) ∧ Below W.heap.size W w' := fun W hW => live_any W (hL.below hW h3)
  obtain ⟨s, c, hsc⟩ := exprOut_form e
  have hsz : 0 ≤ ra → e.subs.length ≤ 1000000 := fun h => by have := hrc h; omega
  have h9 : 0 ≤ ra → ∀ W, Below w.heap.size w W → Calls Tryd.prog 9 #[e.val] W fun r w' => r = .returned (.tuple #[.string s, .int .i64 c]) ∧ Below W.heap.size W w' := fun h W hW => by
    have := printExpr_any e w.heap.size W hW.size (hI.below hW) (hL.below hW h3) (hsz h)
    rwa [hsc] at this
  have h10 : 0 ≤ ra → ∀ W, Below w.heap.size w W → Calls Tryd.prog 10 #[e.val] W fun r w' => r = .returned (.tuple #[.string s, .int .i64 c]) ∧ Below W.heap.size W w' := fun h W hW => by
    have := refE_any e w.heap.size W hW.size (hI.below hW) (hsz h)
    rwa [hsc] at this
  obtain ⟨y, hy⟩ : ∃ y, nestOut e = y := ⟨_, rfl⟩
  have h12 : 0 ≤ ra → ∀ W, Below w.heap.size w W → Calls Tryd.prog 12 #[e.val] W fun r w' => r = .returned (.int .i64 (y : Int)) ∧ Below W.heap.size W w' := fun h W hW => by
    have := nestExpr_any e w.heap.size W hW.size (hI.below hW) (hL.below hW h3) (hsz h)
    rwa [hy] at this
  have h13 : 0 ≤ ra → ∀ W, Below w.heap.size w W → Calls Tryd.prog 13 #[e.val] W fun r w' => r = .returned (.int .i64 (y : Int)) ∧ Below W.heap.size W w' := fun h W hW => by
    have := refN_any e w.heap.size W hW.size (hI.below hW) (hsz h)
    rwa [hy] at this
  clear hsc hy hI hrc hsz
  rcases e with ⟨op, mon, name, n, ad, cap, kids, pos⟩
  simp only [Ex.val, Ex.cells] at h7 h9 h10 h12 h13 ⊢
  have hB0 : Below w.heap.size w (w.alloc (.cells #[.int .i64 op, .string mon, .string name, .int .i64 n, .slice ad kids.length cap, .int .i64 pos] 24)) := (Below.refl _ w).al le_rfl' _
  have bB : ExBox (w.alloc (.cells #[.int .i64 op, .string mon, .string name, .int .i64 n, .slice ad kids.length cap, .int .i64 pos] 24)) w.heap.size (.mk op mon name n ad cap kids pos) := ExBox.new w (.mk op mon name n ad cap kids pos)
  have hz0 : w.heap.size < (w.alloc (.cells #[.int .i64 op, .string mon, .string name, .int .i64 n, .slice ad kids.length cap, .int .i64 pos] 24)).heap.size := by simp
  have h7a := h7 _ hB0
  by_cases hr : ra < 0
  · go_enter Tryd.func3, Tryd.ntmps3
    go_wp2_with (first
      | (go_at_call 7; (with_reducible refine h7a.mono ?_); rintro r w1 ⟨rfl, b1⟩; have B1 := hB0.tr le_rfl' b1; have h8a := h8 w1 B1)
      | (go_at_call 8; (with_reducible refine h8a.mono ?_); rintro r w2 ⟨rfl, b2⟩))
    go_ret
    exact ⟨rfl, B1.tr le_rfl' b2⟩
  · have hrd : decide (ra < 0) = false := decide_eq_false hr
    have hr0 : 0 ≤ ra := by omega
    have h9 := h9 hr0
    have h10 := h10 hr0
    have h12 := h12 hr0
    have h13 := h13 hr0
    clear hr hr0
    go_enter Tryd.func3, Tryd.ntmps3
    go_upto_region 5 with (first
      | (go_at_call 7; (with_reducible refine h7a.mono ?_); rintro r w1 ⟨rfl, b1⟩; have B1 := hB0.tr le_rfl' b1; have bB1 := bB.below b1 hz0; have hz1 := bB1.lt; obtain ⟨f0, f1, f2, f3, f4, f5⟩ := bB1.cells; have h9a := h9 w1 B1)
      | (go_at_call 9; (with_reducible refine h9a.mono ?_); rintro r w2 ⟨rfl, b2⟩; have B2 := B1.tr le_rfl' b2; have bB2 := bB1.below b2 hz1; have hz2 := bB2.lt; clear f0 f1 f2 f3 f4 f5; obtain ⟨f0, f1, f2, f3, f4, f5⟩ := bB2.cells; have h10a := h10 w2 B2)
      | (go_at_call 10; (with_reducible refine h10a.mono ?_); rintro r w3 ⟨rfl, b3⟩; have B3 := B2.tr le_rfl' b3; have bB3 := bB2.below b3 hz2; have hz3 := bB3.lt; clear f0 f1 f2 f3 f4 f5))
    have HK : Hid (∀ W, Below w3.heap.size w3 W → W.cell? ⟨w.heap.size, 0, none⟩ = some (.int .i64 op) ∧ W.cell? ⟨w.heap.size, 1, none⟩ = some (.string mon) ∧ W.cell? ⟨w.heap.size, 2, none⟩ = some (.string name) ∧ W.cell? ⟨w.heap.size, 3, none⟩ = some (.int .i64 n) ∧ W.cell? ⟨w.heap.size, 4, none⟩ = some (.slice ad kids.length cap) ∧ W.cell? ⟨w.heap.size, 5, none⟩ = some (.int .i64 pos)) := fun W hW => (bB3.below hW hz3).cells
    have B := below_drewE (Below.refl w3.heap.size w3)
    have hz4 := B3.size
    have g12 := fun W (h : Below w3.heap.size w3 W) => h12 W (B3.trans (h.mono hz4))
    have g13 := fun W (h : Below w3.heap.size w3 W) => h13 W (B3.trans (h.mono hz4))
    have g8 := fun W (h : Below w3.heap.size w3 W) => h8 W (B3.trans (h.mono hz4))
    clear h12 h13 h8 h7 h9 h10 h7a h9a h10a hB0 bB bB1 bB2 b1 b2 b3
    go_region_held3 (fun W => W.cell? ⟨w.heap.size, 0, none⟩ = some (.int .i64 op) ∧ W.cell? ⟨w.heap.size, 1, none⟩ = some (.string mon) ∧ W.cell? ⟨w.heap.size, 2, none⟩ = some (.string name) ∧ W.cell? ⟨w.heap.size, 3, none⟩ = some (.int .i64 n) ∧ W.cell? ⟨w.heap.size, 4, none⟩ = some (.slice ad kids.length cap) ∧ W.cell? ⟨w.heap.size, 5, none⟩ = some (.int .i64 pos)) (exact HK.out _ B)
      (first
        | (go_at_call 12; (with_reducible refine (g12 _ B).mono ?_); rintro r u1 ⟨rfl, bb⟩; have B := B.tr le_rfl' bb)
        | (go_at_call 13; (with_reducible refine (g13 _ B).mono ?_); rintro r u2 ⟨rfl, bb⟩; have B := B.tr le_rfl' bb)
        | (go_at_call 8; (with_reducible refine (g8 _ B).mono ?_); rintro r u3 ⟨rfl, bb⟩; have B := B.tr le_rfl' bb)
        | (go_at_call 11; (with_reducible refine (num_any3 _ _).mono ?_); rintro r w' ⟨rfl, hw'⟩; have hw2 := hw'.symm; subst hw2))
    all_goals go_wp2
    all_goals go_ret
    all_goals exact ⟨rfl, B3.trans (B.mono hz4)⟩
end Go.Proofs.YtnljhlmopjgogaaDoor
