/-
  Expr, NestExpr, Text, Nest of package print.
-/
import Derived.Test.YtnljhlmopjgogaaGreatDoorStG
namespace Go.Proofs.YtnljhlmopjgogaaGreatDoor
open Go.RowKit Px
/-- The variables lie as they were laid. -/
structure Laid (w : World) : Prop where
  shapes : Shapes w
  tab : Tab w
  size : 3 ≤ w.heap.size
theorem Laid.below {w w' : World} {n : Nat} (h : Laid w) (hb : Below n w w') (hn : 3 ≤ n) : Laid w' := ⟨h.shapes.below hb (by omega), h.tab.below hb (by omega), by have := h.size; have := hb.size; omega⟩
/-- A sheet that was just made. -/
theorem Sh.new (w : World) (hL : Laid w) : Sh (w.heap.size + 1) w.heap.size 0 [] ((w.alloc (.map (signEs 13).toArray 13)).alloc (.cells #[.pointer none, .slice none 0 0, .map (some w.heap.size), .int .i64 0] 66)) := by
  have hB : Below w.heap.size w ((w.alloc (.map (signEs 13).toArray 13)).alloc (.cells #[.pointer none, .slice none 0 0, .map (some w.heap.size), .int .i64 0] 66)) := ((Below.refl _ w).al le_rfl' _).al le_rfl' _
  refine ⟨⟨[], Okt.refl _, .inl ⟨Nat.le_refl _, .slice none 0 0, ?_, World.ownsRow_nil _ _ _ _⟩⟩, by omega, by have := hL.size; omega, ?_, (hL.below hB hL.size).tab⟩
  · have := heap_alloc_new (w.alloc (.map (signEs 13).toArray 13)) (.cells #[.pointer none, .slice none 0 0, .map (some w.heap.size), .int .i64 0] 66)
    rwa [World.size_alloc] at this
  · exact (Below.heap_alloc _ _ _ (by simp)).trans (heap_alloc_new w _)
/-- What Expr answers. -/
def exprOut (e : Ex) : Value := if e.ok then (if 64 < e.nest 1 then .tuple #[.string ⟨#[]⟩, .int .i64 41] else toldOf (e.txt 1)) else .tuple #[.string ⟨#[]⟩, .int .i64 20]
def nestOut (e : Ex) : Nat := if e.ok then e.nest 1 else 0
def textOut (p : Pr) : Value := if p.ok then (if 64 < p.nst then .tuple #[.string ⟨#[]⟩, .int .i64 41] else toldOf p.txt) else .tuple #[.string ⟨#[]⟩, .int .i64 20]
def pnestOut (p : Pr) : Nat := if p.ok then p.nst else 0
theorem toldOf_form (t : List UInt8) : ∃ (s : ByteArray) (c : Int), toldOf t = .tuple #[.string s, .int .i64 c] := by
  unfold toldOf; split <;> exact ⟨_, _, rfl⟩
set_option maxRecDepth 100000 in
set_option maxHeartbeats 1000000 in
theorem printExpr_any (e : Ex) (n₀ : Nat) (w : World) (hn : n₀ ≤ w.heap.size) (hI : e.Is n₀ w) (hL : Laid w) (hsz : e.subs.length ≤ 1000000) :
    Calls Tryz.prog 13 #[e.val] w fun r w' => r = .returned (exprOut e) ∧ Below w.heap.size w w' := by
  have h3 := hL.size
  have hchk : ∀ W, Below w.heap.size w W → Calls Tryz.prog 27 #[e.val] W fun r w' => r = .returned (.int .i64 (if e.ok then 0 else 20)) ∧ Below W.heap.size W w' := fun W hW =>
    checkExpr_any e n₀ W (by have := hW.size; omega) (hI.below (hW.mono hn)) (hL.below hW h3).shapes
  have hnst : ∀ W m, Below w.heap.size w W → SignsAt W m → Calls Tryz.prog 28 #[.map (some m), e.val, .int .i64 1] W fun r w' => r = .returned (.int .i64 ((e.nest 1 : Nat) : Int)) ∧ Below W.heap.size W w' := fun W m hW hS =>
    nest_any e n₀ m 1 W (by have := hW.size; omega) (hI.below (hW.mono hn)) hS hsz
  have hlay : e.ok = true → ∀ W b m, w.heap.size ≤ b → Below w.heap.size w W → Sh b m 0 [] W → Calls Tryz.prog 29 #[.pointer (some ⟨b, 0, none⟩), e.val, .int .i64 1] W fun r w' => r = .returned (.tuple #[]) ∧ Sh b m 0 (e.txt 1) w' ∧ Kept b W w' := fun hok W b m hb hW hS => by
    refine (expr_any e hok n₀ b m 0 1 [] W (by omega) (hI.below (hW.mono hn)) hS (by simp; omega)).mono ?_
    rintro r w' ⟨h1, h2, h3⟩
    exact ⟨h1, by simpa using h2, h3⟩
  have HO : Hid (exprOut e = if e.ok then (if 64 < e.nest 1 then .tuple #[.string ⟨#[]⟩, .int .i64 41] else toldOf (e.txt 1)) else .tuple #[.string ⟨#[]⟩, .int .i64 20]) := rfl
  obtain ⟨out, hout⟩ : ∃ out, exprOut e = out := ⟨_, rfl⟩
  rw [hout] at HO ⊢
  clear hout
  obtain ⟨tx, htx⟩ : ∃ tx, e.txt 1 = tx := ⟨_, rfl⟩
  obtain ⟨y, hy⟩ : ∃ y, e.nest 1 = y := ⟨_, rfl⟩
  rw [htx, hy] at HO
  simp only [htx] at hlay
  simp only [hy] at hnst
  clear htx hy hsz hI
  obtain ⟨ok, hok⟩ : ∃ ok, e.ok = ok := ⟨_, rfl⟩
  simp only [hok] at hchk hlay HO
  clear hok
  rcases e with ⟨op, mon, name, n, ad, cap, kids, pos⟩
  simp only [Ex.val, Ex.cells] at hchk hnst hlay ⊢
  have hB0 : Below w.heap.size w (w.alloc (.cells #[.int .i64 op, .string mon, .string name, .int .i64 n, .slice ad kids.length cap, .int .i64 pos] 50)) := (Below.refl _ w).al le_rfl' _
  have bB : ExBox (w.alloc (.cells #[.int .i64 op, .string mon, .string name, .int .i64 n, .slice ad kids.length cap, .int .i64 pos] 50)) w.heap.size (.mk op mon name n ad cap kids pos) := ExBox.new w (.mk op mon name n ad cap kids pos)
  have hz0 : w.heap.size < (w.alloc (.cells #[.int .i64 op, .string mon, .string name, .int .i64 n, .slice ad kids.length cap, .int .i64 pos] 50)).heap.size := by simp
  have hc0 := hchk _ hB0
  cases ok
  · simp only [Bool.false_eq_true, if_false] at hc0
    go_enter Tryz.func13, Tryz.ntmps13
    go_wp2_with (go_at_call 27; (with_reducible refine hc0.mono ?_); rintro r w1 ⟨rfl, b1⟩)
    go_ret2
    exact ⟨by rw [HO.out]; rfl, hB0.tr le_rfl' b1⟩
  · simp only [if_true] at hc0
    go_enter Tryz.func13, Tryz.ntmps13
    go_upto_region 4 with (go_at_call 27; (with_reducible refine hc0.mono ?_); rintro r w1 ⟨rfl, b1⟩)
    have bB1 := bB.below b1 hz0
    have hB1 : Below w.heap.size w w1 := hB0.tr le_rfl' b1
    have hz1 := hB1.size
    have hL1 := hL.below hB1 h3
    have hw1 : w.heap.size < w1.heap.size := bB1.lt
    have hS := Sh.new w1 hL1
    have hall := allSigns_any w1
    clear bB hB0 hc0 hchk
    have hB2 : Below w1.heap.size w1 ((w1.alloc (.map (signEs 13).toArray 13)).alloc (.cells #[.pointer none, .slice none 0 0, .map (some w1.heap.size), .int .i64 0] 66)) := ((Below.refl _ w1).al le_rfl' _).al le_rfl' _
    have hn1 := hnst _ w1.heap.size (hB1.trans (hB2.mono hz1)) hS.signs
    obtain ⟨d0, d1, d2, d3, d4, d5⟩ := (bB1.below hB2 hw1).cells
    have hsc : ((w1.alloc (.map (signEs 13).toArray 13)).alloc (.cells #[.pointer none, .slice none 0 0, .map (some w1.heap.size), .int .i64 0] 66)).cell? ⟨w1.heap.size + 1, 2, none⟩ = some (.map (some w1.heap.size)) := by obtain ⟨c, _, h⟩ := hS.sheet; exact h.cells.1
    go_upto_region 5 with (go_at_call 16; (with_reducible refine hall.mono ?_); rintro r w' ⟨rfl, hw'⟩; subst hw')
    have hW2b : Below w.heap.size w ((w1.alloc (.map (signEs 13).toArray 13)).alloc (.cells #[.pointer none, .slice none 0 0, .map (some w1.heap.size), .int .i64 0] 66)) := hB1.trans (hB2.mono hz1)
    have bB2 := bB1.below hB2 hw1
    obtain ⟨W2, hW2⟩ : ∃ W2, (w1.alloc (.map (signEs 13).toArray 13)).alloc (.cells #[.pointer none, .slice none 0 0, .map (some w1.heap.size), .int .i64 0] 66) = W2 := ⟨_, rfl⟩
    rw [hW2] at hS hn1 d0 d1 d2 d3 d4 d5 hsc hW2b bB2 ⊢
    have hbl2 := hS.bl
    have hw2 : w.heap.size < W2.heap.size := by omega
    clear hW2 hB2 hall
    by_cases hd : 64 < y
    · have hd' : (64 : Int) < (y : Int) := by omega
      have HO2 : Hid (out = .tuple #[.string ⟨#[]⟩, .int .i64 41]) := by show _ = _; rw [HO.out]; simp [hd]
      go_wp2_with (go_at_call 28; (with_reducible refine hn1.mono ?_); rintro r w3 ⟨rfl, b3⟩)
      go_ret2
      exact ⟨by rw [HO2.out]; rfl, hW2b.trans (b3.mono (by omega))⟩
    · have hd' : decide ((64 : Int) < (y : Int)) = false := by simp; omega
      have HO2 : Hid (out = toldOf tx) := by show _ = _; rw [HO.out]; simp [hd]
      obtain ⟨ts, tc, htf⟩ := toldOf_form tx
      have htold : ∀ W, Sh (w1.heap.size + 1) w1.heap.size 0 tx W → Calls Tryz.prog 19 #[.pointer (some ⟨w1.heap.size + 1, 0, none⟩)] W fun e w' => e = .returned (.tuple #[.string ts, .int .i64 tc]) ∧ Below (w1.heap.size + 1) W w' := fun W h => by
        have := told_any _ _ _ tx W h
        rw [htf] at this
        exact this
      rw [htf] at HO2
      clear htf hd HO
      go_wp2_with (first
        | (go_at_call 28; (with_reducible refine hn1.mono ?_); rintro r w3 ⟨rfl, b3⟩; have hS3 := hS.below b3; have hB3 : Below w.heap.size w w3 := hW2b.trans (b3.mono (by omega)); obtain ⟨f0, f1, f2, f3, f4, f5⟩ := (bB2.below b3 hw2).cells; have hl3 := hlay (by trivial) w3 (w1.heap.size + 1) w1.heap.size (by omega) hB3 hS3)
        | (go_at_call 29; (with_reducible refine hl3.mono ?_); rintro r w4 ⟨rfl, s4, k4⟩)
        | (go_at_call 19; (with_reducible refine (htold _ s4).mono ?_); rintro r w5 ⟨rfl, b5⟩))
      go_ret2
      exact ⟨by rw [HO2.out]; rfl, (hB3.trans (k4.1.mono (by omega))).trans (b5.mono (by omega))⟩
theorem signs_any (w : World) : Calls Tryz.prog 16 #[] w fun e w' => e = .returned (.map (some w.heap.size)) ∧ Below w.heap.size w w' ∧ SignsAt w' w.heap.size := by
  refine (allSigns_any w).mono ?_
  rintro e w' ⟨rfl, rfl⟩
  exact ⟨rfl, (Below.refl _ w).al le_rfl' _, heap_alloc_new w _⟩
set_option maxRecDepth 100000 in
set_option maxHeartbeats 1000000 in
theorem nestExpr_any (e : Ex) (n₀ : Nat) (w : World) (hn : n₀ ≤ w.heap.size) (hI : e.Is n₀ w) (hL : Laid w) (hsz : e.subs.length ≤ 1000000) :
    Calls Tryz.prog 14 #[e.val] w fun r w' => r = .returned (.int .i64 ((nestOut e : Nat) : Int)) ∧ Below w.heap.size w w' := by
  have h3 := hL.size
  have hchk : ∀ W, Below w.heap.size w W → Calls Tryz.prog 27 #[e.val] W fun r w' => r = .returned (.int .i64 (if e.ok then 0 else 20)) ∧ Below W.heap.size W w' := fun W hW =>
    checkExpr_any e n₀ W (by have := hW.size; omega) (hI.below (hW.mono hn)) (hL.below hW h3).shapes
  have hnst : ∀ W m, Below w.heap.size w W → SignsAt W m → Calls Tryz.prog 28 #[.map (some m), e.val, .int .i64 1] W fun r w' => r = .returned (.int .i64 ((e.nest 1 : Nat) : Int)) ∧ Below W.heap.size W w' := fun W m hW hS =>
    nest_any e n₀ m 1 W (by have := hW.size; omega) (hI.below (hW.mono hn)) hS hsz
  have HO : Hid (nestOut e = if e.ok then e.nest 1 else 0) := rfl
  obtain ⟨out, hout⟩ : ∃ out, nestOut e = out := ⟨_, rfl⟩
  rw [hout] at HO ⊢
  clear hout
  obtain ⟨y, hy⟩ : ∃ y, e.nest 1 = y := ⟨_, rfl⟩
  rw [hy] at HO
  simp only [hy] at hnst
  clear hy hsz hI
  obtain ⟨ok, hok⟩ : ∃ ok, e.ok = ok := ⟨_, rfl⟩
  simp only [hok] at hchk HO
  clear hok
  rcases e with ⟨op, mon, name, n, ad, cap, kids, pos⟩
  simp only [Ex.val, Ex.cells] at hchk hnst ⊢
  have hB0 : Below w.heap.size w (w.alloc (.cells #[.int .i64 op, .string mon, .string name, .int .i64 n, .slice ad kids.length cap, .int .i64 pos] 50)) := (Below.refl _ w).al le_rfl' _
  have bB : ExBox (w.alloc (.cells #[.int .i64 op, .string mon, .string name, .int .i64 n, .slice ad kids.length cap, .int .i64 pos] 50)) w.heap.size (.mk op mon name n ad cap kids pos) := ExBox.new w (.mk op mon name n ad cap kids pos)
  have hz0 : w.heap.size < (w.alloc (.cells #[.int .i64 op, .string mon, .string name, .int .i64 n, .slice ad kids.length cap, .int .i64 pos] 50)).heap.size := by simp
  have hc0 := hchk _ hB0
  cases ok
  · simp only [Bool.false_eq_true, if_false] at hc0 HO
    have HO2 := hid HO.out
    go_enter Tryz.func14, Tryz.ntmps14
    go_wp2_with (go_at_call 27; (with_reducible refine hc0.mono ?_); rintro r w1 ⟨rfl, b1⟩)
    go_ret
    exact ⟨by rw [HO2.out]; rfl, hB0.tr le_rfl' b1⟩
  · simp only [if_true] at hc0 HO
    have HO2 := hid HO.out
    go_enter Tryz.func14, Tryz.ntmps14
    go_upto_region 3 with (go_at_call 27; (with_reducible refine hc0.mono ?_); rintro r w1 ⟨rfl, b1⟩)
    have bB1 := bB.below b1 hz0
    have hB1 : Below w.heap.size w w1 := hB0.tr le_rfl' b1
    have hz1 := hB1.size
    have hw1 : w.heap.size < w1.heap.size := bB1.lt
    have HK : Hid (∀ W, Below w1.heap.size w1 W → W.cell? ⟨w.heap.size, 0, none⟩ = some (.int .i64 op) ∧ W.cell? ⟨w.heap.size, 1, none⟩ = some (.string mon) ∧ W.cell? ⟨w.heap.size, 2, none⟩ = some (.string name) ∧ W.cell? ⟨w.heap.size, 3, none⟩ = some (.int .i64 n) ∧ W.cell? ⟨w.heap.size, 4, none⟩ = some (.slice ad kids.length cap) ∧ W.cell? ⟨w.heap.size, 5, none⟩ = some (.int .i64 pos)) := fun W hW => (bB1.below hW hw1).cells
    have B := below_drewE (Below.refl w1.heap.size w1)
    clear bB hB0 hc0 hchk
    go_region_held3 (fun W => W.cell? ⟨w.heap.size, 0, none⟩ = some (.int .i64 op) ∧ W.cell? ⟨w.heap.size, 1, none⟩ = some (.string mon) ∧ W.cell? ⟨w.heap.size, 2, none⟩ = some (.string name) ∧ W.cell? ⟨w.heap.size, 3, none⟩ = some (.int .i64 n) ∧ W.cell? ⟨w.heap.size, 4, none⟩ = some (.slice ad kids.length cap) ∧ W.cell? ⟨w.heap.size, 5, none⟩ = some (.int .i64 pos)) (exact HK.out _ B)
      (first
        | (go_at_call 16; (with_reducible refine (signs_any _).mono ?_); rintro r u1 ⟨rfl, bb, sg⟩; have sg : SignsAt u1 w1.heap.size := sg; have B := B.tr le_rfl' bb)
        | (go_at_call 28; (with_reducible refine (hnst _ _ (hB1.trans (B.mono hz1)) sg).mono ?_); rintro r u2 ⟨rfl, bb⟩; have B := B.tr le_rfl' bb))
    all_goals go_wp2
    all_goals go_ret
    all_goals exact ⟨by rw [HO2.out]; rfl, hB1.trans (B.mono hz1)⟩
/-- A program in a box. -/
def PBox (W : World) (k : Nat) (mad : Option Addr) (mcap ml : Nat) (rad : Option Addr) (rcap rl : Nat) : Prop := W.heap[k]? = some (.cells #[.slice mad ml mcap, .slice rad rl rcap] 25 (0, 0))
theorem PBox.below {W W' : World} {k n mcap ml rcap rl : Nat} {mad rad : Option Addr} (h : PBox W k mad mcap ml rad rcap rl) (hb : Below n W W') (hlt : k < n) : PBox W' k mad mcap ml rad rcap rl := (hb.block k hlt).trans h
theorem PBox.lt {W : World} {k mcap ml rcap rl : Nat} {mad rad : Option Addr} (h : PBox W k mad mcap ml rad rcap rl) : k < W.heap.size := (Array.getElem?_eq_some_iff.1 h).1
theorem PBox.cells {W : World} {k mcap ml rcap rl : Nat} {mad rad : Option Addr} (h : PBox W k mad mcap ml rad rcap rl) : W.cell? ⟨k, 0, none⟩ = some (.slice mad ml mcap) ∧ W.cell? ⟨k, 1, none⟩ = some (.slice rad rl rcap) := ⟨cell_of' h 0, cell_of' h 1⟩
set_option maxRecDepth 100000 in
set_option maxHeartbeats 1000000 in
theorem printText_any (p : Pr) (n₀ : Nat) (w : World) (hn : n₀ ≤ w.heap.size) (hI : p.Is n₀ w) (hL : Laid w) (hsz : p.size ≤ 900) :
    Calls Tryz.prog 6 #[p.val] w fun r w' => r = .returned (textOut p) ∧ Below w.heap.size w w' := by
  have h3 := hL.size
  have hchk : ∀ W, Below w.heap.size w W → Calls Tryz.prog 15 #[p.val] W fun r w' => r = .returned (.int .i64 (if p.ok then 0 else 20)) ∧ Below W.heap.size W w' := fun W hW =>
    check_any p n₀ W (by have := hW.size; omega) (hI.below (hW.mono hn)) (hL.below hW h3).shapes
  have hnst : ∀ W m, Below w.heap.size w W → SignsAt W m → Calls Tryz.prog 17 #[.map (some m), p.val] W fun r w' => r = .returned (.int .i64 ((p.nst : Nat) : Int)) ∧ Below W.heap.size W w' := fun W m hW hS =>
    nestProgram_any p n₀ m W (by have := hW.size; omega) (hI.below (hW.mono hn)) hS (by omega)
  have hlay : p.ok = true → ∀ W b m, w.heap.size ≤ b → Below w.heap.size w W → Sh b m 0 [] W → Calls Tryz.prog 18 #[.pointer (some ⟨b, 0, none⟩), p.val] W fun r w' => r = .returned (.tuple #[]) ∧ Sh b m 0 (p.txt) w' ∧ Kept b W w' := fun hok W b m hb hW hS => by
    exact program_any p n₀ b m W (by omega) (Pr.fine_of (hI.below (hW.mono hn)) hok hsz) hS
  have HO : Hid (textOut p = if p.ok then (if 64 < p.nst then .tuple #[.string ⟨#[]⟩, .int .i64 41] else toldOf (p.txt)) else .tuple #[.string ⟨#[]⟩, .int .i64 20]) := rfl
  obtain ⟨out, hout⟩ : ∃ out, textOut p = out := ⟨_, rfl⟩
  rw [hout] at HO ⊢
  clear hout
  obtain ⟨tx, htx⟩ : ∃ tx, p.txt = tx := ⟨_, rfl⟩
  obtain ⟨y, hy⟩ : ∃ y, p.nst = y := ⟨_, rfl⟩
  rw [htx, hy] at HO
  simp only [htx] at hlay
  simp only [hy] at hnst
  clear htx hy hsz hI
  obtain ⟨ok, hok⟩ : ∃ ok, p.ok = ok := ⟨_, rfl⟩
  simp only [hok] at hchk hlay HO
  clear hok
  rcases p with ⟨mad, mcap, mons, rad, rcap, roles⟩
  simp only [Pr.val] at hchk hnst hlay ⊢
  have hB0 : Below w.heap.size w (w.alloc (.cells #[.slice mad mons.length mcap, .slice rad roles.length rcap] 25)) := (Below.refl _ w).al le_rfl' _
  have bB : PBox (w.alloc (.cells #[.slice mad mons.length mcap, .slice rad roles.length rcap] 25)) w.heap.size mad mcap mons.length rad rcap roles.length := heap_alloc_new w _
  have hz0 : w.heap.size < (w.alloc (.cells #[.slice mad mons.length mcap, .slice rad roles.length rcap] 25)).heap.size := by simp
  have hc0 := hchk _ hB0
  cases ok
  · simp only [Bool.false_eq_true, if_false] at hc0
    go_enter Tryz.func6, Tryz.ntmps6
    go_wp2_with (go_at_call 15; (with_reducible refine hc0.mono ?_); rintro r w1 ⟨rfl, b1⟩)
    go_ret2
    exact ⟨by rw [HO.out]; rfl, hB0.tr le_rfl' b1⟩
  · simp only [if_true] at hc0
    go_enter Tryz.func6, Tryz.ntmps6
    go_upto_region 4 with (go_at_call 15; (with_reducible refine hc0.mono ?_); rintro r w1 ⟨rfl, b1⟩)
    have bB1 := bB.below b1 hz0
    have hB1 : Below w.heap.size w w1 := hB0.tr le_rfl' b1
    have hz1 := hB1.size
    have hL1 := hL.below hB1 h3
    have hw1 : w.heap.size < w1.heap.size := bB1.lt
    have hS := Sh.new w1 hL1
    have hall := allSigns_any w1
    clear bB hB0 hc0 hchk
    have hB2 : Below w1.heap.size w1 ((w1.alloc (.map (signEs 13).toArray 13)).alloc (.cells #[.pointer none, .slice none 0 0, .map (some w1.heap.size), .int .i64 0] 66)) := ((Below.refl _ w1).al le_rfl' _).al le_rfl' _
    have hn1 := hnst _ w1.heap.size (hB1.trans (hB2.mono hz1)) hS.signs
    obtain ⟨d0, d1⟩ := (bB1.below hB2 hw1).cells
    have hsc : ((w1.alloc (.map (signEs 13).toArray 13)).alloc (.cells #[.pointer none, .slice none 0 0, .map (some w1.heap.size), .int .i64 0] 66)).cell? ⟨w1.heap.size + 1, 2, none⟩ = some (.map (some w1.heap.size)) := by obtain ⟨c, _, h⟩ := hS.sheet; exact h.cells.1
    go_upto_region 5 with (go_at_call 16; (with_reducible refine hall.mono ?_); rintro r w' ⟨rfl, hw'⟩; subst hw')
    have hW2b : Below w.heap.size w ((w1.alloc (.map (signEs 13).toArray 13)).alloc (.cells #[.pointer none, .slice none 0 0, .map (some w1.heap.size), .int .i64 0] 66)) := hB1.trans (hB2.mono hz1)
    have bB2 := bB1.below hB2 hw1
    obtain ⟨W2, hW2⟩ : ∃ W2, (w1.alloc (.map (signEs 13).toArray 13)).alloc (.cells #[.pointer none, .slice none 0 0, .map (some w1.heap.size), .int .i64 0] 66) = W2 := ⟨_, rfl⟩
    rw [hW2] at hS hn1 d0 d1 hsc hW2b bB2 ⊢
    have hbl2 := hS.bl
    have hw2 : w.heap.size < W2.heap.size := by omega
    clear hW2 hB2 hall
    by_cases hd : 64 < y
    · have hd' : (64 : Int) < (y : Int) := by omega
      have HO2 : Hid (out = .tuple #[.string ⟨#[]⟩, .int .i64 41]) := by show _ = _; rw [HO.out]; simp [hd]
      go_wp2_with (go_at_call 17; (with_reducible refine hn1.mono ?_); rintro r w3 ⟨rfl, b3⟩)
      go_ret2
      exact ⟨by rw [HO2.out]; rfl, hW2b.trans (b3.mono (by omega))⟩
    · have hd' : decide ((64 : Int) < (y : Int)) = false := by simp; omega
      have HO2 : Hid (out = toldOf tx) := by show _ = _; rw [HO.out]; simp [hd]
      obtain ⟨ts, tc, htf⟩ := toldOf_form tx
      have htold : ∀ W, Sh (w1.heap.size + 1) w1.heap.size 0 tx W → Calls Tryz.prog 19 #[.pointer (some ⟨w1.heap.size + 1, 0, none⟩)] W fun e w' => e = .returned (.tuple #[.string ts, .int .i64 tc]) ∧ Below (w1.heap.size + 1) W w' := fun W h => by
        have := told_any _ _ _ tx W h
        rw [htf] at this
        exact this
      rw [htf] at HO2
      clear htf hd HO
      go_wp2_with (first
        | (go_at_call 17; (with_reducible refine hn1.mono ?_); rintro r w3 ⟨rfl, b3⟩; have hS3 := hS.below b3; have hB3 : Below w.heap.size w w3 := hW2b.trans (b3.mono (by omega)); obtain ⟨f0, f1⟩ := (bB2.below b3 hw2).cells; have hl3 := hlay (by trivial) w3 (w1.heap.size + 1) w1.heap.size (by omega) hB3 hS3)
        | (go_at_call 18; (with_reducible refine hl3.mono ?_); rintro r w4 ⟨rfl, s4, k4⟩)
        | (go_at_call 19; (with_reducible refine (htold _ s4).mono ?_); rintro r w5 ⟨rfl, b5⟩))
      go_ret2
      exact ⟨by rw [HO2.out]; rfl, (hB3.trans (k4.1.mono (by omega))).trans (b5.mono (by omega))⟩
set_option maxRecDepth 100000 in
set_option maxHeartbeats 1000000 in
theorem printNest_any (p : Pr) (n₀ : Nat) (w : World) (hn : n₀ ≤ w.heap.size) (hI : p.Is n₀ w) (hL : Laid w) (hsz : p.size ≤ 900) :
    Calls Tryz.prog 9 #[p.val] w fun r w' => r = .returned (.int .i64 ((pnestOut p : Nat) : Int)) ∧ Below w.heap.size w w' := by
  have h3 := hL.size
  have hchk : ∀ W, Below w.heap.size w W → Calls Tryz.prog 15 #[p.val] W fun r w' => r = .returned (.int .i64 (if p.ok then 0 else 20)) ∧ Below W.heap.size W w' := fun W hW =>
    check_any p n₀ W (by have := hW.size; omega) (hI.below (hW.mono hn)) (hL.below hW h3).shapes
  have hnst : ∀ W m, Below w.heap.size w W → SignsAt W m → Calls Tryz.prog 17 #[.map (some m), p.val] W fun r w' => r = .returned (.int .i64 ((p.nst : Nat) : Int)) ∧ Below W.heap.size W w' := fun W m hW hS =>
    nestProgram_any p n₀ m W (by have := hW.size; omega) (hI.below (hW.mono hn)) hS (by omega)
  have HO : Hid (pnestOut p = if p.ok then p.nst else 0) := rfl
  obtain ⟨out, hout⟩ : ∃ out, pnestOut p = out := ⟨_, rfl⟩
  rw [hout] at HO ⊢
  clear hout
  obtain ⟨y, hy⟩ : ∃ y, p.nst = y := ⟨_, rfl⟩
  rw [hy] at HO
  simp only [hy] at hnst
  clear hy hsz hI
  obtain ⟨ok, hok⟩ : ∃ ok, p.ok = ok := ⟨_, rfl⟩
  simp only [hok] at hchk HO
  clear hok
  rcases p with ⟨mad, mcap, mons, rad, rcap, roles⟩
  simp only [Pr.val] at hchk hnst ⊢
  have hB0 : Below w.heap.size w (w.alloc (.cells #[.slice mad mons.length mcap, .slice rad roles.length rcap] 25)) := (Below.refl _ w).al le_rfl' _
  have bB : PBox (w.alloc (.cells #[.slice mad mons.length mcap, .slice rad roles.length rcap] 25)) w.heap.size mad mcap mons.length rad rcap roles.length := heap_alloc_new w _
  have hz0 : w.heap.size < (w.alloc (.cells #[.slice mad mons.length mcap, .slice rad roles.length rcap] 25)).heap.size := by simp
  have hc0 := hchk _ hB0
  cases ok
  · simp only [Bool.false_eq_true, if_false] at hc0 HO
    have HO2 := hid HO.out
    go_enter Tryz.func9, Tryz.ntmps9
    go_wp2_with (go_at_call 15; (with_reducible refine hc0.mono ?_); rintro r w1 ⟨rfl, b1⟩)
    go_ret
    exact ⟨by rw [HO2.out]; rfl, hB0.tr le_rfl' b1⟩
  · simp only [if_true] at hc0 HO
    have HO2 := hid HO.out
    go_enter Tryz.func9, Tryz.ntmps9
    go_upto_region 3 with (go_at_call 15; (with_reducible refine hc0.mono ?_); rintro r w1 ⟨rfl, b1⟩)
    have bB1 := bB.below b1 hz0
    have hB1 : Below w.heap.size w w1 := hB0.tr le_rfl' b1
    have hz1 := hB1.size
    have hw1 : w.heap.size < w1.heap.size := bB1.lt
    have HK : Hid (∀ W, Below w1.heap.size w1 W → W.cell? ⟨w.heap.size, 0, none⟩ = some (.slice mad mons.length mcap) ∧ W.cell? ⟨w.heap.size, 1, none⟩ = some (.slice rad roles.length rcap)) := fun W hW => (bB1.below hW hw1).cells
    have B := below_drewE (Below.refl w1.heap.size w1)
    clear bB hB0 hc0 hchk
    go_region_held3 (fun W => W.cell? ⟨w.heap.size, 0, none⟩ = some (.slice mad mons.length mcap) ∧ W.cell? ⟨w.heap.size, 1, none⟩ = some (.slice rad roles.length rcap)) (exact HK.out _ B)
      (first
        | (go_at_call 16; (with_reducible refine (signs_any _).mono ?_); rintro r u1 ⟨rfl, bb, sg⟩; have sg : SignsAt u1 w1.heap.size := sg; have B := B.tr le_rfl' bb)
        | (go_at_call 17; (with_reducible refine (hnst _ _ (hB1.trans (B.mono hz1)) sg).mono ?_); rintro r u2 ⟨rfl, bb⟩; have B := B.tr le_rfl' bb))
    all_goals go_wp2
    all_goals go_ret
    all_goals exact ⟨by rw [HO2.out]; rfl, hB1.trans (B.mono hz1)⟩
end Go.Proofs.YtnljhlmopjgogaaGreatDoor
