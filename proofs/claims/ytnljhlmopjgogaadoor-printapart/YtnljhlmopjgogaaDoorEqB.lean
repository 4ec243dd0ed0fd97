/-
  slices.EqualFunc at each type of package tree's lists, and sameStmt, SameStmts, sameMethod, sameVar, sameMonitor, sameRole, Same: whether two are the same but for places.
-/
import Derived.Test.YtnljhlmopjgogaaDoorEqA
import Derived.Test.YtnljhlmopjgogaaDoorTrB
namespace Go.Proofs.YtnljhlmopjgogaaDoor
open Go.RowKit
theorem row1 {α : Type} {cells : α → List Value} {W : World} {b off : Nat} {l : List α} (h : RowAt 1 cells W b off l) (k : Nat) (hk : k < l.length) {c0 : Value} (hc : cells l[k] = [c0]) :
    W.cell? ⟨b, off + k, none⟩ = some c0 := by
  have h' := h k hk
  rw [hc] at h'
  have h1 := h' 0 (by omega)
  rw [Nat.mul_one] at h1
  exact h1
theorem row3 {α : Type} {cells : α → List Value} {W : World} {b off : Nat} {l : List α} (h : RowAt 3 cells W b off l) (k : Nat) (hk : k < l.length) {c0 c1 c2 : Value} (hc : cells l[k] = [c0, c1, c2]) :
    W.cell? ⟨b, off + k * 3, none⟩ = some c0 ∧ W.cell? ⟨b, off + k * 3 + 1, none⟩ = some c1 ∧ W.cell? ⟨b, off + k * 3 + 2, none⟩ = some c2 := by
  have h' := h k hk
  rw [hc] at h'
  exact ⟨h' 0 (by omega), h' 1 (by omega), h' 2 (by omega)⟩
theorem row4 {α : Type} {cells : α → List Value} {W : World} {b off : Nat} {l : List α} (h : RowAt 4 cells W b off l) (k : Nat) (hk : k < l.length) {c0 c1 c2 c3 : Value} (hc : cells l[k] = [c0, c1, c2, c3]) :
    W.cell? ⟨b, off + k * 4, none⟩ = some c0 ∧ W.cell? ⟨b, off + k * 4 + 1, none⟩ = some c1 ∧ W.cell? ⟨b, off + k * 4 + 2, none⟩ = some c2 ∧ W.cell? ⟨b, off + k * 4 + 3, none⟩ = some c3 := by
  have h' := h k hk
  rw [hc] at h'
  exact ⟨h' 0 (by omega), h' 1 (by omega), h' 2 (by omega), h' 3 (by omega)⟩
theorem row5 {α : Type} {cells : α → List Value} {W : World} {b off : Nat} {l : List α} (h : RowAt 5 cells W b off l) (k : Nat) (hk : k < l.length) {c0 c1 c2 c3 c4 : Value} (hc : cells l[k] = [c0, c1, c2, c3, c4]) :
    W.cell? ⟨b, off + k * 5, none⟩ = some c0 ∧ W.cell? ⟨b, off + k * 5 + 1, none⟩ = some c1 ∧ W.cell? ⟨b, off + k * 5 + 2, none⟩ = some c2 ∧ W.cell? ⟨b, off + k * 5 + 3, none⟩ = some c3 ∧ W.cell? ⟨b, off + k * 5 + 4, none⟩ = some c4 := by
  have h' := h k hk
  rw [hc] at h'
  exact ⟨h' 0 (by omega), h' 1 (by omega), h' 2 (by omega), h' 3 (by omega), h' 4 (by omega)⟩
theorem row12 {α : Type} {cells : α → List Value} {W : World} {b off : Nat} {l : List α} (h : RowAt 12 cells W b off l) (k : Nat) (hk : k < l.length) {c0 c1 c2 c3 c4 c5 c6 c7 c8 c9 c10 c11 : Value} (hc : cells l[k] = [c0, c1, c2, c3, c4, c5, c6, c7, c8, c9, c10, c11]) :
    W.cell? ⟨b, off + k * 12, none⟩ = some c0 ∧ W.cell? ⟨b, off + k * 12 + 1, none⟩ = some c1 ∧ W.cell? ⟨b, off + k * 12 + 2, none⟩ = some c2 ∧ W.cell? ⟨b, off + k * 12 + 3, none⟩ = some c3 ∧ W.cell? ⟨b, off + k * 12 + 4, none⟩ = some c4 ∧ W.cell? ⟨b, off + k * 12 + 5, none⟩ = some c5 ∧ W.cell? ⟨b, off + k * 12 + 6, none⟩ = some c6 ∧ W.cell? ⟨b, off + k * 12 + 7, none⟩ = some c7 ∧ W.cell? ⟨b, off + k * 12 + 8, none⟩ = some c8 ∧ W.cell? ⟨b, off + k * 12 + 9, none⟩ = some c9 ∧ W.cell? ⟨b, off + k * 12 + 10, none⟩ = some c10 ∧ W.cell? ⟨b, off + k * 12 + 11, none⟩ = some c11 := by
  have h' := h k hk
  rw [hc] at h'
  exact ⟨h' 0 (by omega), h' 1 (by omega), h' 2 (by omega), h' 3 (by omega), h' 4 (by omega), h' 5 (by omega), h' 6 (by omega), h' 7 (by omega), h' 8 (by omega), h' 9 (by omega), h' 10 (by omega), h' 11 (by omega)⟩
set_option maxRecDepth 100000 in
set_option maxHeartbeats 1000000 in
theorem eqf45 (f : St → St → Bool) (n₀ : Nat) (xs ys : List St) (ad ad' : Option Addr) (cap cap' : Nat) (w : World) (hn : n₀ ≤ w.heap.size) (ha : SlAt 12 St.cells n₀ w ad cap xs) (hb : SlAt 12 St.cells n₀ w ad' cap' ys)
    (heq : ∀ (k : Nat) (h1 : k < xs.length) (h2 : k < ys.length) W, Below n₀ w W → Calls Tryd.prog 85 #[St.val xs[k], St.val ys[k]] W fun e W' => e = .returned (.bool (f xs[k] ys[k])) ∧ Below W.heap.size W W') :
    Calls Tryd.prog 84 #[.slice ad xs.length cap, .slice ad' ys.length cap', .func (.func 85) #[] #[]] w fun e w' => e = .returned (.bool (all2 f xs ys)) ∧ Below w.heap.size w w' := by
  have hl1 := ha.1; have hl2 := ha.2.1; have hl3 := hb.1; have hl4 := hb.2.1
  unfold maxLen at hl2 hl4
  by_cases hlen : xs.length = ys.length
  · have hlb : ((xs.length : Int) != (ys.length : Int)) = false := by rw [bne_eq_false_iff_eq]; omega
    have HLEN := hid hlen
    clear hlen
    go_enter Tryd.func84, Tryd.ntmps84
    go_wp2
    go_loopw [17] (fun i wr => ∃ k : Nat, k ≤ xs.length ∧ i = .int .i64 k ∧ Hid (all2 f (xs.take k) (ys.take k) = true) ∧ Below w.heap.size w wr) (fun i _ => xs.length - (intOf i).toNat)
    case atStart => exact ⟨0, by omega, rfl, rfl, Below.refl _ _⟩
    case round =>
      obtain ⟨k, hk, rfl, HA, hbw⟩ := hrel
      by_cases hlt : k < xs.length
      · have hlt' : k < ys.length := by have := HLEN.out; omega
        rcases ha.2.2 with h | ⟨b, off, rfl, hbn, hrow⟩
        · subst h; simp at hlt
        rcases hb.2.2 with h | ⟨b', off', rfl, hbn', hrow'⟩
        · subst h; simp at hlt'
        have hbn1 : b < wr.heap.size := by have := hbw.size; omega
        have hbn2 : b' < wr.heap.size := by have := hbw.size; omega
        have hq := heq k hlt hlt'
        have HS := hid (all2_snoc f xs ys k hlt hlt')
        have HC := hid (all2_cut f xs ys k hlt hlt')
        have hr := hrow.below (hbw.mono hn) hbn
        have hr' := hrow'.below (hbw.mono hn) hbn'
        rcases he : xs[k] with ⟨kind, mon, name, n, ⟨eop, emon, ename, en, ead, ecap, ekids, epos⟩, sad, scap, blocks, pos⟩
        rcases he' : ys[k] with ⟨kind', mon', name', n', ⟨eop', emon', ename', en', ead', ecap', ekids', epos'⟩, sad', scap', blocks', pos'⟩
        obtain ⟨c0, c1, c2, c3, c4, c5, c6, c7, c8, c9, c10, c11⟩ := row12 hr k hlt (by rw [he]; rfl)
        obtain ⟨d0, d1, d2, d3, d4, d5, d6, d7, d8, d9, d10, d11⟩ := row12 hr' k hlt' (by rw [he']; rfl)
        simp only [he, he', St.val, St.cells, Ex.cells, List.cons_append, List.nil_append] at hq
        have HF := hid he
        have HF' := hid he'
        clear he he'
        cases hf : f xs[k] ys[k]
        · have hf2 := hf
          rw [HF.out, HF'.out] at hf2
          rw [hf2] at hq
          clear hf2
          have HFF := hid hf
          clear hf
          go_wp2_with (go_at_call 85; refine (hq _ (((hbw.mono hn).al hn _).al hn _)).mono ?_; rintro e w1 ⟨rfl, hb1⟩)
          go_ret
          exact ⟨ret_bool (HC.out HFF.out).symm, ((hbw.al le_rfl' _).al le_rfl' _).tr le_rfl' hb1⟩
        · have hf2 := hf
          rw [HF.out, HF'.out] at hf2
          rw [hf2] at hq
          clear hf2
          have HFF := hid hf
          clear hf
          go_wp2_with (go_at_call 85; refine (hq _ (((hbw.mono hn).al hn _).al hn _)).mono ?_; rintro e w1 ⟨rfl, hb1⟩)
          go_roundw
          case rel => exact ⟨k + 1, by omega, by go_num, by rw [HS.out, HA.out, HFF.out]; rfl, ((hbw.al le_rfl' _).al le_rfl' _).tr le_rfl' hb1⟩
          case measure => simp [intOf]; omega
      · have hk' : k = xs.length := by omega
        go_wp2
        go_ret
        refine ⟨ret_bool ?_, hbw⟩
        have := HA.out
        rw [hk', List.take_length, HLEN.out, List.take_length] at this
        exact this.symm
  · have hlb : ((xs.length : Int) != (ys.length : Int)) = true := by rw [bne_iff_ne]; omega
    have HL := hid (all2_len f xs ys hlen)
    clear hlen
    go_enter Tryd.func84, Tryd.ntmps84
    go_wp2
    go_ret
    exact ⟨ret_bool HL.out.symm, Below.refl _ _⟩
set_option maxRecDepth 100000 in
set_option maxHeartbeats 1000000 in
theorem eqf67 (f : Bl → Bl → Bool) (n₀ : Nat) (xs ys : List Bl) (ad ad' : Option Addr) (cap cap' : Nat) (w : World) (hn : n₀ ≤ w.heap.size) (ha : SlAt 1 Bl.cells n₀ w ad cap xs) (hb : SlAt 1 Bl.cells n₀ w ad' cap' ys)
    (heq : ∀ (k : Nat) (h1 : k < xs.length) (h2 : k < ys.length) W, Below n₀ w W → Calls Tryd.prog 62 #[Bl.slice xs[k], Bl.slice ys[k]] W fun e W' => e = .returned (.bool (f xs[k] ys[k])) ∧ Below W.heap.size W W') :
    Calls Tryd.prog 94 #[.slice ad xs.length cap, .slice ad' ys.length cap', .func (.func 62) #[] #[]] w fun e w' => e = .returned (.bool (all2 f xs ys)) ∧ Below w.heap.size w w' := by
  have hl1 := ha.1; have hl2 := ha.2.1; have hl3 := hb.1; have hl4 := hb.2.1
  unfold maxLen at hl2 hl4
  by_cases hlen : xs.length = ys.length
  · have hlb : ((xs.length : Int) != (ys.length : Int)) = false := by rw [bne_eq_false_iff_eq]; omega
    have HLEN := hid hlen
    clear hlen
    go_enter Tryd.func94, Tryd.ntmps94
    go_wp2
    go_loopw [17] (fun i wr => ∃ k : Nat, k ≤ xs.length ∧ i = .int .i64 k ∧ Hid (all2 f (xs.take k) (ys.take k) = true) ∧ Below w.heap.size w wr) (fun i _ => xs.length - (intOf i).toNat)
    case atStart => exact ⟨0, by omega, rfl, rfl, Below.refl _ _⟩
    case round =>
      obtain ⟨k, hk, rfl, HA, hbw⟩ := hrel
      by_cases hlt : k < xs.length
      · have hlt' : k < ys.length := by have := HLEN.out; omega
        rcases ha.2.2 with h | ⟨b, off, rfl, hbn, hrow⟩
        · subst h; simp at hlt
        rcases hb.2.2 with h | ⟨b', off', rfl, hbn', hrow'⟩
        · subst h; simp at hlt'
        have hbn1 : b < wr.heap.size := by have := hbw.size; omega
        have hbn2 : b' < wr.heap.size := by have := hbw.size; omega
        have hq := heq k hlt hlt'
        have HS := hid (all2_snoc f xs ys k hlt hlt')
        have HC := hid (all2_cut f xs ys k hlt hlt')
        have hr := hrow.below (hbw.mono hn) hbn
        have hr' := hrow'.below (hbw.mono hn) hbn'
        rcases he : xs[k] with ⟨bad, bcap, body⟩
        rcases he' : ys[k] with ⟨bad', bcap', body'⟩
        have c0 := row1 hr k hlt (by rw [he]; rfl)
        have d0 := row1 hr' k hlt' (by rw [he']; rfl)
        simp only [Bl.slice] at c0 d0
        simp only [he, he', Bl.slice] at hq
        have HF := hid he
        have HF' := hid he'
        clear he he'
        cases hf : f xs[k] ys[k]
        · have hf2 := hf
          rw [HF.out, HF'.out] at hf2
          rw [hf2] at hq
          clear hf2
          have HFF := hid hf
          clear hf
          go_wp2_with (go_at_call 62; refine (hq _ (hbw.mono hn)).mono ?_; rintro e w1 ⟨rfl, hb1⟩)
          go_ret
          exact ⟨ret_bool (HC.out HFF.out).symm, hbw.tr le_rfl' hb1⟩
        · have hf2 := hf
          rw [HF.out, HF'.out] at hf2
          rw [hf2] at hq
          clear hf2
          have HFF := hid hf
          clear hf
          go_wp2_with (go_at_call 62; refine (hq _ (hbw.mono hn)).mono ?_; rintro e w1 ⟨rfl, hb1⟩)
          go_roundw
          case rel => exact ⟨k + 1, by omega, by go_num, by rw [HS.out, HA.out, HFF.out]; rfl, hbw.tr le_rfl' hb1⟩
          case measure => simp [intOf]; omega
      · have hk' : k = xs.length := by omega
        go_wp2
        go_ret
        refine ⟨ret_bool ?_, hbw⟩
        have := HA.out
        rw [hk', List.take_length, HLEN.out, List.take_length] at this
        exact this.symm
  · have hlb : ((xs.length : Int) != (ys.length : Int)) = true := by rw [bne_iff_ne]; omega
    have HL := hid (all2_len f xs ys hlen)
    clear hlen
    go_enter Tryd.func94, Tryd.ntmps94
    go_wp2
    go_ret
    exact ⟨ret_bool HL.out.symm, Below.refl _ _⟩
set_option maxRecDepth 100000 in
set_option maxHeartbeats 1000000 in
theorem eqf63 (f : Va → Va → Bool) (n₀ : Nat) (xs ys : List Va) (ad ad' : Option Addr) (cap cap' : Nat) (w : World) (hn : n₀ ≤ w.heap.size) (ha : SlAt 6 Va.cells n₀ w ad cap xs) (hb : SlAt 6 Va.cells n₀ w ad' cap' ys)
    (heq : ∀ (k : Nat) (h1 : k < xs.length) (h2 : k < ys.length) W, Below n₀ w W → Calls Tryd.prog 59 #[Va.val xs[k], Va.val ys[k]] W fun e W' => e = .returned (.bool (f xs[k] ys[k])) ∧ Below W.heap.size W W') :
    Calls Tryd.prog 58 #[.slice ad xs.length cap, .slice ad' ys.length cap', .func (.func 59) #[] #[]] w fun e w' => e = .returned (.bool (all2 f xs ys)) ∧ Below w.heap.size w w' := by
  have hl1 := ha.1; have hl2 := ha.2.1; have hl3 := hb.1; have hl4 := hb.2.1
  unfold maxLen at hl2 hl4
  by_cases hlen : xs.length = ys.length
  · have hlb : ((xs.length : Int) != (ys.length : Int)) = false := by rw [bne_eq_false_iff_eq]; omega
    have HLEN := hid hlen
    clear hlen
    go_enter Tryd.func58, Tryd.ntmps58
    go_wp2
    go_loopw [17] (fun i wr => ∃ k : Nat, k ≤ xs.length ∧ i = .int .i64 k ∧ Hid (all2 f (xs.take k) (ys.take k) = true) ∧ Below w.heap.size w wr) (fun i _ => xs.length - (intOf i).toNat)
    case atStart => exact ⟨0, by omega, rfl, rfl, Below.refl _ _⟩
    case round =>
      obtain ⟨k, hk, rfl, HA, hbw⟩ := hrel
      by_cases hlt : k < xs.length
      · have hlt' : k < ys.length := by have := HLEN.out; omega
        rcases ha.2.2 with h | ⟨b, off, rfl, hbn, hrow⟩
        · subst h; simp at hlt
        rcases hb.2.2 with h | ⟨b', off', rfl, hbn', hrow'⟩
        · subst h; simp at hlt'
        have hbn1 : b < wr.heap.size := by have := hbw.size; omega
        have hbn2 : b' < wr.heap.size := by have := hbw.size; omega
        have hq := heq k hlt hlt'
        have HS := hid (all2_snoc f xs ys k hlt hlt')
        have HC := hid (all2_cut f xs ys k hlt hlt')
        have hr := hrow.below (hbw.mono hn) hbn
        have hr' := hrow'.below (hbw.mono hn) hbn'
        rcases he : xs[k] with ⟨name, type, lo, hi, init, pos⟩
        rcases he' : ys[k] with ⟨name', type', lo', hi', init', pos'⟩
        obtain ⟨c0, c1, c2, c3, c4, c5⟩ := row6 hr k hlt (by rw [he]; rfl)
        obtain ⟨d0, d1, d2, d3, d4, d5⟩ := row6 hr' k hlt' (by rw [he']; rfl)
        simp only [he, he', Va.val, Va.cells] at hq
        have HF := hid he
        have HF' := hid he'
        clear he he'
        cases hf : f xs[k] ys[k]
        · have hf2 := hf
          rw [HF.out, HF'.out] at hf2
          rw [hf2] at hq
          clear hf2
          have HFF := hid hf
          clear hf
          go_wp2_with (go_at_call 59; refine (hq _ (((hbw.mono hn).al hn _).al hn _)).mono ?_; rintro e w1 ⟨rfl, hb1⟩)
          go_ret
          exact ⟨ret_bool (HC.out HFF.out).symm, ((hbw.al le_rfl' _).al le_rfl' _).tr le_rfl' hb1⟩
        · have hf2 := hf
          rw [HF.out, HF'.out] at hf2
          rw [hf2] at hq
          clear hf2
          have HFF := hid hf
          clear hf
          go_wp2_with (go_at_call 59; refine (hq _ (((hbw.mono hn).al hn _).al hn _)).mono ?_; rintro e w1 ⟨rfl, hb1⟩)
          go_roundw
          case rel => exact ⟨k + 1, by omega, by go_num, by rw [HS.out, HA.out, HFF.out]; rfl, ((hbw.al le_rfl' _).al le_rfl' _).tr le_rfl' hb1⟩
          case measure => simp [intOf]; omega
      · have hk' : k = xs.length := by omega
        go_wp2
        go_ret
        refine ⟨ret_bool ?_, hbw⟩
        have := HA.out
        rw [hk', List.take_length, HLEN.out, List.take_length] at this
        exact this.symm
  · have hlb : ((xs.length : Int) != (ys.length : Int)) = true := by rw [bne_iff_ne]; omega
    have HL := hid (all2_len f xs ys hlen)
    clear hlen
    go_enter Tryd.func58, Tryd.ntmps58
    go_wp2
    go_ret
    exact ⟨ret_bool HL.out.symm, Below.refl _ _⟩
set_option maxRecDepth 100000 in
set_option maxHeartbeats 1000000 in
theorem eqf65 (f : Me → Me → Bool) (n₀ : Nat) (xs ys : List Me) (ad ad' : Option Addr) (cap cap' : Nat) (w : World) (hn : n₀ ≤ w.heap.size) (ha : SlAt 3 Me.cells n₀ w ad cap xs) (hb : SlAt 3 Me.cells n₀ w ad' cap' ys)
    (heq : ∀ (k : Nat) (h1 : k < xs.length) (h2 : k < ys.length) W, Below n₀ w W → Calls Tryd.prog 61 #[Me.val xs[k], Me.val ys[k]] W fun e W' => e = .returned (.bool (f xs[k] ys[k])) ∧ Below W.heap.size W W') :
    Calls Tryd.prog 60 #[.slice ad xs.length cap, .slice ad' ys.length cap', .func (.func 61) #[] #[]] w fun e w' => e = .returned (.bool (all2 f xs ys)) ∧ Below w.heap.size w w' := by
  have hl1 := ha.1; have hl2 := ha.2.1; have hl3 := hb.1; have hl4 := hb.2.1
  unfold maxLen at hl2 hl4
  by_cases hlen : xs.length = ys.length
  · have hlb : ((xs.length : Int) != (ys.length : Int)) = false := by rw [bne_eq_false_iff_eq]; omega
    have HLEN := hid hlen
    clear hlen
    go_enter Tryd.func60, Tryd.ntmps60
    go_wp2
    go_loopw [17] (fun i wr => ∃ k : Nat, k ≤ xs.length ∧ i = .int .i64 k ∧ Hid (all2 f (xs.take k) (ys.take k) = true) ∧ Below w.heap.size w wr) (fun i _ => xs.length - (intOf i).toNat)
    case atStart => exact ⟨0, by omega, rfl, rfl, Below.refl _ _⟩
    case round =>
      obtain ⟨k, hk, rfl, HA, hbw⟩ := hrel
      by_cases hlt : k < xs.length
      · have hlt' : k < ys.length := by have := HLEN.out; omega
        rcases ha.2.2 with h | ⟨b, off, rfl, hbn, hrow⟩
        · subst h; simp at hlt
        rcases hb.2.2 with h | ⟨b', off', rfl, hbn', hrow'⟩
        · subst h; simp at hlt'
        have hbn1 : b < wr.heap.size := by have := hbw.size; omega
        have hbn2 : b' < wr.heap.size := by have := hbw.size; omega
        have hq := heq k hlt hlt'
        have HS := hid (all2_snoc f xs ys k hlt hlt')
        have HC := hid (all2_cut f xs ys k hlt hlt')
        have hr := hrow.below (hbw.mono hn) hbn
        have hr' := hrow'.below (hbw.mono hn) hbn'
        rcases he : xs[k] with ⟨name, ⟨bad, bcap, body⟩, pos⟩
        rcases he' : ys[k] with ⟨name', ⟨bad', bcap', body'⟩, pos'⟩
        obtain ⟨c0, c1, c2⟩ := row3 hr k hlt (by rw [he]; rfl)
        obtain ⟨d0, d1, d2⟩ := row3 hr' k hlt' (by rw [he']; rfl)
        simp only [Bl.slice] at c1 d1
        simp only [he, he', Me.val, Me.cells, Bl.slice] at hq
        have HF := hid he
        have HF' := hid he'
        clear he he'
        cases hf : f xs[k] ys[k]
        · have hf2 := hf
          rw [HF.out, HF'.out] at hf2
          rw [hf2] at hq
          clear hf2
          have HFF := hid hf
          clear hf
          go_wp2_with (go_at_call 61; refine (hq _ (((hbw.mono hn).al hn _).al hn _)).mono ?_; rintro e w1 ⟨rfl, hb1⟩)
          go_ret
          exact ⟨ret_bool (HC.out HFF.out).symm, ((hbw.al le_rfl' _).al le_rfl' _).tr le_rfl' hb1⟩
        · have hf2 := hf
          rw [HF.out, HF'.out] at hf2
          rw [hf2] at hq
          clear hf2
          have HFF := hid hf
          clear hf
          go_wp2_with (go_at_call 61; refine (hq _ (((hbw.mono hn).al hn _).al hn _)).mono ?_; rintro e w1 ⟨rfl, hb1⟩)
          go_roundw
          case rel => exact ⟨k + 1, by omega, by go_num, by rw [HS.out, HA.out, HFF.out]; rfl, ((hbw.al le_rfl' _).al le_rfl' _).tr le_rfl' hb1⟩
          case measure => simp [intOf]; omega
      · have hk' : k = xs.length := by omega
        go_wp2
        go_ret
        refine ⟨ret_bool ?_, hbw⟩
        have := HA.out
        rw [hk', List.take_length, HLEN.out, List.take_length] at this
        exact this.symm
  · have hlb : ((xs.length : Int) != (ys.length : Int)) = true := by rw [bne_iff_ne]; omega
    have HL := hid (all2_len f xs ys hlen)
    clear hlen
    go_enter Tryd.func60, Tryd.ntmps60
    go_wp2
    go_ret
    exact ⟨ret_bool HL.out.symm, Below.refl _ _⟩
set_option maxRecDepth 100000 in
set_option maxHeartbeats 1000000 in
theorem eqf40 (f : Mo → Mo → Bool) (n₀ : Nat) (xs ys : List Mo) (ad ad' : Option Addr) (cap cap' : Nat) (w : World) (hn : n₀ ≤ w.heap.size) (ha : SlAt 4 Mo.cells n₀ w ad cap xs) (hb : SlAt 4 Mo.cells n₀ w ad' cap' ys)
    (heq : ∀ (k : Nat) (h1 : k < xs.length) (h2 : k < ys.length) W, Below n₀ w W → Calls Tryd.prog 33 #[Mo.val xs[k], Mo.val ys[k]] W fun e W' => e = .returned (.bool (f xs[k] ys[k])) ∧ Below W.heap.size W W') :
    Calls Tryd.prog 32 #[.slice ad xs.length cap, .slice ad' ys.length cap', .func (.func 33) #[] #[]] w fun e w' => e = .returned (.bool (all2 f xs ys)) ∧ Below w.heap.size w w' := by
  have hl1 := ha.1; have hl2 := ha.2.1; have hl3 := hb.1; have hl4 := hb.2.1
  unfold maxLen at hl2 hl4
  by_cases hlen : xs.length = ys.length
  · have hlb : ((xs.length : Int) != (ys.length : Int)) = false := by rw [bne_eq_false_iff_eq]; omega
    have HLEN := hid hlen
    clear hlen
    go_enter Tryd.func32, Tryd.ntmps32
    go_wp2
    go_loopw [17] (fun i wr => ∃ k : Nat, k ≤ xs.length ∧ i = .int .i64 k ∧ Hid (all2 f (xs.take k) (ys.take k) = true) ∧ Below w.heap.size w wr) (fun i _ => xs.length - (intOf i).toNat)
    case atStart => exact ⟨0, by omega, rfl, rfl, Below.refl _ _⟩
    case round =>
      obtain ⟨k, hk, rfl, HA, hbw⟩ := hrel
      by_cases hlt : k < xs.length
      · have hlt' : k < ys.length := by have := HLEN.out; omega
        rcases ha.2.2 with h | ⟨b, off, rfl, hbn, hrow⟩
        · subst h; simp at hlt
        rcases hb.2.2 with h | ⟨b', off', rfl, hbn', hrow'⟩
        · subst h; simp at hlt'
        have hbn1 : b < wr.heap.size := by have := hbw.size; omega
        have hbn2 : b' < wr.heap.size := by have := hbw.size; omega
        have hq := heq k hlt hlt'
        have HS := hid (all2_snoc f xs ys k hlt hlt')
        have HC := hid (all2_cut f xs ys k hlt hlt')
        have hr := hrow.below (hbw.mono hn) hbn
        have hr' := hrow'.below (hbw.mono hn) hbn'
        rcases he : xs[k] with ⟨name, vad, vcap, vars, mad, mcap, meths, pos⟩
        rcases he' : ys[k] with ⟨name', vad', vcap', vars', mad', mcap', meths', pos'⟩
        obtain ⟨c0, c1, c2, c3⟩ := row4 hr k hlt (by rw [he]; rfl)
        obtain ⟨d0, d1, d2, d3⟩ := row4 hr' k hlt' (by rw [he']; rfl)
        simp only [he, he', Mo.val, Mo.cells] at hq
        have HF := hid he
        have HF' := hid he'
        clear he he'
        cases hf : f xs[k] ys[k]
        · have hf2 := hf
          rw [HF.out, HF'.out] at hf2
          rw [hf2] at hq
          clear hf2
          have HFF := hid hf
          clear hf
          go_wp2_with (go_at_call 33; refine (hq _ (((hbw.mono hn).al hn _).al hn _)).mono ?_; rintro e w1 ⟨rfl, hb1⟩)
          go_ret
          exact ⟨ret_bool (HC.out HFF.out).symm, ((hbw.al le_rfl' _).al le_rfl' _).tr le_rfl' hb1⟩
        · have hf2 := hf
          rw [HF.out, HF'.out] at hf2
          rw [hf2] at hq
          clear hf2
          have HFF := hid hf
          clear hf
          go_wp2_with (go_at_call 33; refine (hq _ (((hbw.mono hn).al hn _).al hn _)).mono ?_; rintro e w1 ⟨rfl, hb1⟩)
          go_roundw
          case rel => exact ⟨k + 1, by omega, by go_num, by rw [HS.out, HA.out, HFF.out]; rfl, ((hbw.al le_rfl' _).al le_rfl' _).tr le_rfl' hb1⟩
          case measure => simp [intOf]; omega
      · have hk' : k = xs.length := by omega
        go_wp2
        go_ret
        refine ⟨ret_bool ?_, hbw⟩
        have := HA.out
        rw [hk', List.take_length, HLEN.out, List.take_length] at this
        exact this.symm
  · have hlb : ((xs.length : Int) != (ys.length : Int)) = true := by rw [bne_iff_ne]; omega
    have HL := hid (all2_len f xs ys hlen)
    clear hlen
    go_enter Tryd.func32, Tryd.ntmps32
    go_wp2
    go_ret
    exact ⟨ret_bool HL.out.symm, Below.refl _ _⟩
set_option maxRecDepth 100000 in
set_option maxHeartbeats 1000000 in
theorem eqf42 (f : Ro → Ro → Bool) (n₀ : Nat) (xs ys : List Ro) (ad ad' : Option Addr) (cap cap' : Nat) (w : World) (hn : n₀ ≤ w.heap.size) (ha : SlAt 5 Ro.cells n₀ w ad cap xs) (hb : SlAt 5 Ro.cells n₀ w ad' cap' ys)
    (heq : ∀ (k : Nat) (h1 : k < xs.length) (h2 : k < ys.length) W, Below n₀ w W → Calls Tryd.prog 35 #[Ro.val xs[k], Ro.val ys[k]] W fun e W' => e = .returned (.bool (f xs[k] ys[k])) ∧ Below W.heap.size W W') :
    Calls Tryd.prog 34 #[.slice ad xs.length cap, .slice ad' ys.length cap', .func (.func 35) #[] #[]] w fun e w' => e = .returned (.bool (all2 f xs ys)) ∧ Below w.heap.size w w' := by
  have hl1 := ha.1; have hl2 := ha.2.1; have hl3 := hb.1; have hl4 := hb.2.1
  unfold maxLen at hl2 hl4
  by_cases hlen : xs.length = ys.length
  · have hlb : ((xs.length : Int) != (ys.length : Int)) = false := by rw [bne_eq_false_iff_eq]; omega
    have HLEN := hid hlen
    clear hlen
    go_enter Tryd.func34, Tryd.ntmps34
    go_wp2
    go_loopw [17] (fun i wr => ∃ k : Nat, k ≤ xs.length ∧ i = .int .i64 k ∧ Hid (all2 f (xs.take k) (ys.take k) = true) ∧ Below w.heap.size w wr) (fun i _ => xs.length - (intOf i).toNat)
    case atStart => exact ⟨0, by omega, rfl, rfl, Below.refl _ _⟩
    case round =>
      obtain ⟨k, hk, rfl, HA, hbw⟩ := hrel
      by_cases hlt : k < xs.length
      · have hlt' : k < ys.length := by have := HLEN.out; omega
        rcases ha.2.2 with h | ⟨b, off, rfl, hbn, hrow⟩
        · subst h; simp at hlt
        rcases hb.2.2 with h | ⟨b', off', rfl, hbn', hrow'⟩
        · subst h; simp at hlt'
        have hbn1 : b < wr.heap.size := by have := hbw.size; omega
        have hbn2 : b' < wr.heap.size := by have := hbw.size; omega
        have hq := heq k hlt hlt'
        have HS := hid (all2_snoc f xs ys k hlt hlt')
        have HC := hid (all2_cut f xs ys k hlt hlt')
        have hr := hrow.below (hbw.mono hn) hbn
        have hr' := hrow'.below (hbw.mono hn) hbn'
        rcases he : xs[k] with ⟨name, star, count, ⟨bad, bcap, body⟩, pos⟩
        rcases he' : ys[k] with ⟨name', star', count', ⟨bad', bcap', body'⟩, pos'⟩
        obtain ⟨c0, c1, c2, c3, c4⟩ := row5 hr k hlt (by rw [he]; rfl)
        obtain ⟨d0, d1, d2, d3, d4⟩ := row5 hr' k hlt' (by rw [he']; rfl)
        simp only [Bl.slice] at c3 d3
        simp only [he, he', Ro.val, Ro.cells, Bl.slice] at hq
        have HF := hid he
        have HF' := hid he'
        clear he he'
        cases hf : f xs[k] ys[k]
        · have hf2 := hf
          rw [HF.out, HF'.out] at hf2
          rw [hf2] at hq
          clear hf2
          have HFF := hid hf
          clear hf
          go_wp2_with (go_at_call 35; refine (hq _ (((hbw.mono hn).al hn _).al hn _)).mono ?_; rintro e w1 ⟨rfl, hb1⟩)
          go_ret
          exact ⟨ret_bool (HC.out HFF.out).symm, ((hbw.al le_rfl' _).al le_rfl' _).tr le_rfl' hb1⟩
        · have hf2 := hf
          rw [HF.out, HF'.out] at hf2
          rw [hf2] at hq
          clear hf2
          have HFF := hid hf
          clear hf
          go_wp2_with (go_at_call 35; refine (hq _ (((hbw.mono hn).al hn _).al hn _)).mono ?_; rintro e w1 ⟨rfl, hb1⟩)
          go_roundw
          case rel => exact ⟨k + 1, by omega, by go_num, by rw [HS.out, HA.out, HFF.out]; rfl, ((hbw.al le_rfl' _).al le_rfl' _).tr le_rfl' hb1⟩
          case measure => simp [intOf]; omega
      · have hk' : k = xs.length := by omega
        go_wp2
        go_ret
        refine ⟨ret_bool ?_, hbw⟩
        have := HA.out
        rw [hk', List.take_length, HLEN.out, List.take_length] at this
        exact this.symm
  · have hlb : ((xs.length : Int) != (ys.length : Int)) = true := by rw [bne_iff_ne]; omega
    have HL := hid (all2_len f xs ys hlen)
    clear hlen
    go_enter Tryd.func34, Tryd.ntmps34
    go_wp2
    go_ret
    exact ⟨ret_bool HL.out.symm, Below.refl _ _⟩
end Go.Proofs.YtnljhlmopjgogaaDoor
