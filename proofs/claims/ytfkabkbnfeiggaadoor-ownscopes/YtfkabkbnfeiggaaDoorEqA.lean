/-
  SameExpr of package tree, by slices.EqualFunc, tells whether two expressions are the same but for places.
-/
import Derived.Test.YtfkabkbnfeiggaaDoorTrA
namespace Go.Proofs.YtfkabkbnfeiggaaDoor
open Go.RowKit
theorem row6 {α : Type} {cells : α → List Value} {W : World} {b off : Nat} {l : List α} (h : RowAt 6 cells W b off l) (k : Nat) (hk : k < l.length) {c0 c1 c2 c3 c4 c5 : Value} (hc : cells l[k] = [c0, c1, c2, c3, c4, c5]) :
    W.cell? ⟨b, off + k * 6, none⟩ = some c0 ∧ W.cell? ⟨b, off + k * 6 + 1, none⟩ = some c1 ∧ W.cell? ⟨b, off + k * 6 + 2, none⟩ = some c2 ∧ W.cell? ⟨b, off + k * 6 + 3, none⟩ = some c3 ∧ W.cell? ⟨b, off + k * 6 + 4, none⟩ = some c4 ∧ W.cell? ⟨b, off + k * 6 + 5, none⟩ = some c5 := by
  have h' := h k hk
  rw [hc] at h'
  exact ⟨h' 0 (by omega), h' 1 (by omega), h' 2 (by omega), h' 3 (by omega), h' 4 (by omega), h' 5 (by omega)⟩
set_option maxRecDepth 100000 in
set_option maxHeartbeats 1000000 in
theorem eqf38 (f : Ex → Ex → Bool) (n₀ : Nat) (xs ys : List Ex) (ad ad' : Option Addr) (cap cap' : Nat) (w : World) (hn : n₀ ≤ w.heap.size) (ha : SlAt 6 Ex.cells n₀ w ad cap xs) (hb : SlAt 6 Ex.cells n₀ w ad' cap' ys)
    (heq : ∀ (k : Nat) (h1 : k < xs.length) (h2 : k < ys.length) W, Below n₀ w W → Calls Tryd.prog 93 #[xs[k].val, ys[k].val] W fun e W' => e = .returned (.bool (f xs[k] ys[k])) ∧ Below W.heap.size W W') :
    Calls Tryd.prog 100 #[.slice ad xs.length cap, .slice ad' ys.length cap', .func (.func 93) #[] #[]] w fun e w' => e = .returned (.bool (all2 f xs ys)) ∧ Below w.heap.size w w' := by
  have hl1 := ha.1; have hl2 := ha.2.1; have hl3 := hb.1; have hl4 := hb.2.1
  unfold maxLen at hl2 hl4
  by_cases hlen : xs.length = ys.length
  · have hlb : ((xs.length : Int) != (ys.length : Int)) = false := by rw [bne_eq_false_iff_eq]; omega
    have HLEN := hid hlen
    clear hlen
    go_enter Tryd.func100, Tryd.ntmps100
    go_wp2
    go_loopw [17] (fun i wr => ∃ k : Nat, k ≤ xs.length ∧ i = .int .i64 k ∧ Hid (all2 f (xs.take k) (ys.take k) = true) ∧ Below w.heap.size w wr) (fun i _ => xs.length - (intOf i).toNat)
    case atStart => exact ⟨0, by omega, rfl, rfl, Below.refl _ _⟩
    case round =>
      obtain ⟨k, hk, rfl, HA, hbw⟩ := hrel
      by_cases hlt : k < xs.length
      · have hlt' : k < ys.length := by have := HLEN.out; omega
        rcases ha.2.2 with h | ⟨b, off, rfl, hbn, hrow⟩
        · subst h; simp at hlt
        rcases hb.2.2 with h | ⟨b', off', rfl, hbn', hrow'⟩
        · subst h; simp at hlt'
        have hbn1 : b < wr.heap.size := by have := hbw.size; omega
        have hbn2 : b' < wr.heap.size := by have := hbw.size; omega
        have hq := heq k hlt hlt'
        have HS := hid (all2_snoc f xs ys k hlt hlt')
        have HC := hid (all2_cut f xs ys k hlt hlt')
        have hr := hrow.below (hbw.mono hn) hbn
        have hr' := hrow'.below (hbw.mono hn) hbn'
        rcases he : xs[k] with ⟨op, mon, name, n, ad, cp, kids, pos⟩
        rcases he' : ys[k] with ⟨op', mon', name', n', ad', cp', kids', pos'⟩
        obtain ⟨c0, c1, c2, c3, c4, c5⟩ := row6 hr k hlt (by rw [he]; rfl)
        obtain ⟨d0, d1, d2, d3, d4, d5⟩ := row6 hr' k hlt' (by rw [he']; rfl)
        simp only [he, he', Ex.val, Ex.cells] at hq
        have HF := hid he
        have HF' := hid he'
        clear he he'
        cases hf : f xs[k] ys[k]
        · have hf2 := hf
          rw [HF.out, HF'.out] at hf2
          rw [hf2] at hq
          go_wp2_with (go_at_call 93; refine (hq _ (((hbw.mono hn).al hn _).al hn _)).mono ?_; rintro e w1 ⟨rfl, hb1⟩)
          go_ret
          exact ⟨ret_bool (HC.out hf).symm, ((hbw.al le_rfl' _).al le_rfl' _).tr le_rfl' hb1⟩
        · have hf2 := hf
          rw [HF.out, HF'.out] at hf2
          rw [hf2] at hq
          go_wp2_with (go_at_call 93; refine (hq _ (((hbw.mono hn).al hn _).al hn _)).mono ?_; rintro e w1 ⟨rfl, hb1⟩)
          go_roundw
          case rel => exact ⟨k + 1, by omega, by go_num, by rw [HS.out, HA.out, hf]; rfl, ((hbw.al le_rfl' _).al le_rfl' _).tr le_rfl' hb1⟩
          case measure => simp [intOf]; omega
      · have hk' : k = xs.length := by omega
        go_wp2
        go_ret
        refine ⟨ret_bool ?_, hbw⟩
        have := HA.out
        rw [hk', List.take_length, HLEN.out, List.take_length] at this
        exact this.symm
  · have hlb : ((xs.length : Int) != (ys.length : Int)) = true := by rw [bne_iff_ne]; omega
    have HL := hid (all2_len f xs ys hlen)
    go_enter Tryd.func100, Tryd.ntmps100
    go_wp2
    go_ret
    exact ⟨ret_bool HL.out.symm, Below.refl _ _⟩
theorem same_mk (op op' : Int) (mon name mon' name' : ByteArray) (n n' : Int) (ad ad' : Option Addr) (cap cap' : Nat) (kids kids' : List Ex) (pos pos' : Int) :
    (Ex.mk op mon name n ad cap kids pos).same (Ex.mk op' mon' name' n' ad' cap' kids' pos') = ((op == op') && (mon.toList == mon'.toList) && (name.toList == name'.toList) && (n == n') && all2 Ex.same kids kids') := by
  rw [Ex.same, Ex.sameL_eq]
set_option maxRecDepth 100000 in
set_option maxHeartbeats 1000000 in
theorem sameExpr_any (n₀ : Nat) (a : Ex) : ∀ (b : Ex) (w : World), n₀ ≤ w.heap.size → a.Is n₀ w → b.Is n₀ w →
    Calls Tryd.prog 93 #[a.val, b.val] w fun e w' => e = .returned (.bool (a.same b)) ∧ Below w.heap.size w w' := by
  induction a using Ex.ind with
  | h op mon name n ad cap kids pos ih =>
    rintro ⟨op', mon', name', n', ad', cap', kids', pos'⟩ w hn ha hb
    have hS := same_mk op op' mon name mon' name' n n' ad ad' cap cap' kids kids' pos pos'
    have HS := hid hS
    clear hS
    simp only [Ex.val, Ex.cells]
    cases h1 : (op == op')
    · go_enter Tryd.func93, Tryd.ntmps93
      go_wp2
      go_ret
      exact ⟨ret_bool (by rw [HS.out, h1]; rfl), ((Below.refl _ _).al le_rfl' _).al le_rfl' _⟩
    cases h2 : (mon.toList == mon'.toList)
    · go_enter Tryd.func93, Tryd.ntmps93
      go_wp2
      go_ret
      exact ⟨ret_bool (by rw [HS.out, h1, h2]; rfl), ((Below.refl _ _).al le_rfl' _).al le_rfl' _⟩
    cases h3 : (name.toList == name'.toList)
    · go_enter Tryd.func93, Tryd.ntmps93
      go_wp2
      go_ret
      exact ⟨ret_bool (by rw [HS.out, h1, h2, h3]; rfl), ((Below.refl _ _).al le_rfl' _).al le_rfl' _⟩
    cases h4 : (n == n')
    · go_enter Tryd.func93, Tryd.ntmps93
      go_wp2
      go_ret
      exact ⟨ret_bool (by rw [HS.out, h1, h2, h3, h4]; rfl), ((Below.refl _ _).al le_rfl' _).al le_rfl' _⟩
    have hcall : ∀ W, Below n₀ w W → Calls Tryd.prog 100 #[.slice ad kids.length cap, .slice ad' kids'.length cap', .func (.func 93) #[] #[]] W fun e w' => e = .returned (.bool (all2 Ex.same kids kids')) ∧ Below W.heap.size W w' := fun W hW =>
      eqf38 Ex.same n₀ kids kids' ad ad' cap cap' W (by have := hW.size; omega) (ha.down.2.1.below hW) (hb.down.2.1.below hW)
        (fun k k1 k2 W' hW' => ih kids[k] (List.getElem_mem k1) kids'[k] W' (by have := hW.size; have := hW'.size; omega) ((ha.down.2.2 _ (List.getElem_mem k1)).below (hW.trans hW')) ((hb.down.2.2 _ (List.getElem_mem k2)).below (hW.trans hW')))
    clear ha hb ih
    go_enter Tryd.func93, Tryd.ntmps93
    go_wp2_with (go_at_call 100; refine (hcall _ (((Below.refl n₀ w).al hn _).al hn _)).mono ?_; rintro e w1 ⟨rfl, hb1⟩)
    go_ret
    exact ⟨ret_bool (by rw [HS.out, h1, h2, h3, h4]; rfl), (((Below.refl _ _).al le_rfl' _).al le_rfl' _).tr le_rfl' hb1⟩
end Go.Proofs.YtfkabkbnfeiggaaDoor
