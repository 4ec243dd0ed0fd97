/-
  SameStmts of package tree: whether two lists of statements are the same but for places.
-/
import Derived.Test.YtpbjikncobnkjaaDoorEqC
namespace Go.Proofs.YtpbjikncobnkjaaDoor
open Go.RowKit
set_option maxRecDepth 100000 in
set_option maxHeartbeats 1000000 in
theorem eqf45 (f : St → St → Bool) (n₀ : Nat) (xs ys : List St) (ad ad' : Option Addr) (cap cap' : Nat) (w : World) (hn : n₀ ≤ w.heap.size) (ha : SlAt 12 St.cells n₀ w ad cap xs) (hb : SlAt 12 St.cells n₀ w ad' cap' ys)
    (heq : ∀ (k : Nat) (h1 : k < xs.length) (h2 : k < ys.length) W, Below n₀ w W → Calls Tryd.prog 24 #[St.val xs[k], St.val ys[k]] W fun e W' => e = .returned (.bool (f xs[k] ys[k])) ∧ Below W.heap.size W W') :
    Calls Tryd.prog 23 #[.slice ad xs.length cap, .slice ad' ys.length cap', .func (.func 24) #[] #[]] w fun e w' => e = .returned (.bool (all2 f xs ys)) ∧ Below w.heap.size w w' := by
  have hl1 := ha.1; have hl2 := ha.2.1; have hl3 := hb.1; have hl4 := hb.2.1
  unfold maxLen at hl2 hl4
  by_cases hlen : xs.length = ys.length
  · have hlb : ((xs.length : Int) != (ys.length : Int)) = false := by rw [bne_eq_false_iff_eq]; omega
    have HLEN := hid hlen
    clear hlen
    go_enter Tryd.func23, Tryd.ntmps23
    go_wp2
    go_loopw [17] (fun i wr => ∃ k : Nat, k ≤ xs.length ∧ i = .int .i64 k ∧ Hid (all2 f (xs.take k) (ys.take k) = true) ∧ Below w.heap.size w wr) (fun i _ => xs.length - (intOf i).toNat)
    case atStart => exact ⟨0, by omega, rfl, rfl, Below.refl _ _⟩
    case round =>
      obtain ⟨k, hk, rfl, HA, hbw⟩ := hrel
      by_cases hlt : k < xs.length
      · have hlt' : k < ys.length := by have := HLEN.out; omega
        rcases ha.2.2 with h | ⟨b, off, rfl, hbn, hrow⟩
        · subst h; simp at hlt
        rcases hb.2.2 with h | ⟨b', off', rfl, hbn', hrow'⟩
        · subst h; simp at hlt'
        have hbn1 : b < wr.heap.size := by have := hbw.size; omega
        have hbn2 : b' < wr.heap.size := by have := hbw.size; omega
        have hq := heq k hlt hlt'
        have HS := hid (all2_snoc f xs ys k hlt hlt')
        have HC := hid (all2_cut f xs ys k hlt hlt')
        have hr := hrow.below (hbw.mono hn) hbn
        have hr' := hrow'.below (hbw.mono hn) hbn'
        rcases he : xs[k] with ⟨kind, mon, name, n, ⟨eop, emon, ename, en, ead, ecap, ekids, epos⟩, sad, scap, blocks, pos⟩
        rcases he' : ys[k] with ⟨kind', mon', name', n', ⟨eop', emon', ename', en', ead', ecap', ekids', epos'⟩, sad', scap', blocks', pos'⟩
        obtain ⟨c0, c1, c2, c3, c4, c5, c6, c7, c8, c9, c10, c11⟩ := row12 hr k hlt (by rw [he]; rfl)
        obtain ⟨d0, d1, d2, d3, d4, d5, d6, d7, d8, d9, d10, d11⟩ := row12 hr' k hlt' (by rw [he']; rfl)
        simp only [he, he', St.val, St.cells, Ex.cells, List.cons_append, List.nil_append] at hq
        have HF := hid he
        have HF' := hid he'
        clear he he'
        cases hf : f xs[k] ys[k]
        · have hf2 := hf
          rw [HF.out, HF'.out] at hf2
          rw [hf2] at hq
          clear hf2
          have HFF := hid hf
          clear hf
          go_wp2_with (go_at_call 24; refine (hq _ (((hbw.mono hn).al hn _).al hn _)).mono ?_; rintro e w1 ⟨rfl, hb1⟩)
          go_ret
          exact ⟨ret_bool (HC.out HFF.out).symm, ((hbw.al le_rfl' _).al le_rfl' _).tr le_rfl' hb1⟩
        · have hf2 := hf
          rw [HF.out, HF'.out] at hf2
          rw [hf2] at hq
          clear hf2
          have HFF := hid hf
          clear hf
          go_wp2_with (go_at_call 24; refine (hq _ (((hbw.mono hn).al hn _).al hn _)).mono ?_; rintro e w1 ⟨rfl, hb1⟩)
          go_roundw
          case rel => exact ⟨k + 1, by omega, by go_num, by rw [HS.out, HA.out, HFF.out]; rfl, ((hbw.al le_rfl' _).al le_rfl' _).tr le_rfl' hb1⟩
          case measure => simp [intOf]; omega
      · have hk' : k = xs.length := by omega
        go_wp2
        go_ret
        refine ⟨ret_bool ?_, hbw⟩
        have := HA.out
        rw [hk', List.take_length, HLEN.out, List.take_length] at this
        exact this.symm
  · have hlb : ((xs.length : Int) != (ys.length : Int)) = true := by rw [bne_iff_ne]; omega
    have HL := hid (all2_len f xs ys hlen)
    clear hlen
    go_enter Tryd.func23, Tryd.ntmps23
    go_wp2
    go_ret
    exact ⟨ret_bool HL.out.symm, Below.refl _ _⟩
set_option maxRecDepth 100000 in
set_option maxHeartbeats 1000000 in
theorem eqf67 (f : Bl → Bl → Bool) (n₀ : Nat) (xs ys : List Bl) (ad ad' : Option Addr) (cap cap' : Nat) (w : World) (hn : n₀ ≤ w.heap.size) (ha : SlAt 1 Bl.cells n₀ w ad cap xs) (hb : SlAt 1 Bl.cells n₀ w ad' cap' ys)
    (heq : ∀ (k : Nat) (h1 : k < xs.length) (h2 : k < ys.length) W, Below n₀ w W → Calls Tryd.prog 14 #[Bl.slice xs[k], Bl.slice ys[k]] W fun e W' => e = .returned (.bool (f xs[k] ys[k])) ∧ Below W.heap.size W W') :
    Calls Tryd.prog 33 #[.slice ad xs.length cap, .slice ad' ys.length cap', .func (.func 14) #[] #[]] w fun e w' => e = .returned (.bool (all2 f xs ys)) ∧ Below w.heap.size w w' := by
  have hl1 := ha.1; have hl2 := ha.2.1; have hl3 := hb.1; have hl4 := hb.2.1
  unfold maxLen at hl2 hl4
  by_cases hlen : xs.length = ys.length
  · have hlb : ((xs.length : Int) != (ys.length : Int)) = false := by rw [bne_eq_false_iff_eq]; omega
    have HLEN := hid hlen
    clear hlen
    go_enter Tryd.func33, Tryd.ntmps33
    go_wp2
    go_loopw [17] (fun i wr => ∃ k : Nat, k ≤ xs.length ∧ i = .int .i64 k ∧ Hid (all2 f (xs.take k) (ys.take k) = true) ∧ Below w.heap.size w wr) (fun i _ => xs.length - (intOf i).toNat)
    case atStart => exact ⟨0, by omega, rfl, rfl, Below.refl _ _⟩
    case round =>
      obtain ⟨k, hk, rfl, HA, hbw⟩ := hrel
      by_cases hlt : k < xs.length
      · have hlt' : k < ys.length := by have := HLEN.out; omega
        rcases ha.2.2 with h | ⟨b, off, rfl, hbn, hrow⟩
        · subst h; simp at hlt
        rcases hb.2.2 with h | ⟨b', off', rfl, hbn', hrow'⟩
        · subst h; simp at hlt'
        have hbn1 : b < wr.heap.size := by have := hbw.size; omega
        have hbn2 : b' < wr.heap.size := by have := hbw.size; omega
        have hq := heq k hlt hlt'
        have HS := hid (all2_snoc f xs ys k hlt hlt')
        have HC := hid (all2_cut f xs ys k hlt hlt')
        have hr := hrow.below (hbw.mono hn) hbn
        have hr' := hrow'.below (hbw.mono hn) hbn'
        rcases he : xs[k] with ⟨bad, bcap, body⟩
        rcases he' : ys[k] with ⟨bad', bcap', body'⟩
        have c0 := row1 hr k hlt (by rw [he]; rfl)
        have d0 := row1 hr' k hlt' (by rw [he']; rfl)
        simp only [Bl.slice] at c0 d0
        simp only [he, he', Bl.slice] at hq
        have HF := hid he
        have HF' := hid he'
        clear he he'
        cases hf : f xs[k] ys[k]
        · have hf2 := hf
          rw [HF.out, HF'.out] at hf2
          rw [hf2] at hq
          clear hf2
          have HFF := hid hf
          clear hf
          go_wp2_with (go_at_call 14; refine (hq _ (hbw.mono hn)).mono ?_; rintro e w1 ⟨rfl, hb1⟩)
          go_ret
          exact ⟨ret_bool (HC.out HFF.out).symm, hbw.tr le_rfl' hb1⟩
        · have hf2 := hf
          rw [HF.out, HF'.out] at hf2
          rw [hf2] at hq
          clear hf2
          have HFF := hid hf
          clear hf
          go_wp2_with (go_at_call 14; refine (hq _ (hbw.mono hn)).mono ?_; rintro e w1 ⟨rfl, hb1⟩)
          go_roundw
          case rel => exact ⟨k + 1, by omega, by go_num, by rw [HS.out, HA.out, HFF.out]; rfl, hbw.tr le_rfl' hb1⟩
          case measure => simp [intOf]; omega
      · have hk' : k = xs.length := by omega
        go_wp2
        go_ret
        refine ⟨ret_bool ?_, hbw⟩
        have := HA.out
        rw [hk', List.take_length, HLEN.out, List.take_length] at this
        exact this.symm
  · have hlb : ((xs.length : Int) != (ys.length : Int)) = true := by rw [bne_iff_ne]; omega
    have HL := hid (all2_len f xs ys hlen)
    clear hlen
    go_enter Tryd.func33, Tryd.ntmps33
    go_wp2
    go_ret
    exact ⟨ret_bool HL.out.symm, Below.refl _ _⟩
set_option maxRecDepth 100000 in
set_option maxHeartbeats 2000000 in
theorem sameStmt_step (n₀ : Nat) (kind : Int) (mon name : ByteArray) (n : Int) (e : Ex) (ad : Option Addr) (cap : Nat) (blocks : List Bl) (pos : Int)
    (ih : ∀ b ∈ blocks, ∀ (c : Bl) (w : World), n₀ ≤ w.heap.size → b.Is n₀ w → c.Is n₀ w → Calls Tryd.prog 14 #[b.slice, c.slice] w fun e w' => e = .returned (.bool (b.same c)) ∧ Below w.heap.size w w')
    (t : St) (w : World) (hn : n₀ ≤ w.heap.size) (ha : (St.mk kind mon name n e ad cap blocks pos).Is n₀ w) (hb : t.Is n₀ w) :
    Calls Tryd.prog 24 #[(St.mk kind mon name n e ad cap blocks pos).val, t.val] w fun r w' => r = .returned (.bool ((St.mk kind mon name n e ad cap blocks pos).same t)) ∧ Below w.heap.size w w' := by
  rcases t with ⟨kind', mon', name', n', e', ad', cap', blocks', pos'⟩
  have HS := hid (stSame_mk kind kind' mon name mon' name' n n' e e' ad ad' cap cap' blocks blocks' pos pos')
  have hE : ∀ W, Below n₀ w W → Calls Tryd.prog 32 #[e.val, e'.val] W fun r w' => r = .returned (.bool (e.same e')) ∧ Below W.heap.size W w' := fun W hW =>
    sameExpr_any n₀ e e' W (by have := hW.size; omega) (ha.down.2.1.below hW) (hb.down.2.1.below hW)
  have hC : ∀ W, Below n₀ w W → Calls Tryd.prog 33 #[.slice ad blocks.length cap, .slice ad' blocks'.length cap', .func (.func 14) #[] #[]] W fun r w' => r = .returned (.bool (all2 Bl.same blocks blocks')) ∧ Below W.heap.size W w' := fun W hW =>
    eqf67 Bl.same n₀ blocks blocks' ad ad' cap cap' W (by have := hW.size; omega) (ha.down.2.2.1.below hW) (hb.down.2.2.1.below hW)
      (fun k k1 k2 W' hW' => ih blocks[k] (List.getElem_mem k1) blocks'[k] W' (by have := hW.size; have := hW'.size; omega) ((ha.down.2.2.2 _ (List.getElem_mem k1)).below (hW.trans hW')) ((hb.down.2.2.2 _ (List.getElem_mem k2)).below (hW.trans hW')))
  clear ha hb ih
  obtain ⟨es, hes⟩ : ∃ es, e.same e' = es := ⟨_, rfl⟩
  have HES := hid hes
  rw [hes] at hE
  clear hes
  rcases e with ⟨eop, emon, ename, en, ead, ecap, ekids, epos⟩
  rcases e' with ⟨eop', emon', ename', en', ead', ecap', ekids', epos'⟩
  simp only [St.val, St.cells, Ex.val, Ex.cells, List.cons_append, List.nil_append] at hE ⊢
  cases h1 : (kind == kind')
  · go_enter Tryd.func24, Tryd.ntmps24
    go_wp2
    go_ret
    exact ⟨ret_bool (by rw [HS.out, h1]; rfl), ((Below.refl _ _).al le_rfl' _).al le_rfl' _⟩
  cases h2 : (mon.toList == mon'.toList)
  · go_enter Tryd.func24, Tryd.ntmps24
    go_wp2
    go_ret
    exact ⟨ret_bool (by rw [HS.out, h1, h2]; rfl), ((Below.refl _ _).al le_rfl' _).al le_rfl' _⟩
  cases h3 : (name.toList == name'.toList)
  · go_enter Tryd.func24, Tryd.ntmps24
    go_wp2
    go_ret
    exact ⟨ret_bool (by rw [HS.out, h1, h2, h3]; rfl), ((Below.refl _ _).al le_rfl' _).al le_rfl' _⟩
  cases h4 : (n == n')
  · go_enter Tryd.func24, Tryd.ntmps24
    go_wp2
    go_ret
    exact ⟨ret_bool (by rw [HS.out, h1, h2, h3, h4]; rfl), ((Below.refl _ _).al le_rfl' _).al le_rfl' _⟩
  cases es
  · go_enter Tryd.func24, Tryd.ntmps24
    go_wp2_with (go_at_call 32; refine (hE _ (((Below.refl n₀ w).al hn _).al hn _)).mono ?_; rintro r w1 ⟨rfl, hb1⟩)
    go_ret
    exact ⟨ret_bool (by rw [HS.out, h1, h2, h3, h4, HES.out]; rfl), (((Below.refl _ _).al le_rfl' _).al le_rfl' _).tr le_rfl' hb1⟩
  · go_enter Tryd.func24, Tryd.ntmps24
    go_wp2_with (first
      | (go_at_call 32; refine (hE _ (((Below.refl n₀ w).al hn _).al hn _)).mono ?_; rintro r w1 ⟨rfl, hb1⟩; obtain ⟨hcc, hff⟩ := bcell hb1)
      | (go_at_call 33; refine (hC _ ((((Below.refl n₀ w).al hn _).al hn _).tr hn hb1)).mono ?_; rintro r w2 ⟨rfl, hb2⟩))
    go_ret
    exact ⟨ret_bool (by rw [HS.out, h1, h2, h3, h4, HES.out]; rfl), ((((Below.refl _ _).al le_rfl' _).al le_rfl' _).tr le_rfl' hb1).tr le_rfl' hb2⟩
theorem sameStmts_any (n₀ : Nat) (b : Bl) : ∀ (c : Bl) (w : World), n₀ ≤ w.heap.size → b.Is n₀ w → c.Is n₀ w → Calls Tryd.prog 14 #[b.slice, c.slice] w fun e w' => e = .returned (.bool (b.same c)) ∧ Below w.heap.size w w' := by
  refine Bl.ind (P := fun s => ∀ (t : St) (w : World), n₀ ≤ w.heap.size → s.Is n₀ w → t.Is n₀ w → Calls Tryd.prog 24 #[s.val, t.val] w fun e w' => e = .returned (.bool (s.same t)) ∧ Below w.heap.size w w')
    (Q := fun b => ∀ (c : Bl) (w : World), n₀ ≤ w.heap.size → b.Is n₀ w → c.Is n₀ w → Calls Tryd.prog 14 #[b.slice, c.slice] w fun e w' => e = .returned (.bool (b.same c)) ∧ Below w.heap.size w w') ?_ ?_ b
  · intro kind mon name n e ad cap blocks pos ih t w hn ha hb
    exact sameStmt_step n₀ kind mon name n e ad cap blocks pos ih t w hn ha hb
  · rintro ad cap body ih ⟨ad', cap', body'⟩ w hn ha hb
    have hC := eqf45 St.same n₀ body body' ad ad' cap cap' w hn ha.down.1 hb.down.1
      (fun k k1 k2 W' hW' => ih body[k] (List.getElem_mem k1) body'[k] W' (by have := hW'.size; omega) ((ha.down.2 _ (List.getElem_mem k1)).below hW') ((hb.down.2 _ (List.getElem_mem k2)).below hW'))
    rw [blSame_mk]
    clear ih ha hb
    simp only [Bl.slice]
    go_enter Tryd.func14, Tryd.ntmps14
    go_wp2_with (go_at_call 23; refine hC.mono ?_; rintro r w1 ⟨rfl, hb1⟩)
    go_ret
    exact ⟨rfl, hb1⟩
end Go.Proofs.YtpbjikncobnkjaaDoor
