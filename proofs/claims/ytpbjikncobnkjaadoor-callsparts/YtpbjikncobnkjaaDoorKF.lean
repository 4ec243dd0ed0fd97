/-
  CallsNone: its walk.
-/
import Derived.Test.YtpbjikncobnkjaaDoorKE
namespace Go.Proofs.YtpbjikncobnkjaaDoor
open Go.RowKit
theorem countOf_ok {p : Pr} {x : Bl} {n : Nat} {e : Int} (h : countOf p x = (n, e)) (he : e = 0) : p.ok = true ∧ x.okB = true ∧ cntOf p x = (n, 0) := by
  unfold countOf at h
  split at h
  · rename_i hk
    have := Bool.and_eq_true_iff.1 hk
    exact ⟨this.1, this.2, by rw [h, he]⟩
  · injection h with h1 h2; omega
/-- All that is known of what is inlined. -/
theorem inlined {p : Pr} {x y : Bl} {n : Nat} (h : countOf p x = (n, 0)) (hy : y.clr = x.inl (inlR p (reachedOf p (callsOf x)).length)) :
    y.subs.length = n ∧ n ≤ 400 ∧ callsOf y = [] ∧ countOf p y = (n, 0) ∧ ∀ z : Bl, z.clr = y.inl (inlR p (reachedOf p (callsOf y)).length) → y.same z = true := by
  obtain ⟨h1, h2, h3⟩ := countOf_ok h rfl
  obtain ⟨h4, h5⟩ := inl_size h1 h2 h3
  have h6 : y.subs.length = n := by
    have := congrArg List.length (clr_subs y)
    rw [List.length_map, hy, h4] at this
    exact this.symm
  have h7 : ∀ s ∈ y.subs, s.kind ≠ 8 := fun s hs => by
    have : s.clr ∈ y.clr.subs := by rw [clr_subs]; exact List.mem_map.2 ⟨s, hs, rfl⟩
    rw [hy] at this
    have := inl_none p _ x _ this
    rwa [clr_kind] at this
  have h8 : y.okB = true := by
    rw [← clr_okB, hy]; exact inl_okB h1 _ h2
  obtain ⟨h9, h10⟩ := cnt_none (p := p) h7 (by omega)
  refine ⟨h6, h5, h10, ?_, fun z hz => same_of_clr y z ?_⟩
  · unfold countOf
    rw [h1, h8]
    simp only [Bool.and_self, if_true]
    rw [h9, h6]
  · rw [hz, inl_same _ _ h7]
set_option maxRecDepth 100000 in
set_option maxHeartbeats 16000000 in
theorem none_walk (p : Pr) (x : Bl) (w : World) (hS : Shapes w) (hp : p.Is w.heap.size w) (hx : x.Is w.heap.size w) : Calls Tryd.prog 3 #[p.val, x.slice] w fun r w' => r = .returned (.bool true) ∧ Below w.heap.size w w' := by
  have hS3 := hS.size
  have hn := Nat.le_refl w.heap.size
  have hsm := fun (W : World) (hW : Below w.heap.size w W) => small_any w.heap.size p W hW.size (hp.below hW)
  have hre := fun (W : World) (hW : Below w.heap.size w W) => rest_any w.heap.size x 300 W (by omega) (by omega) hW.size (hx.below hW)
  have hli := fun (W : World) (hW : Below w.heap.size w W) => live_any W (hS.below hW hS3) (by have := hW.size; omega)
  have hco := fun (h1 : p.size ≤ 400) (h2 : (x.sz : Int) ≤ 300) (W : World) (hW : Below w.heap.size w W) => Count_any p x w.heap.size W hW.size (hp.below hW) (hx.below hW) (hS.below hW hS3) (by have := hW.size; omega) (fine_small h1) (by have := len_le_sz x.subs; unfold Bl.sz at h2; omega)
  have hin := fun (h1 : p.size ≤ 400) (h2 : (x.sz : Int) ≤ 300) (W : World) (hW : Below w.heap.size w W) => Inline_any p x w.heap.size W hW.size (hp.below hW) (hx.below hW) (hS.below hW hS3) (by have := hW.size; omega) (fine_small h1) (by have := len_le_sz x.subs; unfold Bl.sz at h2; omega)
  have hin2 := fun (h1 : p.size ≤ 400) (y : Bl) (hy : y.subs.length ≤ 400) (n : Nat) (W : World) (hnW : n ≤ W.heap.size) (hwn : w.heap.size ≤ n) (hW : Below w.heap.size w W) (hyI : y.Is n W) => Inline_any p y n W hnW ((hp.below hW).mono hwn) hyI (hS.below hW hS3) (by have := hW.size; omega) (fine_small h1) (by omega)
  have hnum := num_any
  obtain ⟨P, hP⟩ : ∃ P : Pr, P = p := ⟨_, rfl⟩
  obtain ⟨X, hX⟩ : ∃ X : Bl, X = x := ⟨_, rfl⟩
  rcases p with ⟨mad, mcap, mons, rad, rcap, roles⟩
  rcases x with ⟨ad, cap, body⟩
  rw [← hP] at hsm hco hin hin2
  rw [← hX] at hre hco hin
  have hPv : P.val = .agg #[.slice mad mons.length mcap, .slice rad roles.length rcap] := by rw [hP]; rfl
  have hXv : X.slice = .slice ad body.length cap := by rw [hX]; rfl
  simp only [hPv, hXv] at hsm hre hco hin hin2
  clear hP hX hPv hXv hp hx
  simp only [Pr.val, Bl.slice]
  have hB := (Below.refl w.heap.size w).al le_rfl' (.cells #[.slice mad mons.length mcap, .slice rad roles.length rcap] 25)
  have b1 := heapNew w (.cells #[.slice mad mons.length mcap, .slice rad roles.length rcap] 25)
  have hcell : ∀ W, Below (w.heap.size + 1) (w.alloc (.cells #[.slice mad mons.length mcap, .slice rad roles.length rcap] 25)) W → W.cell? ⟨w.heap.size, 0, none⟩ = some (.slice mad mons.length mcap) ∧ W.cell? ⟨w.heap.size, 1, none⟩ = some (.slice rad roles.length rcap) := by
    intro W hW
    refine ⟨(hW.cell (p := ⟨w.heap.size, 0, none⟩) (by show w.heap.size < _; omega)).trans ?_, (hW.cell (p := ⟨w.heap.size, 1, none⟩) (by show w.heap.size < _; omega)).trans ?_⟩
    · rw [cellOf b1]; rfl
    · rw [cellOf b1]; rfl
  go_enter Tryd.func3, Tryd.ntmps3
  go_upto_region 1 with fail
  obtain ⟨W0, hW0⟩ : ∃ W0, w.alloc (.cells #[.slice mad mons.length mcap, .slice rad roles.length rcap] 25) = W0 := ⟨_, rfl⟩
  have hz0 : W0.heap.size = w.heap.size + 1 := by rw [← hW0]; simp
  rw [hW0] at hB hcell ⊢
  rw [← hz0] at hcell
  have HZ0 := hid hz0
  clear hW0 b1 hz0
  obtain ⟨p0, p1⟩ := hcell W0 (Below.refl _ _)
  go_upto_if 18 with (first
    | (go_at_call 6; (with_reducible refine (hsm _ hB).mono ?_); rintro r wa ⟨c, rfl, hsz, ba⟩; have Ba := hB.tr le_rfl' ba; have Ka := (Below.refl W0.heap.size W0).trans ba; cases c)
    | (go_at_call 7; (with_reducible refine (hre _ Ba).mono ?_); rintro r wb ⟨c2, rfl, hc1, hc2, Hc3, bb⟩; have Bb := Ba.tr le_rfl' bb; have Kb := Ka.tr le_rfl' bb; rcases Int.lt_or_le c2 0 with hc0 | hc0))
  · go_wp2_with (go_at_call 8; (with_reducible refine (hli _ Ba).mono ?_); rintro r wz ⟨rfl, bz⟩)
    go_ret
    exact ⟨rfl, Ba.tr le_rfl' bz⟩
  · go_wp2_with (go_at_call 8; (with_reducible refine (hli _ Bb).mono ?_); rintro r wz ⟨rfl, bz⟩)
    go_ret
    exact ⟨rfl, Bb.tr le_rfl' bz⟩
  · have hnc : ¬ c2 < 0 := by omega
    have hps : P.size ≤ 400 := (hsz trivial).1
    have hxs : (X.sz : Int) ≤ 300 := by have := Hc3.out hc0; omega
    have hco := hco hps hxs
    have hin := hin hps hxs
    have hin2 := hin2 hps
    obtain ⟨q0, q1⟩ := hcell wb Kb
    clear hsm hre hsz Hc3 hc1 hc2 hps hxs p0 p1
    obtain ⟨cq, hcq⟩ : ∃ cq, countOf P X = cq := ⟨_, rfl⟩
    obtain ⟨n, e⟩ := cq
    have hco : ∀ W, Below w.heap.size w W → Calls Tryd.prog 9 #[.agg #[.slice mad mons.length mcap, .slice rad roles.length rcap], .slice ad body.length cap] W fun r w' => r = .returned (.tuple #[.int .i64 (n : Int), .int .i64 e]) ∧ Below W.heap.size W w' := fun W hW => (hco W hW).mono (by rintro r w' ⟨h, hb⟩; rw [hcq] at h; exact ⟨h, hb⟩)
    by_cases he : e = 0
    · subst he
      have hin : ∀ W, Below w.heap.size w W → Calls Tryd.prog 10 #[.agg #[.slice mad mons.length mcap, .slice rad roles.length rcap], .slice ad body.length cap] W fun r w' => (∃ yad ycap ybody, r = .returned (.tuple #[.slice yad ybody.length ycap, .int .i64 0]) ∧ (Bl.mk yad ycap ybody).Is w'.heap.size w' ∧ Hid ((Bl.mk yad ycap ybody).subs.length = n ∧ n ≤ 400 ∧ callsOf (Bl.mk yad ycap ybody) = [] ∧ countOf P (Bl.mk yad ycap ybody) = (n, 0) ∧ ∀ z : Bl, z.clr = (Bl.mk yad ycap ybody).inl (inlR P (reachedOf P (callsOf (Bl.mk yad ycap ybody))).length) → (Bl.mk yad ycap ybody).same z = true)) ∧ Below W.heap.size W w' := fun W hW => (hin W hW).mono (by
        rintro r w' ⟨⟨h1, _⟩ | ⟨_, yad, ycap, ybody, h2, h3, h4⟩, hb⟩
        · rw [hcq] at h1; exact absurd rfl h1
        · exact ⟨⟨yad, ycap, ybody, h2, h3, inlined hcq h4⟩, hb⟩)
      have hq2 : ∀ (yad : Option Addr) (ycap : Nat) (ybody : List St), Hid ((Bl.mk yad ycap ybody).subs.length = n ∧ n ≤ 400 ∧ callsOf (Bl.mk yad ycap ybody) = [] ∧ countOf P (Bl.mk yad ycap ybody) = (n, 0) ∧ ∀ z : Bl, z.clr = (Bl.mk yad ycap ybody).inl (inlR P (reachedOf P (callsOf (Bl.mk yad ycap ybody))).length) → (Bl.mk yad ycap ybody).same z = true) → ∀ W, Below w.heap.size w W → (Bl.mk yad ycap ybody).Is W.heap.size W →
          Calls Tryd.prog 10 #[.agg #[.slice mad mons.length mcap, .slice rad roles.length rcap], .slice yad ybody.length ycap] W fun r w' => (∃ zad zcap zbody, r = .returned (.tuple #[.slice zad zbody.length zcap, .int .i64 0]) ∧ (Bl.mk zad zcap zbody).Is w'.heap.size w' ∧ Hid ((Bl.mk yad ycap ybody).same (Bl.mk zad zcap zbody) = true)) ∧ Below W.heap.size W w' := by
        intro yad ycap ybody HY W hW hyI
        have h := hin2 (.mk yad ycap ybody) (by have := HY.out; omega) W.heap.size W (Nat.le_refl _) hW.size hW hyI
        refine h.mono ?_
        rintro r w' ⟨⟨h1, _⟩ | ⟨_, zad, zcap, zbody, h2, h3, h4⟩, hb⟩
        · rw [HY.out.2.2.2.1] at h1; exact absurd rfl h1
        · exact ⟨⟨zad, zcap, zbody, h2, h3, HY.out.2.2.2.2 _ h4⟩, hb⟩
      clear hin2 hcq
      go_upto_region 8 with (first
        | (go_at_call 9; (with_reducible refine (hco _ Bb).mono ?_); rintro r wc ⟨rfl, bc⟩; have Bc := Bb.tr le_rfl' bc; have Kc := Kb.tr le_rfl' bc; obtain ⟨r0, r1⟩ := hcell wc Kc)
        | (have M := Kd; go_at_call 10; (with_reducible refine (hq2 yad ycap ybody HY _ Bd hyI).mono ?_); rintro r we ⟨⟨zad, zcap, zbody, rfl, hzI, HZ⟩, be⟩; have Be := Bd.tr le_rfl' be)
        | (go_at_call 10; (with_reducible refine (hin _ Bc).mono ?_); rintro r wd ⟨⟨yad, ycap, ybody, rfl, hyI, HY⟩, bd⟩; have Bd := Bc.tr le_rfl' bd; have Kd := Kc.tr le_rfl' bd; obtain ⟨t0, t1⟩ := hcell wd Kd)
        | (go_at_call 11; (with_reducible refine (hnum _ _).mono ?_); rintro r wy ⟨rfl, rfl⟩))
      have hyI2 := (hyI.below be).mono be.size
      have hsy := HY.out.1
      have hsn := HY.out.2.1
      have hca := fun (W : World) (hW : Below we.heap.size we W) => calls_any (.mk yad ycap ybody) we.heap.size W hW.size (hyI2.below hW) (by omega)
      have hls := fun (W : World) (hW : Below we.heap.size we W) => lsize_any (.mk yad ycap ybody) we.heap.size W hW.size (hyI2.below hW) (by omega)
      have hss := fun (W : World) (hW : Below we.heap.size we W) => sameStmts_any we.heap.size (.mk yad ycap ybody) (.mk zad zcap zbody) W hW.size (hyI2.below hW) (hzI.below hW)
      simp only [HY.out.2.2.1] at hca
      simp only [hsy] at hls
      simp only [HZ.out] at hss
      simp only [Bl.slice] at hca hls hss
      have hca : ∀ W, Below we.heap.size we W → Calls Tryd.prog 12 #[.slice yad ybody.length ycap] W fun r w' => (∃ cad ccp, r = .returned (.slice cad 0 ccp)) ∧ Below W.heap.size W w' := fun W hW => (hca W hW).mono (by
        rintro r w' ⟨v, rfl, ho, hb⟩
        obtain ⟨cad, ccp, rfl, -⟩ := slOwn rcells_len (l := []) ho
        exact ⟨⟨cad, ccp, rfl⟩, hb⟩)
      have hni : (n : Int) ≤ 400 := by omega
      clear hsy hsn
      go_wp2_with (first
        | (go_at_call 11; (with_reducible refine (hnum _ _).mono ?_); rintro r wy ⟨rfl, rfl⟩)
        | (go_at_call 12; (with_reducible refine (hca _ (Below.refl _ _)).mono ?_); rintro r wf ⟨⟨cad, ccp, rfl⟩, bf⟩)
        | (go_at_call 13; (with_reducible refine (hls _ bf).mono ?_); rintro r wg ⟨rfl, bg⟩; have Bg := bf.tr le_rfl' bg)
        | (go_at_call 14; (with_reducible refine (hss _ Bg).mono ?_); rintro r wh ⟨rfl, bh⟩; have Bh := Be.tr le_rfl' (Bg.tr le_rfl' bh))
        | (go_at_call 8; (with_reducible refine (hli _ Bh).mono ?_); rintro r wz ⟨rfl, bz⟩))
      go_ret
      exact ⟨rfl, Bh.tr le_rfl' bz⟩
    · have heb : (e != 0) = true := by simpa using he
      have hin : ∀ W, Below w.heap.size w W → Calls Tryd.prog 10 #[.agg #[.slice mad mons.length mcap, .slice rad roles.length rcap], .slice ad body.length cap] W fun r w' => r = .returned (.tuple #[.slice none 0 0, .int .i64 e]) ∧ Below W.heap.size W w' := fun W hW => (hin W hW).mono (by
        rintro r w' ⟨⟨h1, h2⟩ | ⟨h1, _⟩, hb⟩
        · rw [hcq] at h2; exact ⟨h2, hb⟩
        · rw [hcq] at h1; exact absurd h1 he)
      clear hin2 hcq
      go_wp2_with (first
        | (go_at_call 9; (with_reducible refine (hco _ Bb).mono ?_); rintro r wc ⟨rfl, bc⟩; have Bc := Bb.tr le_rfl' bc; have Kc := Kb.tr le_rfl' bc; obtain ⟨r0, r1⟩ := hcell wc Kc)
        | (go_at_call 10; (with_reducible refine (hin _ Bc).mono ?_); rintro r wd ⟨rfl, bd⟩; have Bd := Bc.tr le_rfl' bd)
        | (go_at_call 11; (with_reducible refine (hnum _ _).mono ?_); rintro r wy ⟨rfl, rfl⟩)
        | (go_at_call 8; (with_reducible refine (hli _ Bd).mono ?_); rintro r wz ⟨rfl, bz⟩))
      go_ret
      exact ⟨rfl, Bd.tr le_rfl' bz⟩
end Go.Proofs.YtpbjikncobnkjaaDoor
