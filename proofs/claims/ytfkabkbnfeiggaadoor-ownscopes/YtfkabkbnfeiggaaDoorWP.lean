/-
  OwnMore: its walk: where all is owned that is asked for, it is so with more; within a sync of a monitor it is so without it.
-/
import Derived.Test.YtfkabkbnfeiggaaDoorWO
namespace Go.Proofs.YtfkabkbnfeiggaaDoor
open Go.RowKit
theorem sync_sco (f : ByteArray → Bool) (g h : Nat) (m : ByteArray) (x : Bl) : (oneB g (.mk 7 m ⟨#[]⟩ 0 zE (some ⟨h, 0, none⟩) 1 [x] 0)).sco f = x.sco (fun y => f y || decide (y = m)) := by
  rw [oneB, Bl.sco, St.scoL, St.scoL, St.sco, Bl.scoL, Bl.scoL]
  have h1 : oneE f 7 m zE [x] 0 = (0, 0) := by
    have h2 : zE.fv (fun m => !f m) = none := by rw [zE, Ex.fv_mk, if_neg (fun h => absurd h.1 (by decide))]; rfl
    have h3 : imp 7 zE [x] = none := by rw [imp, if_neg (by decide)]
    have h4 : needs 7 = false := by decide
    rw [oneE, h4, if_neg (by simp), h2, h3]
  have h5 : andMon f 7 m = fun y => f y || decide (y = m) := by rw [andMon, if_pos rfl]
  rw [h1, fstE_zero, h5, fstE_unit _ (Bl.sco_zero _), fstE_unit _ (Bl.sco_zero _)]
theorem own_snoc (l : List ByteArray) (m : ByteArray) : ownF (l ++ [m]) = fun y => ownF l y || decide (y = m) := by
  funext y
  rw [ownF_append]
  congr 1
  by_cases e : y = m
  · subst e; simp [ownF]
  · have : ¬ m = y := fun h => e h.symm
    simp [ownF, e, this]
set_option maxRecDepth 100000 in
set_option maxHeartbeats 16000000 in
theorem more_walk (x : Bl) (l : List ByteArray) (oad : Option Addr) (ocap : Nat) (m : ByteArray) (w : World) (hS : Shapes w) (hx : x.Is w.heap.size w) (hl : SlAt 1 ncells w.heap.size w oad ocap l) (hm : Len m) : Calls Tryd.prog 4 #[x.slice, .slice oad l.length ocap, .string m] w fun r w' => r = .returned (.bool true) ∧ Below w.heap.size w w' := by
  obtain ⟨i0, hi0, iz0, iz1, iz2⟩ := info_parts infoStr
  have hS3 := hS.size
  have hrx := fun (W : World) (hW : Below w.heap.size w W) => rest_any w.heap.size x 300 W (by omega) (by omega) hW.size (hx.below hW)
  have hsh := fun (W : World) (hW : Below w.heap.size w W) => short_any l oad ocap w.heap.size W hW.size (hl.below hW)
  have hli := fun (W : World) (hW : Below w.heap.size w W) => live_own W (hS.below hW hS3) (by have := hW.size; omega)
  have hnum := num_own
  have hzx := sz_subs x
  have hmore := Bl.sco_more x (f := ownF l) (g := ownF (l ++ [m])) (fun y hy => by rw [ownF_append, hy]; rfl)
  have HSX := hid (fun (h : l.length + x.subs.length ≤ 1000) (W : World) (hW : Below w.heap.size w W) => scope_any x l oad ocap w.heap.size W hW.size (hx.below hW) (hl.below hW) (by omega))
  have HSM := hid (fun (h : l.length + x.subs.length ≤ 1000) (ad : Option Addr) (c n : Nat) (W : World) (hn : n ≤ W.heap.size) (hwn : w.heap.size ≤ n) (hW : Below w.heap.size w W) (hs : SlAt 1 ncells n W ad c (l ++ [m])) => scope_any x (l ++ [m]) ad c n W hn ((hx.below hW).mono hwn) hs (by simp; omega))
  rcases x with ⟨xad, xcap, xbody⟩
  have HSY : Hid (l.length + (Bl.mk xad xcap xbody).subs.length ≤ 1000 → ∀ (wf : World), Below w.heap.size w wf → Calls Tryd.prog 10 #[.slice (some ⟨wf.heap.size + 1, 0, none⟩) 1 1, .slice oad l.length ocap] ((wf.alloc (.cells #[.slice xad xbody.length xcap] 22)).alloc (.cells #[.int .i64 7, .string m, .string ⟨#[]⟩, .int .i64 0, .int .i64 0, .string ⟨#[]⟩, .string ⟨#[]⟩, .int .i64 0, .slice none 0 0, .int .i64 0, .slice (some ⟨wf.heap.size, 0, none⟩) 1 1, .int .i64 0] 39)) fun e w' => e = .returned (.tuple #[.int .i64 ((Bl.mk xad xcap xbody).sco (ownF (l ++ [m]))).1, .int .i64 ((Bl.mk xad xcap xbody).sco (ownF (l ++ [m]))).2]) ∧ Below wf.heap.size wf w') := fun hz wf hW => by
    obtain ⟨k0, k1, kB, kz⟩ := two_box wf #[.slice xad xbody.length xcap] #[.int .i64 7, .string m, .string ⟨#[]⟩, .int .i64 0, .int .i64 0, .string ⟨#[]⟩, .string ⟨#[]⟩, .int .i64 0, .slice none 0 0, .int .i64 0, .slice (some ⟨wf.heap.size, 0, none⟩) 1 1, .int .i64 0] 22 39
    obtain ⟨V, hV⟩ : ∃ V, (wf.alloc (.cells #[.slice xad xbody.length xcap] 22)).alloc (.cells #[.int .i64 7, .string m, .string ⟨#[]⟩, .int .i64 0, .int .i64 0, .string ⟨#[]⟩, .string ⟨#[]⟩, .int .i64 0, .slice none 0 0, .int .i64 0, .slice (some ⟨wf.heap.size, 0, none⟩) 1 1, .int .i64 0] 39) = V := ⟨_, rfl⟩
    rw [hV] at k0 k1 kB kz ⊢
    have hWs := hW.size
    have hWV := hW.tr le_rfl' kB
    have hI : (oneB (wf.heap.size + 1) (.mk 7 m ⟨#[]⟩ 0 zE (some ⟨wf.heap.size, 0, none⟩) 1 [.mk xad xcap xbody] 0)).Is V.heap.size V := by
      refine oneB_is k1 (by omega) (St.Is.up ⟨⟨⟨by decide, by decide⟩, ⟨by decide, by decide⟩, ⟨by decide, by decide⟩, hm, by unfold Len; decide⟩, zE_is _ _, bls_is k0 (by omega), fun y hy => ?_⟩)
      obtain rfl : y = Bl.mk xad xcap xbody := by simpa using hy
      exact (hx.below hWV).mono hWV.size
    have h := scope_any _ l oad ocap V.heap.size V (Nat.le_refl _) hI ((hl.below hWV).mono hWV.size) (by
      rw [oneB, Bl.subs_mk, List.flatMap_cons, St.subs_mk]
      simp only [List.flatMap_cons, List.flatMap_nil, List.append_nil, List.length_cons]
      omega)
    rw [sync_sco, ← own_snoc] at h
    exact h.mono fun r w' hh => ⟨hh.1, kB.tr le_rfl' hh.2⟩
  simp only [Bl.slice] at hrx HSX HSM ⊢
  have B0 := Below.refl w.heap.size w
  obtain ⟨ml, hml⟩ : ∃ ml, decide ((200 : Int) < (m.size : Int)) = ml := ⟨_, rfl⟩
  clear hx
  cases ml
  · have hmn : ¬ 200 < m.size := by have := of_decide_eq_false hml; omega
    go_enter Tryd.func4, Tryd.ntmps4
    go_upto_if 25 with (first
      | (go_at_call 8; (with_reducible refine (hsh _ Ba).mono ?_); rintro r wc ⟨c, rfl, hc, hw'⟩; have hw2 := hw'.symm; subst hw2; cases c)
      | (go_at_call 7; (with_reducible refine (hrx _ B0).mono ?_); rintro r wa ⟨c2, rfl, hc1, hc2, Hc3, ba⟩; have Ba := B0.tr le_rfl' ba; rcases Int.lt_or_le c2 0 with hc0 | hc0))
    · go_wp2_with (go_at_call 9; (with_reducible refine (hli _ Ba).mono ?_); rintro r wz ⟨rfl, bz⟩)
      go_ret
      exact ⟨rfl, Ba.tr le_rfl' bz⟩
    · go_wp2_with (go_at_call 9; (with_reducible refine (hli _ Ba).mono ?_); rintro r wz ⟨rfl, bz⟩)
      go_ret
      exact ⟨rfl, Ba.tr le_rfl' bz⟩
    · have hl20 : l.length ≤ 20 := hc trivial
      have hxs : l.length + (Bl.mk xad xcap xbody).subs.length ≤ 1000 := by have := Hc3.out hc0; omega
      have hsx := HSX.out hxs
      have HSM := hid (HSM.out hxs)
      have hsy := HSY.out hxs
      obtain ⟨sx, hsxE⟩ : ∃ s, (Bl.mk xad xcap xbody).sco (ownF l) = s := ⟨_, rfl⟩
      obtain ⟨sy, hsyE⟩ : ∃ s, (Bl.mk xad xcap xbody).sco (ownF (l ++ [m])) = s := ⟨_, rfl⟩
      simp only [hsxE, hsyE] at hsx hsy HSM hmore
      clear hsxE hsyE hrx hsh hzx hxs Hc3 hc HSX HSY
      obtain ⟨ex, ax⟩ := sx
      obtain ⟨ey, ay⟩ := sy
      simp only [ScBack, List.length_append, List.length_cons, List.length_nil] at hsx HSM
      simp only at hsy hmore
      have hnc : ¬ c2 < 0 := by omega
      go_upto_region 4 with (go_at_call 10; (with_reducible refine (hsx _ Ba).mono ?_); rintro r we ⟨rfl, be⟩)
      have Be := Ba.tr le_rfl' be
      have hown0 := World.ownsRow_made (base := we.heap.size) (e := 9) (size := 1) we #[] 0 (Nat.le_refl _) (by unfold maxLen; omega) rfl
      have Ke : Below we.heap.size we (we.alloc (.cells #[] 9)) := (Below.refl _ _).al le_rfl' _
      have hzwe := Be.size
      go_upto_region 5 with (first
        | (have M := hown1; at_builtin; refine wpList_append_sl (cells := ncells) rfl _ _ 23 rfl we.heap.size 9 i0 _ 1 16 Tryd.underlying23 hi0 iz0 iz1 iz2 rfl (by decide) ncells_len ncells_one v1 l rfl (hown1.alloc _) (some ⟨w1.heap.size, 0, none⟩) 1 [m] (w1.alloc (.cells #[.string m] 9)).heap.size rfl (sl_one w1 rfl) (by unfold maxLen; simp; omega) (by simp; omega) (by simp; have := K1.size; omega) ?_; intro v2 w2 hown2 hg2 hnn2; have K2 := owns_grown_below (K1.al (by omega) _) (hown1.alloc _) hg2 (by simp; have := K1.size; omega); obtain ⟨ad2, cp2, rfl, hsl3⟩ := slOwn ncells_len hown2; have hcal := HSM.out ad2 cp2 w2.heap.size w2 (Nat.le_refl _) (Nat.le_trans hzwe K2.size) (Be.trans (K2.mono hzwe)) hsl3)
        | (at_builtin; refine wpList_append_sl (cells := ncells) rfl _ _ 23 rfl we.heap.size 9 i0 _ 1 16 Tryd.underlying23 hi0 iz0 iz1 iz2 rfl (by decide) ncells_len ncells_one _ [] rfl hown0 oad ocap l w.heap.size rfl (hl.below (Be.trans (Ke.mono hzwe))) (by unfold maxLen; simp; omega) (by simp; omega) Ke.size ?_; intro v1 w1 hown1 hg1 hnn1; rw [List.nil_append] at hown1; have K1 := owns_grown_below Ke hown0 hg1 Ke.size)
        | (go_at_call 10; (with_reducible refine hcal.mono ?_); rintro r wf ⟨rfl, bf⟩))
      have Bf := (Be.trans (K2.mono hzwe)).tr le_rfl' bf
      clear hown0 hown1 hown2 hg1 hg2 hnn1 hnn2 hcal hsl3 HSM hsx K1 K2 Ke be bf
      go_upto_region 6 with (go_at_call 10; (with_reducible refine (hsy _ Bf).mono ?_); rintro r wg ⟨rfl, bg⟩)
      have Bg := Bf.tr le_rfl' bg
      clear hsy bg
      rcases hmore with hmore | hmore
      · subst hmore
        by_cases hf : ey = 90
        · subst hf
          go_wp2_with (first
            | (go_at_call 12; (with_reducible refine (hnum _ _).mono ?_); rintro rr ww ⟨rfl, hw'⟩; have hw2 := hw'.symm; subst hw2)
            | (go_at_call 9; (with_reducible refine (hli _ Bg).mono ?_); rintro r wz ⟨rfl, bz⟩))
          go_ret
          exact ⟨rfl, Bg.tr le_rfl' bz⟩
        · have q1 : ((90 : Int) == ey) = false := by rw [beq_eq_false_iff_ne]; omega
          have q2 : ((90 : Int) != ey) = true := by rw [bne, q1]; rfl
          have q3 : ¬ (90 : Int) = ey := by omega
          go_wp2_with (first
            | (go_at_call 12; (with_reducible refine (hnum _ _).mono ?_); rintro rr ww ⟨rfl, hw'⟩; have hw2 := hw'.symm; subst hw2)
            | (go_at_call 9; (with_reducible refine (hli _ Bg).mono ?_); rintro r wz ⟨rfl, bz⟩))
          go_ret
          exact ⟨rfl, Bg.tr le_rfl' bz⟩
      · have h1 : ey = ex := congrArg Prod.fst hmore
        have h2 : ay = ax := congrArg Prod.snd hmore
        subst h1
        subst h2
        by_cases e0 : ey = 0
        · subst e0
          go_wp2_with (first
            | (go_at_call 12; (with_reducible refine (hnum _ _).mono ?_); rintro rr ww ⟨rfl, hw'⟩; have hw2 := hw'.symm; subst hw2)
            | (go_at_call 9; (with_reducible refine (hli _ Bg).mono ?_); rintro r wz ⟨rfl, bz⟩))
          go_ret
          exact ⟨rfl, Bg.tr le_rfl' bz⟩
        · have q0 : (ey == 0) = false := by rw [beq_eq_false_iff_ne]; exact e0
          have q0' : (ey != 0) = true := by rw [bne, q0]; rfl
          by_cases e91 : ey = 91
          · subst e91
            go_wp2_with (first
              | (go_at_call 12; (with_reducible refine (hnum _ _).mono ?_); rintro rr ww ⟨rfl, hw'⟩; have hw2 := hw'.symm; subst hw2)
              | (go_at_call 9; (with_reducible refine (hli _ Bg).mono ?_); rintro r wz ⟨rfl, bz⟩))
            go_ret
            exact ⟨rfl, Bg.tr le_rfl' bz⟩
          · have q91 : (ey == 91) = false := by rw [beq_eq_false_iff_ne]; exact e91
            have q91' : (ey != 91) = true := by rw [bne, q91]; rfl
            go_wp2_with (first
              | (go_at_call 12; (with_reducible refine (hnum _ _).mono ?_); rintro rr ww ⟨rfl, hw'⟩; have hw2 := hw'.symm; subst hw2)
              | (go_at_call 9; (with_reducible refine (hli _ Bg).mono ?_); rintro r wz ⟨rfl, bz⟩))
            go_ret
            exact ⟨rfl, Bg.tr le_rfl' bz⟩
  · have hmn : 200 < m.size := by have := of_decide_eq_true hml; omega
    go_enter Tryd.func4, Tryd.ntmps4
    go_upto_if 25 with (first
      | (go_at_call 8; (with_reducible refine (hsh _ Ba).mono ?_); rintro r wc ⟨c, rfl, hc, hw'⟩; have hw2 := hw'.symm; subst hw2; cases c)
      | (go_at_call 7; (with_reducible refine (hrx _ B0).mono ?_); rintro r wa ⟨c2, rfl, hc1, hc2, Hc3, ba⟩; have Ba := B0.tr le_rfl' ba; rcases Int.lt_or_le c2 0 with hc0 | hc0))
    · go_wp2_with (go_at_call 9; (with_reducible refine (hli _ Ba).mono ?_); rintro r wz ⟨rfl, bz⟩)
      go_ret
      exact ⟨rfl, Ba.tr le_rfl' bz⟩
    · go_wp2_with (go_at_call 9; (with_reducible refine (hli _ Ba).mono ?_); rintro r wz ⟨rfl, bz⟩)
      go_ret
      exact ⟨rfl, Ba.tr le_rfl' bz⟩
    · go_wp2_with (go_at_call 9; (with_reducible refine (hli _ Ba).mono ?_); rintro r wz ⟨rfl, bz⟩)
      go_ret
      exact ⟨rfl, Ba.tr le_rfl' bz⟩
end Go.Proofs.YtfkabkbnfeiggaaDoor
