/-
  program of package names' reader: the first name in a program's statements that nobody has declared.
-/
import Derived.Test.YtfkabkbnfeiggaaDoorNxE
namespace Go.Proofs.YtfkabkbnfeiggaaDoor
open Go.RowKit
set_option maxRecDepth 100000 in
set_option maxHeartbeats 8000000 in
theorem program_any {sb k1 k2 b : Nat} {S : List (ByteArray × List (ByteArray × Int))} {B : List Nat} (p : Pr) (n₀ : Nat) (w : World) (hn : n₀ ≤ w.heap.size) (hI : p.Is n₀ w) (hr : Rdr w sb k1 k2 b S B) :
    Calls Tryd.prog 62 #[.agg #[.func (.func 77) #[] #[.pointer (some ⟨sb, 0, none⟩)], .func (.func 76) #[] #[.pointer (some ⟨sb, 0, none⟩), .pointer (some ⟨k1, 0, none⟩)], .func (.func 76) #[] #[.pointer (some ⟨sb, 0, none⟩), .pointer (some ⟨k2, 0, none⟩)]], p.val] w fun r w' => ErrBack 61 (p.unk (scLk S)) w w' r := by
  have HU : Hid (p.unk (scLk S) = (unkOf (Mo.unk (scLk S)) p.mons).or (unkOf (Ro.unk (scLk S)) p.roles)) := rfl
  rcases p with ⟨mad, mcap, mons, rad, rcap, roles⟩
  obtain ⟨⟨h3, h4⟩, h5, h6⟩ := hI
  simp only [Pr.val] at HU h3 h4 h5 h6 ⊢
  have hl1 := h3.1; have hl2 := h3.2.1; have hl3 := h5.1; have hl4 := h5.2.1
  unfold maxLen at hl2 hl4
  go_enter Tryd.func62, Tryd.ntmps62
  go_upto_region 1 with fail
  obtain ⟨bR, bX, hB, hz⟩ := two_box w #[.func (.func 77) #[] #[.pointer (some ⟨sb, 0, none⟩)], .func (.func 76) #[] #[.pointer (some ⟨sb, 0, none⟩), .pointer (some ⟨k1, 0, none⟩)], .func (.func 76) #[] #[.pointer (some ⟨sb, 0, none⟩), .pointer (some ⟨k2, 0, none⟩)]] #[.slice mad mons.length mcap, .slice rad roles.length rcap] 119 45
  obtain ⟨W0, hW0⟩ : ∃ W0, (w.alloc (.cells #[.func (.func 77) #[] #[.pointer (some ⟨sb, 0, none⟩)], .func (.func 76) #[] #[.pointer (some ⟨sb, 0, none⟩), .pointer (some ⟨k1, 0, none⟩)], .func (.func 76) #[] #[.pointer (some ⟨sb, 0, none⟩), .pointer (some ⟨k2, 0, none⟩)]] 119)).alloc (.cells #[.slice mad mons.length mcap, .slice rad roles.length rcap] 45) = W0 := ⟨_, rfl⟩
  rw [hW0] at bR bX hB hz ⊢
  clear hW0
  have hr0 := hr.below hB (Nat.le_refl _)
  have r0 := cellOf bR 0
  have r1 := cellOf bR 1
  have r2 := cellOf bR 2
  have s0 := cellOf bX 0
  have s1 := cellOf bX 1
  simp at r0 r1 r2 s0 s1
  have HZ := hid hz
  clear hr hz bR bX
  go_wp2
  go_loopw [19] (fun i wr => ∃ j : Nat, j ≤ mons.length ∧ i = .int .i64 j ∧ Hid (unkOf (Mo.unk (scLk S)) mons = unkOf (Mo.unk (scLk S)) (mons.drop j)) ∧ Below W0.heap.size W0 wr)
    (fun i _ => mons.length - (intOf i).toNat)
  case atStart => exact ⟨0, by omega, rfl, rfl, Below.refl _ _⟩
  case round =>
    obtain ⟨j, hj, rfl, HQ, hbw⟩ := hrel
    have hz1 := hbw.size
    have hz0 := HZ.out
    have hbF : Below w.heap.size w wr := hB.trans (hbw.mono (by omega))
    have hb0 : Below n₀ w wr := hbF.mono hn
    by_cases hlt : j < mons.length
    · rcases h3.2.2 with h | ⟨kb, koff, rfl, hbn, hrow⟩
      · subst h; simp at hlt
      have hbn2 : kb < wr.heap.size := by omega
      have HD := hid (unkOf_drop (Mo.unk (scLk S)) mons j hlt)
      have HMU : Hid (Mo.unk (scLk S) mons[j] = unkOf (Me.unk (scLk S)) mons[j].meths) := rfl
      have hrj := hrow.below hb0 hbn
      have hIm := (h4 _ (List.getElem_mem hlt)).2.2
      rcases he' : mons[j] with ⟨mname, mvad, mvcap, mvars, mmad, mmcap, mmeths, mpos⟩
      obtain ⟨c0, c1, c2, c3⟩ := row4 hrj j hlt (by rw [he']; rfl)
      rw [he'] at HMU hIm
      rw [he'] at HD
      simp only at HMU hIm
      clear he'
      have hml1 := hIm.1.1; have hml2 := hIm.1.2.1
      unfold maxLen at hml2
      go_wp2
      obtain ⟨bM, hBM, hzM⟩ := one_box wr #[.string mname, .slice mvad mvars.length mvcap, .slice mmad mmeths.length mmcap, .int .i64 mpos] 62
      obtain ⟨W1, hW1⟩ : ∃ W1, wr.alloc (.cells #[.string mname, .slice mvad mvars.length mvcap, .slice mmad mmeths.length mmcap, .int .i64 mpos] 62) = W1 := ⟨_, rfl⟩
      rw [hW1] at bM hBM hzM ⊢
      clear hW1
      have HZM := hid hzM
      have hbw1 : Below W0.heap.size W0 W1 := hbw.tr le_rfl' hBM
      clear hzM c0 c1 c2 c3
      obtain ⟨wo, hwo⟩ : ∃ wo : World, wo = wr := ⟨_, rfl⟩
      subst hwo
      go_loopw [26] (fun i wr => ∃ l : Nat, l ≤ mmeths.length ∧ i = .int .i64 l ∧ Hid (unkOf (Me.unk (scLk S)) mmeths = unkOf (Me.unk (scLk S)) (mmeths.drop l)) ∧ Below W0.heap.size W0 wr)
        (fun i _ => mmeths.length - (intOf i).toNat)
      case atStart => exact ⟨0, by omega, rfl, rfl, hbw1⟩
      case round =>
        obtain ⟨l, hl, rfl, HQ2, hbv⟩ := hrel
        have hzv := hbv.size
        have hvF : Below w.heap.size w wr := hB.trans (hbv.mono (by omega))
        have hv0 : Below n₀ w wr := hvF.mono hn
        by_cases hlt2 : l < mmeths.length
        · rcases hIm.1.2.2 with h | ⟨mb, moff, rfl, hmn, hmrow⟩
          · subst h; simp at hlt2
          have hmn2 : mb < wr.heap.size := by omega
          have HD2 := hid (unkOf_drop (Me.unk (scLk S)) mmeths l hlt2)
          have hmr := hmrow.below hv0 hmn
          have hIb := (hIm.2 _ (List.getElem_mem hlt2)).2.2
          have hq := block_any (sb := sb) (k1 := k1) (k2 := k2) (b := b) (S := S) (B := B) mmeths[l].body n₀ (wr.alloc (.cells (mmeths[l]).cells.toArray 66)) (by simp; omega) (hIb.below (hv0.al hn _)) ((hr0.below hbv (Nat.le_refl _)).below ((Below.refl _ wr).al le_rfl' _) (Nat.le_refl _))
          have HMe : Hid (Me.unk (scLk S) mmeths[l] = mmeths[l].body.unk (scLk S)) := rfl
          obtain ⟨u, hu⟩ : ∃ u, mmeths[l].body.unk (scLk S) = u := ⟨_, rfl⟩
          rw [hu] at hq HMe
          clear hu
          have x0 : ∀ o, (wr.alloc o).cell? ⟨w.heap.size, 0, none⟩ = _ := fun o => (((Below.refl _ wr).al le_rfl' o).cell (p := ⟨w.heap.size, 0, none⟩) (by show w.heap.size < _; omega)).trans ((hbv.cell (p := ⟨w.heap.size, 0, none⟩) (by show w.heap.size < _; omega)).trans r0)
          have x1 : ∀ o, (wr.alloc o).cell? ⟨w.heap.size, 1, none⟩ = _ := fun o => (((Below.refl _ wr).al le_rfl' o).cell (p := ⟨w.heap.size, 1, none⟩) (by show w.heap.size < _; omega)).trans ((hbv.cell (p := ⟨w.heap.size, 1, none⟩) (by show w.heap.size < _; omega)).trans r1)
          have x2 : ∀ o, (wr.alloc o).cell? ⟨w.heap.size, 2, none⟩ = _ := fun o => (((Below.refl _ wr).al le_rfl' o).cell (p := ⟨w.heap.size, 2, none⟩) (by show w.heap.size < _; omega)).trans ((hbv.cell (p := ⟨w.heap.size, 2, none⟩) (by show w.heap.size < _; omega)).trans r2)
          rcases he' : mmeths[l] with ⟨fname, ⟨fad, fcap, fbody⟩, fpos⟩
          obtain ⟨c0, c1, c2⟩ := row3 hmr l hlt2 (by rw [he']; rfl)
          simp only [he', Me.cells, Bl.slice] at hq c1
          rw [he'] at HMe
          rw [he'] at HD2
          clear he' hr0
          rcases u with _ | a
          · have hq := ErrBack.no hq rfl
            go_wp2_with (go_at_call 78; (with_reducible refine hq.mono ?_); rintro r w1 ⟨rfl, hb1⟩)
            go_roundw
            case rel => exact ⟨l + 1, by omega, by go_num, by show _ = _; rw [HQ2.out, HD2.out, HMe.out]; rfl, (hbv.al le_rfl' _).tr le_rfl' hb1⟩
            case measure => simp [intOf]; omega
          · have hq := ErrBack.yes hq rfl
            go_wp2_with (go_at_call 78; (with_reducible refine hq.mono ?_); rintro r w1 ⟨rfl, hb1⟩)
            go_ret2
            exact errBack_yes (by rw [HU.out, HQ.out, HD.out, HMU.out, HQ2.out, HD2.out, HMe.out]; rfl) ((hvF.al le_rfl' _).tr le_rfl' hb1)
        · have hjd : decide ((l : Int) < (mmeths.length : Int)) = false := by simp; omega
          go_wp2
          go_roundw
          case rel => exact ⟨j + 1, by omega, by go_num, by show _ = _; rw [HQ.out, HD.out, HMU.out, HQ2.out, unkOf_end _ _ _ (by omega)]; rfl, hbv⟩
          case measure => simp [intOf]; omega
    · have hjd : decide ((j : Int) < (mons.length : Int)) = false := by simp; omega
      have HMN : Hid (unkOf (Mo.unk (scLk S)) mons = none) := by show _ = _; rw [HQ.out, unkOf_end _ _ _ (by omega)]
      have y1 := (hbw.cell (p := ⟨w.heap.size + 1, 1, none⟩) (by show w.heap.size + 1 < _; omega)).trans s1
      go_wp2
      obtain ⟨wo, hwo⟩ : ∃ wo : World, wo = wr := ⟨_, rfl⟩
      subst hwo
      go_loopw [46] (fun i wr => ∃ l : Nat, l ≤ roles.length ∧ i = .int .i64 l ∧ Hid (unkOf (Ro.unk (scLk S)) roles = unkOf (Ro.unk (scLk S)) (roles.drop l)) ∧ Below W0.heap.size W0 wr)
        (fun i _ => roles.length - (intOf i).toNat)
      case atStart => exact ⟨0, by omega, rfl, rfl, hbw⟩
      case round =>
        obtain ⟨l, hl, rfl, HQ2, hbv⟩ := hrel
        have hzv := hbv.size
        have hvF : Below w.heap.size w wr := hB.trans (hbv.mono (by omega))
        have hv0 : Below n₀ w wr := hvF.mono hn
        by_cases hlt2 : l < roles.length
        · rcases h5.2.2 with h | ⟨mb, moff, rfl, hmn, hmrow⟩
          · subst h; simp at hlt2
          have hmn2 : mb < wr.heap.size := by omega
          have HD2 := hid (unkOf_drop (Ro.unk (scLk S)) roles l hlt2)
          have hmr := hmrow.below hv0 hmn
          have hIb := (h6 _ (List.getElem_mem hlt2)).2.2.2
          have hq := block_any (sb := sb) (k1 := k1) (k2 := k2) (b := b) (S := S) (B := B) roles[l].body n₀ (wr.alloc (.cells (roles[l]).cells.toArray 51)) (by simp; omega) (hIb.below (hv0.al hn _)) ((hr0.below hbv (Nat.le_refl _)).below ((Below.refl _ wr).al le_rfl' _) (Nat.le_refl _))
          have HMe : Hid (Ro.unk (scLk S) roles[l] = roles[l].body.unk (scLk S)) := rfl
          obtain ⟨u, hu⟩ : ∃ u, roles[l].body.unk (scLk S) = u := ⟨_, rfl⟩
          rw [hu] at hq HMe
          clear hu
          have x0 : ∀ o, (wr.alloc o).cell? ⟨w.heap.size, 0, none⟩ = _ := fun o => (((Below.refl _ wr).al le_rfl' o).cell (p := ⟨w.heap.size, 0, none⟩) (by show w.heap.size < _; omega)).trans ((hbv.cell (p := ⟨w.heap.size, 0, none⟩) (by show w.heap.size < _; omega)).trans r0)
          have x1 : ∀ o, (wr.alloc o).cell? ⟨w.heap.size, 1, none⟩ = _ := fun o => (((Below.refl _ wr).al le_rfl' o).cell (p := ⟨w.heap.size, 1, none⟩) (by show w.heap.size < _; omega)).trans ((hbv.cell (p := ⟨w.heap.size, 1, none⟩) (by show w.heap.size < _; omega)).trans r1)
          have x2 : ∀ o, (wr.alloc o).cell? ⟨w.heap.size, 2, none⟩ = _ := fun o => (((Below.refl _ wr).al le_rfl' o).cell (p := ⟨w.heap.size, 2, none⟩) (by show w.heap.size < _; omega)).trans ((hbv.cell (p := ⟨w.heap.size, 2, none⟩) (by show w.heap.size < _; omega)).trans r2)
          rcases he' : roles[l] with ⟨rname, rstar, rcount, ⟨fad, fcap, fbody⟩, rpos⟩
          obtain ⟨c0, c1, c2, c3, c4⟩ := row5 hmr l hlt2 (by rw [he']; rfl)
          simp only [he', Ro.cells, Bl.slice] at hq c3
          rw [he'] at HMe
          rw [he'] at HD2
          clear he' hr0
          rcases u with _ | a
          · have hq := ErrBack.no hq rfl
            go_wp2_with (go_at_call 78; (with_reducible refine hq.mono ?_); rintro r w1 ⟨rfl, hb1⟩)
            go_roundw
            case rel => exact ⟨l + 1, by omega, by go_num, by show _ = _; rw [HQ2.out, HD2.out, HMe.out]; rfl, (hbv.al le_rfl' _).tr le_rfl' hb1⟩
            case measure => simp [intOf]; omega
          · have hq := ErrBack.yes hq rfl
            go_wp2_with (go_at_call 78; (with_reducible refine hq.mono ?_); rintro r w1 ⟨rfl, hb1⟩)
            go_ret2
            exact errBack_yes (by rw [HU.out, HMN.out, HQ2.out, HD2.out, HMe.out]; rfl) ((hvF.al le_rfl' _).tr le_rfl' hb1)
        · have hjd2 : decide ((l : Int) < (roles.length : Int)) = false := by simp; omega
          go_wp2
          go_ret2
          exact errBack_no (by rw [HU.out, HMN.out, HQ2.out, unkOf_end _ _ _ (by omega)]; rfl) hvF
end Go.Proofs.YtfkabkbnfeiggaaDoor
