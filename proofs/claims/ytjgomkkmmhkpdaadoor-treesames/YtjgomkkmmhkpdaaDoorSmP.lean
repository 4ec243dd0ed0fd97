/-
  The document's Same: whether two programs are the same.
-/
import Derived.Test.YtjgomkkmmhkpdaaDoorSmM
namespace Go.Proofs.YtjgomkkmmhkpdaaDoor
open Go.RowKit
theorem roSame_doc (r s : Ro) : r.same s = (!(r.name.toList != s.name.toList) && !(r.star != s.star) && !(r.count != s.count) && r.body.same s.body) := by
  rw [Ro.same, ← not_bne, ← not_bne, ← not_bne]
theorem prSame_doc (p q : Pr) : p.same q = (!((p.mons.length : Int) != (q.mons.length : Int)) && !((p.roles.length : Int) != (q.roles.length : Int)) && all2 Mo.same p.mons q.mons && all2 Ro.same p.roles q.roles) := by
  rw [Pr.same, len_beq Mo.same, len_beq Ro.same]
  grind
set_option maxRecDepth 100000 in
set_option maxHeartbeats 16000000 in
theorem refSame_any (n₀ : Nat) (x y : Pr) (w : World) (hn : n₀ ≤ w.heap.size) (hx : x.Is n₀ w) (hy : y.Is n₀ w) :
    Calls Tryd.prog 21 #[x.val, y.val] w fun r w' => r = .returned (.bool (x.same y)) ∧ Below w.heap.size w w' := by
  have HR0 := hid (prSame_doc x y)
  obtain ⟨res, hres⟩ : ∃ res, x.same y = res := ⟨_, rfl⟩
  rw [hres] at HR0 ⊢
  clear hres
  rcases x with ⟨xmad, xmcap, xmons, xrad, xrcap, xroles⟩
  rcases y with ⟨ymad, ymcap, ymons, yrad, yrcap, yroles⟩
  obtain ⟨⟨hx3, hx4⟩, hx5, hx6⟩ := hx
  obtain ⟨⟨hy3, hy4⟩, hy5, hy6⟩ := hy
  simp only at hx3 hx4 hx5 hx6 hy3 hy4 hy5 hy6
  have HR : Hid (res = (!((xmons.length : Int) != (ymons.length : Int)) && !((xroles.length : Int) != (yroles.length : Int)) && all2 Mo.same xmons ymons && all2 Ro.same xroles yroles)) := HR0
  clear HR0
  have l1 := hx3.1; have l2 := hx3.2.1; have l3 := hx5.1; have l4 := hx5.2.1; have l5 := hy3.1; have l6 := hy3.2.1; have l7 := hy5.1; have l8 := hy5.2.1
  unfold maxLen at l2 l4 l6 l8
  simp only [Pr.val]
  cases q1 : ((xmons.length : Int) != (ymons.length : Int))
  case true =>
    have HF : Hid (res = false) := by
      show _ = _
      rw [HR.out]
      simp [q1]
    go_enter Tryd.func21, Tryd.ntmps21
    go_wp2
    go_ret
    exact ⟨ret_bool HF.out.symm, ((Below.refl _ _).al le_rfl' _).al le_rfl' _⟩
  cases q2 : ((xroles.length : Int) != (yroles.length : Int))
  case true =>
    have HF : Hid (res = false) := by
      show _ = _
      rw [HR.out]
      simp [q1, q2]
    go_enter Tryd.func21, Tryd.ntmps21
    go_wp2
    go_ret
    exact ⟨ret_bool HF.out.symm, ((Below.refl _ _).al le_rfl' _).al le_rfl' _⟩
  have HLV : Hid (xmons.length = ymons.length) := by
    have h := q1
    rw [bne_eq_false_iff_eq] at h
    show _ = _
    omega
  have HLM : Hid (xroles.length = yroles.length) := by
    have h := q2
    rw [bne_eq_false_iff_eq] at h
    show _ = _
    omega
  have HR : Hid (res = (all2 Mo.same xmons ymons && all2 Ro.same xroles yroles)) := by
    show _ = _
    rw [HR.out]
    simp [q1, q2]
  go_enter Tryd.func21, Tryd.ntmps21
  go_wp2
  go_loopg [5] xmons.length (fun k i wr => ∃ j : Nat, j ≤ xmons.length ∧ k = xmons.length - j ∧ i = .int .i64 j ∧ Hid (all2 Mo.same (xmons.take j) (ymons.take j) = true) ∧ Below (w.heap.size + 1 + 1) ((w.alloc (.cells #[.slice xmad xmons.length xmcap, .slice xrad xroles.length xrcap] 25)).alloc (.cells #[.slice ymad ymons.length ymcap, .slice yrad yroles.length yrcap] 25)) wr)
  case atStart => exact ⟨0, by omega, by omega, rfl, by simp [Hid, all2], Below.refl _ _⟩
  case round =>
    obtain ⟨wo, hwo⟩ : ∃ wo : World, wo = wr := ⟨_, rfl⟩
    subst hwo
    obtain ⟨j, hj, rfl, rfl, HA, hbw⟩ := hrel
    have hbF : Below w.heap.size w wo := (((Below.refl _ w).al le_rfl' _).al le_rfl' _).trans (hbw.mono (by omega))
    have hb0 : Below n₀ w wo := hbF.mono hn
    have hz := hbw.size
    simp at hz
    have hBA : wo.heap[w.heap.size]? = some (.cells #[.slice xmad xmons.length xmcap, .slice xrad xroles.length xrcap] 25 (0, 0)) := (hbw.block w.heap.size (by omega)).trans ((Below.heap_alloc _ _ _ (by simp)).trans (World.alloc_heap_new w _))
    have hBB : wo.heap[w.heap.size + 1]? = some (.cells #[.slice ymad ymons.length ymcap, .slice yrad yroles.length yrcap] 25 (0, 0)) := (hbw.block (w.heap.size + 1) (by omega)).trans (heapAt' (by simp))
    have x1 := cell_of' hBA 0; have y1 := cell_of' hBB 0; have x2 := cell_of' hBA 1; have y2 := cell_of' hBB 1
    simp at x1 y1 x2 y2
    by_cases hlt : j < xmons.length
    · have hlt' : j < ymons.length := by have := HLV.out; omega
      rcases hx3.2.2 with h | ⟨b, off, rfl, hbn, hrow⟩
      · subst h; simp at hlt
      rcases hy3.2.2 with h | ⟨b', off', rfl, hbn', hrow'⟩
      · subst h; simp at hlt'
      have hr := hrow.below hb0 hbn
      have hr' := hrow'.below hb0 hbn'
      have HX : Hid (xmons[j].same ymons[j] = false → res = false) := fun h => by
        rw [HR.out, all2_cut Mo.same xmons ymons j hlt hlt' h, Bool.false_and]
      have HY : Hid (xmons[j].same ymons[j] = true → all2 Mo.same (xmons.take (j + 1)) (ymons.take (j + 1)) = true) := fun h => by
        rw [all2_snoc Mo.same xmons ymons j hlt hlt', HA.out, h]; rfl
      have hq : ∀ W, Below wo.heap.size wo W → Calls Tryd.prog 44 #[xmons[j].val, ymons[j].val] W fun r w' => r = .returned (.bool (xmons[j].same ymons[j])) ∧ Below W.heap.size W w' := fun W hW => by
        have hzW := hW.size
        exact refSameMon_any n₀ _ _ W (by omega) ((hx4 _ (List.getElem_mem hlt)).below (hb0.trans (hW.mono (by omega)))) ((hy4 _ (List.getElem_mem hlt')).below (hb0.trans (hW.mono (by omega))))
      obtain ⟨ms, hms⟩ : ∃ ms, xmons[j].same ymons[j] = ms := ⟨_, rfl⟩
      simp only [hms] at hq
      have HMS := hid hms
      clear hms
      rcases he : xmons[j] with ⟨uname, uvad, uvcap, uvars, umad, umcap, umeths, upos⟩
      rcases he' : ymons[j] with ⟨vname, vvad, vvcap, vvars, vmad, vmcap, vmeths, vpos⟩
      obtain ⟨c0, c1, c2, c3⟩ := row4 hr j hlt (by rw [he]; rfl)
      obtain ⟨d0, d1, d2, d3⟩ := row4 hr' j hlt' (by rw [he']; rfl)
      simp only [he, he', Mo.val, Mo.cells] at hq
      clear he he'
      have hkeep : ∀ W, Below wo.heap.size wo W → (W.cell? ⟨w.heap.size, 0, none⟩ = some (.slice (some ⟨b, off, none⟩) xmons.length xmcap) ∧ W.cell? ⟨w.heap.size + 1, 0, none⟩ = some (.slice (some ⟨b', off', none⟩) ymons.length ymcap) ∧ (W.cell? ⟨b, off + j * 4, none⟩ = some (.string uname) ∧ W.cell? ⟨b, off + j * 4 + 1, none⟩ = some (.slice uvad uvars.length uvcap) ∧ W.cell? ⟨b, off + j * 4 + 2, none⟩ = some (.slice umad umeths.length umcap) ∧ W.cell? ⟨b, off + j * 4 + 3, none⟩ = some (.int .i64 upos)) ∧ (W.cell? ⟨b', off' + j * 4, none⟩ = some (.string vname) ∧ W.cell? ⟨b', off' + j * 4 + 1, none⟩ = some (.slice vvad vvars.length vvcap) ∧ W.cell? ⟨b', off' + j * 4 + 2, none⟩ = some (.slice vmad vmeths.length vmcap) ∧ W.cell? ⟨b', off' + j * 4 + 3, none⟩ = some (.int .i64 vpos))) := fun W hW => by
        have k1 : b < wo.heap.size := by omega
        have k2 : b' < wo.heap.size := by omega
        exact ⟨(hW.cell (p := ⟨w.heap.size, 0, none⟩) (by show w.heap.size < _; omega)).trans x1, (hW.cell (p := ⟨w.heap.size + 1, 0, none⟩) (by show w.heap.size + 1 < _; omega)).trans y1, ⟨(hW.cell (p := ⟨b, off + j * 4, none⟩) k1).trans c0, (hW.cell (p := ⟨b, off + j * 4 + 1, none⟩) k1).trans c1, (hW.cell (p := ⟨b, off + j * 4 + 2, none⟩) k1).trans c2, (hW.cell (p := ⟨b, off + j * 4 + 3, none⟩) k1).trans c3⟩, ⟨(hW.cell (p := ⟨b', off' + j * 4, none⟩) k2).trans d0, (hW.cell (p := ⟨b', off' + j * 4 + 1, none⟩) k2).trans d1, (hW.cell (p := ⟨b', off' + j * 4 + 2, none⟩) k2).trans d2, (hW.cell (p := ⟨b', off' + j * 4 + 3, none⟩) k2).trans d3⟩⟩
      have HK := hid hkeep
      clear hkeep c0 c1 c2 c3 d0 d1 d2 d3
      have hj0 : (0 : Int) ≤ (j : Int) := Int.natCast_nonneg _
      have hj1 : (j : Int) < (xmons.length : Int) := by omega
      have hj2 : (j : Int) < (ymons.length : Int) := by omega
      have B := below_drewS (Below.refl wo.heap.size wo)
      cases ms
      · go_wp2_with fail
        go_region_held3 (fun W => W.cell? ⟨w.heap.size, 0, none⟩ = some (.slice (some ⟨b, off, none⟩) xmons.length xmcap) ∧ W.cell? ⟨w.heap.size + 1, 0, none⟩ = some (.slice (some ⟨b', off', none⟩) ymons.length ymcap) ∧ (W.cell? ⟨b, off + j * 4, none⟩ = some (.string uname) ∧ W.cell? ⟨b, off + j * 4 + 1, none⟩ = some (.slice uvad uvars.length uvcap) ∧ W.cell? ⟨b, off + j * 4 + 2, none⟩ = some (.slice umad umeths.length umcap) ∧ W.cell? ⟨b, off + j * 4 + 3, none⟩ = some (.int .i64 upos)) ∧ (W.cell? ⟨b', off' + j * 4, none⟩ = some (.string vname) ∧ W.cell? ⟨b', off' + j * 4 + 1, none⟩ = some (.slice vvad vvars.length vvcap) ∧ W.cell? ⟨b', off' + j * 4 + 2, none⟩ = some (.slice vmad vmeths.length vmcap) ∧ W.cell? ⟨b', off' + j * 4 + 3, none⟩ = some (.int .i64 vpos))) (exact HK.out _ B)
          ((go_at_call 44; refine (hq _ B).mono ?_; rintro r u1 ⟨rfl, bb⟩; have B := B.tr le_rfl' bb))
        go_wp2
        go_ret
        exact ⟨ret_bool (HX.out HMS.out).symm, hbF.tr le_rfl' B⟩
      · go_wp2_with fail
        go_region_held3 (fun W => W.cell? ⟨w.heap.size, 0, none⟩ = some (.slice (some ⟨b, off, none⟩) xmons.length xmcap) ∧ W.cell? ⟨w.heap.size + 1, 0, none⟩ = some (.slice (some ⟨b', off', none⟩) ymons.length ymcap) ∧ (W.cell? ⟨b, off + j * 4, none⟩ = some (.string uname) ∧ W.cell? ⟨b, off + j * 4 + 1, none⟩ = some (.slice uvad uvars.length uvcap) ∧ W.cell? ⟨b, off + j * 4 + 2, none⟩ = some (.slice umad umeths.length umcap) ∧ W.cell? ⟨b, off + j * 4 + 3, none⟩ = some (.int .i64 upos)) ∧ (W.cell? ⟨b', off' + j * 4, none⟩ = some (.string vname) ∧ W.cell? ⟨b', off' + j * 4 + 1, none⟩ = some (.slice vvad vvars.length vvcap) ∧ W.cell? ⟨b', off' + j * 4 + 2, none⟩ = some (.slice vmad vmeths.length vmcap) ∧ W.cell? ⟨b', off' + j * 4 + 3, none⟩ = some (.int .i64 vpos))) (exact HK.out _ B)
          ((go_at_call 44; refine (hq _ B).mono ?_; rintro r u1 ⟨rfl, bb⟩; have B := B.tr le_rfl' bb))
        go_wp2
        go_roundg (xmons.length - (j + 1))
        case measure => omega
        case rel => exact ⟨j + 1, by omega, rfl, by go_num, HY.out HMS.out, hbw.tr (by simp) B⟩
    · have hjd : decide ((j : Int) < (xmons.length : Int)) = false := by simp; omega
      have HR : Hid (res = all2 Ro.same xroles yroles) := by
        show _ = _
        have e1 := HA.out
        have e2 := HLV.out
        rw [List.take_of_length_le (by omega), List.take_of_length_le (by omega)] at e1
        rw [HR.out, e1, Bool.true_and]
      go_wp2
      go_loopg [6] xroles.length (fun k i wr => ∃ m : Nat, m ≤ xroles.length ∧ k = xroles.length - m ∧ i = .int .i64 m ∧ Hid (all2 Ro.same (xroles.take m) (yroles.take m) = true) ∧ Below wo.heap.size wo wr)
      case atStart => exact ⟨0, by omega, by omega, rfl, by simp [Hid, all2], Below.refl _ _⟩
      case round =>
        obtain ⟨wm, hwm⟩ : ∃ wm : World, wm = wr := ⟨_, rfl⟩
        subst hwm
        obtain ⟨m, hm, rfl, rfl, HM, hbm⟩ := hrel
        have hzm := hbm.size
        have x2' : wm.cell? ⟨w.heap.size, 1, none⟩ = some (.slice xrad xroles.length xrcap) := (hbm.cell (p := ⟨w.heap.size, 1, none⟩) (by show w.heap.size < _; omega)).trans x2
        have y2' : wm.cell? ⟨w.heap.size + 1, 1, none⟩ = some (.slice yrad yroles.length yrcap) := (hbm.cell (p := ⟨w.heap.size + 1, 1, none⟩) (by show w.heap.size + 1 < _; omega)).trans y2
        have lw1 : w.heap.size < wm.heap.size := by omega
        have lw2 : w.heap.size + 1 < wm.heap.size := by omega
        by_cases hlt : m < xroles.length
        · have hlt' : m < yroles.length := by have := HLM.out; omega
          rcases hx5.2.2 with h | ⟨b, off, rfl, hbn, hrow⟩
          · subst h; simp at hlt
          rcases hy5.2.2 with h | ⟨b', off', rfl, hbn', hrow'⟩
          · subst h; simp at hlt'
          have hB3 : Below n₀ w wm := hb0.trans (hbm.mono (by omega))
          have hr := hrow.below hB3 hbn
          have hr' := hrow'.below hB3 hbn'
          have lb : b < wm.heap.size := by omega
          have lb' : b' < wm.heap.size := by omega
          have hI := (hx6 _ (List.getElem_mem hlt)).below hB3
          have hI' := (hy6 _ (List.getElem_mem hlt')).below hB3
          have HX : Hid (xroles[m].same yroles[m] = false → res = false) := fun h => by
            rw [HR.out, all2_cut Ro.same xroles yroles m hlt hlt' h]
          have HY : Hid (xroles[m].same yroles[m] = true → all2 Ro.same (xroles.take (m + 1)) (yroles.take (m + 1)) = true) := fun h => by
            rw [all2_snoc Ro.same xroles yroles m hlt hlt', HM.out, h]; rfl
          rcases he : xroles[m] with ⟨unm, ust, uct, ubl, ups⟩
          rcases he' : yroles[m] with ⟨vnm, vst, vct, vbl, vps⟩
          rw [he] at hI HX HY
          rw [he'] at hI' HX HY
          have HVD : Hid (Ro.same ⟨unm, ust, uct, ubl, ups⟩ ⟨vnm, vst, vct, vbl, vps⟩ = (!(unm.toList != vnm.toList) && !(ust != vst) && !(uct != vct) && ubl.same vbl)) := roSame_doc _ _
          have hq : ∀ W, Below wm.heap.size wm W → Calls Tryd.prog 23 #[ubl.slice, vbl.slice] W fun r w' => r = .returned (.bool (ubl.same vbl)) ∧ Below W.heap.size W w' := fun W hW => by
            have hzW := hW.size
            exact refSameStmts_any n₀ ubl vbl W (by omega) (hI.2.2.2.below (hW.mono (by omega))) (hI'.2.2.2.below (hW.mono (by omega)))
          obtain ⟨bs, hbs⟩ : ∃ bs, ubl.same vbl = bs := ⟨_, rfl⟩
          rw [hbs] at HVD
          simp only [hbs] at hq
          clear hbs hI hI'
          obtain ⟨c0, c1, c2, c3, c4⟩ := row5 hr m hlt (by rw [he]; rfl)
          obtain ⟨d0, d1, d2, d3, d4⟩ := row5 hr' m hlt' (by rw [he']; rfl)
          clear he he'
          rcases ubl with ⟨uad, ucap, ubody⟩
          rcases vbl with ⟨vad, vcap, vbody⟩
          simp only [Bl.slice] at hq c3 d3
          have hj0 : (0 : Int) ≤ (m : Int) := Int.natCast_nonneg _
          have hj1 : (m : Int) < (xroles.length : Int) := by omega
          have hj2 : (m : Int) < (yroles.length : Int) := by omega
          have hkeep : ∀ W, Below wm.heap.size wm W → (W.cell? ⟨w.heap.size, 1, none⟩ = some (.slice (some ⟨b, off, none⟩) xroles.length xrcap) ∧ W.cell? ⟨w.heap.size + 1, 1, none⟩ = some (.slice (some ⟨b', off', none⟩) yroles.length yrcap) ∧ (W.cell? ⟨b, off + m * 5, none⟩ = some (.string unm) ∧ W.cell? ⟨b, off + m * 5 + 1, none⟩ = some (.bool ust) ∧ W.cell? ⟨b, off + m * 5 + 2, none⟩ = some (.int .i64 uct) ∧ W.cell? ⟨b, off + m * 5 + 3, none⟩ = some (.slice uad ubody.length ucap) ∧ W.cell? ⟨b, off + m * 5 + 4, none⟩ = some (.int .i64 ups)) ∧ (W.cell? ⟨b', off' + m * 5, none⟩ = some (.string vnm) ∧ W.cell? ⟨b', off' + m * 5 + 1, none⟩ = some (.bool vst) ∧ W.cell? ⟨b', off' + m * 5 + 2, none⟩ = some (.int .i64 vct) ∧ W.cell? ⟨b', off' + m * 5 + 3, none⟩ = some (.slice vad vbody.length vcap) ∧ W.cell? ⟨b', off' + m * 5 + 4, none⟩ = some (.int .i64 vps))) := fun W hW =>
            ⟨(hW.cell (p := ⟨w.heap.size, 1, none⟩) lw1).trans x2', (hW.cell (p := ⟨w.heap.size + 1, 1, none⟩) lw2).trans y2', ⟨(hW.cell (p := ⟨b, off + m * 5, none⟩) lb).trans c0, (hW.cell (p := ⟨b, off + m * 5 + 1, none⟩) lb).trans c1, (hW.cell (p := ⟨b, off + m * 5 + 2, none⟩) lb).trans c2, (hW.cell (p := ⟨b, off + m * 5 + 3, none⟩) lb).trans c3, (hW.cell (p := ⟨b, off + m * 5 + 4, none⟩) lb).trans c4⟩, ⟨(hW.cell (p := ⟨b', off' + m * 5, none⟩) lb').trans d0, (hW.cell (p := ⟨b', off' + m * 5 + 1, none⟩) lb').trans d1, (hW.cell (p := ⟨b', off' + m * 5 + 2, none⟩) lb').trans d2, (hW.cell (p := ⟨b', off' + m * 5 + 3, none⟩) lb').trans d3, (hW.cell (p := ⟨b', off' + m * 5 + 4, none⟩) lb').trans d4⟩⟩
          have HK := hid hkeep
          clear hkeep c0 c1 c2 c3 c4 d0 d1 d2 d3 d4
          go_upto_region 11 with fail
          go_cut [7, 8] (fun p q wx => ∃ g h : Nat, p = .pointer (some ⟨g, 0, none⟩) ∧ q = .pointer (some ⟨h, 0, none⟩) ∧ Hid (wx.heap[g]? = some (.cells #[.string unm, .bool ust, .int .i64 uct, .slice uad ubody.length ucap, .int .i64 ups] 45 (0, 0))) ∧ Hid (wx.heap[h]? = some (.cells #[.string vnm, .bool vst, .int .i64 vct, .slice vad vbody.length vcap, .int .i64 vps] 45 (0, 0))) ∧ Below wm.heap.size wm wx)
          case first =>
            have B := below_drewS (Below.refl wm.heap.size wm)
            go_region_held3 (fun W => W.cell? ⟨w.heap.size, 1, none⟩ = some (.slice (some ⟨b, off, none⟩) xroles.length xrcap) ∧ W.cell? ⟨w.heap.size + 1, 1, none⟩ = some (.slice (some ⟨b', off', none⟩) yroles.length yrcap) ∧ (W.cell? ⟨b, off + m * 5, none⟩ = some (.string unm) ∧ W.cell? ⟨b, off + m * 5 + 1, none⟩ = some (.bool ust) ∧ W.cell? ⟨b, off + m * 5 + 2, none⟩ = some (.int .i64 uct) ∧ W.cell? ⟨b, off + m * 5 + 3, none⟩ = some (.slice uad ubody.length ucap) ∧ W.cell? ⟨b, off + m * 5 + 4, none⟩ = some (.int .i64 ups)) ∧ (W.cell? ⟨b', off' + m * 5, none⟩ = some (.string vnm) ∧ W.cell? ⟨b', off' + m * 5 + 1, none⟩ = some (.bool vst) ∧ W.cell? ⟨b', off' + m * 5 + 2, none⟩ = some (.int .i64 vct) ∧ W.cell? ⟨b', off' + m * 5 + 3, none⟩ = some (.slice vad vbody.length vcap) ∧ W.cell? ⟨b', off' + m * 5 + 4, none⟩ = some (.int .i64 vps))) (first | (exact HK.out _ B) | (exact HK.out _ (B.al le_rfl' _)) | (exact HK.out _ ((B.al le_rfl' _).al le_rfl' _))) (fail)
            · go_wp2_with fail
              go_meet
              exact ⟨wm.heap.size, wm.heap.size + 1, rfl, rfl, (two_new wm _ _ 45).1, (two_new wm _ _ 45).2, below_drewS (((Below.refl _ wm).al le_rfl' _).al le_rfl' _)⟩
            · go_wp2_with fail
              go_meet
              exact ⟨wm.heap.size + 1, wm.heap.size, rfl, rfl, (two_new wm _ _ 45).2, (two_new wm _ _ 45).1, below_drewS (((Below.refl _ wm).al le_rfl' _).al le_rfl' _)⟩
          case rest =>
            obtain ⟨g, h, rfl, rfl, HG, HH, B6⟩ := hcut
            have hz6 := B6.size
            have g0 := cell_of' HG.out 0; have g1 := cell_of' HG.out 1; have g2 := cell_of' HG.out 2; have g3 := cell_of' HG.out 3
            have h0 := cell_of' HH.out 0; have h1 := cell_of' HH.out 1; have h2 := cell_of' HH.out 2; have h3 := cell_of' HH.out 3
            simp at g0 g1 g2 g3 h0 h1 h2 h3
            cases q4 : (unm.toList != vnm.toList)
            case true =>
              have q4a : (unm.toList == vnm.toList) = false := by rw [beq_eq_false_iff_ne]; exact bne_iff_ne.1 q4
              have q4b : ¬ unm.toList = vnm.toList := bne_iff_ne.1 q4
              go_wp2
              go_ret
              exact ⟨ret_bool (HX.out (by rw [HVD.out]; simp [q4])).symm, hbF.tr le_rfl' (hbm.tr le_rfl' B6)⟩
            have q4a : (unm.toList == vnm.toList) = true := by rw [beq_iff_eq]; exact (bne_eq_false_iff_eq.1 q4)
            cases q5 : (ust != vst)
            case true =>
              have q5a : (ust == vst) = false := by rw [beq_eq_false_iff_ne]; exact bne_iff_ne.1 q5
              have q5b : ¬ ust = vst := bne_iff_ne.1 q5
              go_wp2
              go_ret
              exact ⟨ret_bool (HX.out (by rw [HVD.out]; simp [q4, q5])).symm, hbF.tr le_rfl' (hbm.tr le_rfl' B6)⟩
            have q5a : (ust == vst) = true := by rw [beq_iff_eq]; exact (bne_eq_false_iff_eq.1 q5)
            cases q6 : (uct != vct)
            case true =>
              go_wp2
              go_ret
              exact ⟨ret_bool (HX.out (by rw [HVD.out]; simp [q4, q5, q6])).symm, hbF.tr le_rfl' (hbm.tr le_rfl' B6)⟩
            cases bs
            · go_wp2_with (go_at_call 23; refine (hq _ B6).mono ?_; rintro r w1 ⟨rfl, bb1⟩)
              go_ret
              exact ⟨ret_bool (HX.out (by rw [HVD.out]; simp)).symm, hbF.tr le_rfl' (hbm.tr le_rfl' (B6.tr le_rfl' bb1))⟩
            · go_wp2_with (go_at_call 23; refine (hq _ B6).mono ?_; rintro r w1 ⟨rfl, bb1⟩)
              go_roundg (xroles.length - (m + 1))
              case measure => omega
              case rel => exact ⟨m + 1, by omega, rfl, by go_num, HY.out (by rw [HVD.out]; simp [q4, q5, q6]), hbm.tr le_rfl' (B6.tr le_rfl' bb1)⟩
        · have hmd : decide ((m : Int) < (xroles.length : Int)) = false := by simp; omega
          go_wp2
          go_ret
          refine ⟨ret_bool ?_, hbF.tr le_rfl' hbm⟩
          have e1 := HM.out
          have e2 := HLM.out
          rw [List.take_of_length_le (by omega), List.take_of_length_le (by omega)] at e1
          rw [HR.out, e1]
end Go.Proofs.YtjgomkkmmhkpdaaDoor
