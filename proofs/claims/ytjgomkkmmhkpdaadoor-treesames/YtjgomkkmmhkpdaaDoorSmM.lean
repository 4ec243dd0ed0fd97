/-
  The document's sameMon: whether two monitors are the same.
-/
import Derived.Test.YtjgomkkmmhkpdaaDoorSsA
import Derived.Deep.QuietTactic
import Derived.BigQuiet
namespace Go.Proofs.YtjgomkkmmhkpdaaDoor
open Go.RowKit
theorem vaSame_doc (v u : Va) : v.same u = (!(v.name.toList != u.name.toList) && !(v.type != u.type) && !(v.lo != u.lo) && !(v.hi != u.hi) && !(v.init != u.init)) := by
  rw [Va.same, ← not_bne, ← not_bne, ← not_bne, ← not_bne, ← not_bne]
theorem meSame_doc (m k : Me) : m.same k = (!(m.name.toList != k.name.toList) && m.body.same k.body) := by rw [Me.same, ← not_bne]
theorem moSame_doc (m k : Mo) : m.same k = (!(m.name.toList != k.name.toList) && !((m.vars.length : Int) != (k.vars.length : Int)) && !((m.meths.length : Int) != (k.meths.length : Int)) && all2 Va.same m.vars k.vars && all2 Me.same m.meths k.meths) := by
  rw [Mo.same, ← not_bne, len_beq Va.same, len_beq Me.same]
  grind
theorem rows2 {W : World} {b : Nat} {cs : Array Value} {t : TypeId} (W' : World) (h : W.heap[b]? = some (.cells cs t (0, 0))) (hb : Below W.heap.size W W') : W'.heap[b]? = some (.cells cs t (0, 0)) := (hb.block b (Array.getElem?_eq_some_iff.1 h).1).trans h
theorem two_new (W : World) (c d : Array Value) (t : TypeId) : ((W.alloc (.cells c t)).alloc (.cells d t)).drew.heap[W.heap.size]? = some (.cells c t (0, 0)) ∧ ((W.alloc (.cells c t)).alloc (.cells d t)).drew.heap[W.heap.size + 1]? = some (.cells d t (0, 0)) :=
  ⟨(Below.heap_alloc _ _ _ (by simp)).trans (World.alloc_heap_new W _), heapAt' (by simp)⟩
theorem below_drewNS {B : Nat} {w w' : World} (h : Below B w w') (q : Nat) : Below B w (w'.drewN q) := ⟨h.os, h.tape, h.output, h.size, h.block⟩
set_option maxRecDepth 100000 in
set_option maxHeartbeats 16000000 in
theorem refSameMon_any (n₀ : Nat) (x y : Mo) (w : World) (hn : n₀ ≤ w.heap.size) (hx : x.Is n₀ w) (hy : y.Is n₀ w) :
    Calls Tryd.prog 44 #[x.val, y.val] w fun r w' => r = .returned (.bool (x.same y)) ∧ Below w.heap.size w w' := by
  have HR0 := hid (moSame_doc x y)
  obtain ⟨res, hres⟩ : ∃ res, x.same y = res := ⟨_, rfl⟩
  rw [hres] at HR0 ⊢
  clear hres
  rcases x with ⟨xname, xvad, xvcap, xvars, xmad, xmcap, xmeths, xpos⟩
  rcases y with ⟨yname, yvad, yvcap, yvars, ymad, ymcap, ymeths, ypos⟩
  obtain ⟨⟨hx1, hx2⟩, ⟨hx3, hx4⟩, hx5, hx6⟩ := hx
  obtain ⟨⟨hy1, hy2⟩, ⟨hy3, hy4⟩, hy5, hy6⟩ := hy
  simp only at hx1 hx2 hx3 hx4 hx5 hx6 hy1 hy2 hy3 hy4 hy5 hy6
  have HR : Hid (res = (!(xname.toList != yname.toList) && !((xvars.length : Int) != (yvars.length : Int)) && !((xmeths.length : Int) != (ymeths.length : Int)) && all2 Va.same xvars yvars && all2 Me.same xmeths ymeths)) := HR0
  clear HR0
  have l1 := hx3.1; have l2 := hx3.2.1; have l3 := hx5.1; have l4 := hx5.2.1; have l5 := hy3.1; have l6 := hy3.2.1; have l7 := hy5.1; have l8 := hy5.2.1
  unfold maxLen at l2 l4 l6 l8
  simp only [Mo.val, Mo.cells]
  cases q1 : (xname.toList != yname.toList)
  case true =>
    have q1a : (xname.toList == yname.toList) = false := by rw [beq_eq_false_iff_ne]; exact bne_iff_ne.1 q1
    have q1b : ¬ xname.toList = yname.toList := bne_iff_ne.1 q1
    have HF : Hid (res = false) := by
      show _ = _
      rw [HR.out]
      simp [q1]
    go_enter Tryd.func44, Tryd.ntmps44
    go_wp2
    go_ret
    exact ⟨ret_bool HF.out.symm, ((Below.refl _ _).al le_rfl' _).al le_rfl' _⟩
  have q1a : (xname.toList == yname.toList) = true := by rw [beq_iff_eq]; exact (bne_eq_false_iff_eq.1 q1)
  cases q2 : ((xvars.length : Int) != (yvars.length : Int))
  case true =>
    have HF : Hid (res = false) := by
      show _ = _
      rw [HR.out]
      simp [q1, q2]
    go_enter Tryd.func44, Tryd.ntmps44
    go_wp2
    go_ret
    exact ⟨ret_bool HF.out.symm, ((Below.refl _ _).al le_rfl' _).al le_rfl' _⟩
  cases q3 : ((xmeths.length : Int) != (ymeths.length : Int))
  case true =>
    have HF : Hid (res = false) := by
      show _ = _
      rw [HR.out]
      simp [q1, q2, q3]
    go_enter Tryd.func44, Tryd.ntmps44
    go_wp2
    go_ret
    exact ⟨ret_bool HF.out.symm, ((Below.refl _ _).al le_rfl' _).al le_rfl' _⟩
  have HLV : Hid (xvars.length = yvars.length) := by
    have h := q2
    rw [bne_eq_false_iff_eq] at h
    show _ = _
    omega
  have HLM : Hid (xmeths.length = ymeths.length) := by
    have h := q3
    rw [bne_eq_false_iff_eq] at h
    show _ = _
    omega
  have HR : Hid (res = (all2 Va.same xvars yvars && all2 Me.same xmeths ymeths)) := by
    show _ = _
    rw [HR.out]
    simp [q1, q2, q3]
  go_enter Tryd.func44, Tryd.ntmps44
  go_wp2
  go_loopg [5] xvars.length (fun k i wr => ∃ j : Nat, j ≤ xvars.length ∧ k = xvars.length - j ∧ i = .int .i64 j ∧ Hid (all2 Va.same (xvars.take j) (yvars.take j) = true) ∧ Below (w.heap.size + 1 + 1) ((w.alloc (.cells #[.string xname, .slice xvad xvars.length xvcap, .slice xmad xmeths.length xmcap, .int .i64 xpos] 53)).alloc (.cells #[.string yname, .slice yvad yvars.length yvcap, .slice ymad ymeths.length ymcap, .int .i64 ypos] 53)) wr)
  case atStart => exact ⟨0, by omega, by omega, rfl, by simp [Hid, all2], Below.refl _ _⟩
  case round =>
    obtain ⟨wo, hwo⟩ : ∃ wo : World, wo = wr := ⟨_, rfl⟩
    subst hwo
    obtain ⟨j, hj, rfl, rfl, HA, hbw⟩ := hrel
    have hbF : Below w.heap.size w wo := (((Below.refl _ w).al le_rfl' _).al le_rfl' _).trans (hbw.mono (by omega))
    have hb0 : Below n₀ w wo := hbF.mono hn
    have hz := hbw.size
    simp at hz
    have hBA : wo.heap[w.heap.size]? = some (.cells #[.string xname, .slice xvad xvars.length xvcap, .slice xmad xmeths.length xmcap, .int .i64 xpos] 53 (0, 0)) := (hbw.block w.heap.size (by omega)).trans ((Below.heap_alloc _ _ _ (by simp)).trans (World.alloc_heap_new w _))
    have hBB : wo.heap[w.heap.size + 1]? = some (.cells #[.string yname, .slice yvad yvars.length yvcap, .slice ymad ymeths.length ymcap, .int .i64 ypos] 53 (0, 0)) := (hbw.block (w.heap.size + 1) (by omega)).trans (heapAt' (by simp))
    have x1 := cell_of' hBA 1; have y1 := cell_of' hBB 1; have x2 := cell_of' hBA 2; have y2 := cell_of' hBB 2
    simp at x1 y1 x2 y2
    by_cases hlt : j < xvars.length
    · have hlt' : j < yvars.length := by have := HLV.out; omega
      rcases hx3.2.2 with h | ⟨b, off, rfl, hbn, hrow⟩
      · subst h; simp at hlt
      rcases hy3.2.2 with h | ⟨b', off', rfl, hbn', hrow'⟩
      · subst h; simp at hlt'
      have hr := hrow.below hb0 hbn
      have hr' := hrow'.below hb0 hbn'
      have HX : Hid (xvars[j].same yvars[j] = false → res = false) := fun h => by
        rw [HR.out, all2_cut Va.same xvars yvars j hlt hlt' h, Bool.false_and]
      have HY : Hid (xvars[j].same yvars[j] = true → all2 Va.same (xvars.take (j + 1)) (yvars.take (j + 1)) = true) := fun h => by
        rw [all2_snoc Va.same xvars yvars j hlt hlt', HA.out, h]; rfl
      rcases he : xvars[j] with ⟨unm, uty, ulo, uhi, uin, ups⟩
      rcases he' : yvars[j] with ⟨vnm, vty, vlo, vhi, vin, vps⟩
      obtain ⟨c0, c1, c2, c3, c4, c5⟩ := row6 hr j hlt (by rw [he]; rfl)
      obtain ⟨d0, d1, d2, d3, d4, d5⟩ := row6 hr' j hlt' (by rw [he']; rfl)
      rw [he, he'] at HX HY
      clear he he'
      have HVD : Hid ((Va.mk unm uty ulo uhi uin ups).same (Va.mk vnm vty vlo vhi vin vps) = (!(unm.toList != vnm.toList) && !(uty != vty) && !(ulo != vlo) && !(uhi != vhi) && !(uin != vin))) := vaSame_doc _ _
      have hkeep : ∀ W, Below wo.heap.size wo W → (W.cell? ⟨w.heap.size, 1, none⟩ = some (.slice (some ⟨b, off, none⟩) xvars.length xvcap) ∧ W.cell? ⟨w.heap.size + 1, 1, none⟩ = some (.slice (some ⟨b', off', none⟩) yvars.length yvcap) ∧ (W.cell? ⟨b, off + j * 6, none⟩ = some (.string unm) ∧ W.cell? ⟨b, off + j * 6 + 1, none⟩ = some (.int .i64 uty) ∧ W.cell? ⟨b, off + j * 6 + 2, none⟩ = some (.int .i64 ulo) ∧ W.cell? ⟨b, off + j * 6 + 3, none⟩ = some (.int .i64 uhi) ∧ W.cell? ⟨b, off + j * 6 + 4, none⟩ = some (.int .i64 uin) ∧ W.cell? ⟨b, off + j * 6 + 5, none⟩ = some (.int .i64 ups)) ∧ (W.cell? ⟨b', off' + j * 6, none⟩ = some (.string vnm) ∧ W.cell? ⟨b', off' + j * 6 + 1, none⟩ = some (.int .i64 vty) ∧ W.cell? ⟨b', off' + j * 6 + 2, none⟩ = some (.int .i64 vlo) ∧ W.cell? ⟨b', off' + j * 6 + 3, none⟩ = some (.int .i64 vhi) ∧ W.cell? ⟨b', off' + j * 6 + 4, none⟩ = some (.int .i64 vin) ∧ W.cell? ⟨b', off' + j * 6 + 5, none⟩ = some (.int .i64 vps))) := fun W hW => by
        have k1 : b < wo.heap.size := by omega
        have k2 : b' < wo.heap.size := by omega
        exact ⟨(hW.cell (p := ⟨w.heap.size, 1, none⟩) (by show w.heap.size < _; omega)).trans x1, (hW.cell (p := ⟨w.heap.size + 1, 1, none⟩) (by show w.heap.size + 1 < _; omega)).trans y1, ⟨(hW.cell (p := ⟨b, off + j * 6, none⟩) k1).trans c0, (hW.cell (p := ⟨b, off + j * 6 + 1, none⟩) k1).trans c1, (hW.cell (p := ⟨b, off + j * 6 + 2, none⟩) k1).trans c2, (hW.cell (p := ⟨b, off + j * 6 + 3, none⟩) k1).trans c3, (hW.cell (p := ⟨b, off + j * 6 + 4, none⟩) k1).trans c4, (hW.cell (p := ⟨b, off + j * 6 + 5, none⟩) k1).trans c5⟩, ⟨(hW.cell (p := ⟨b', off' + j * 6, none⟩) k2).trans d0, (hW.cell (p := ⟨b', off' + j * 6 + 1, none⟩) k2).trans d1, (hW.cell (p := ⟨b', off' + j * 6 + 2, none⟩) k2).trans d2, (hW.cell (p := ⟨b', off' + j * 6 + 3, none⟩) k2).trans d3, (hW.cell (p := ⟨b', off' + j * 6 + 4, none⟩) k2).trans d4, (hW.cell (p := ⟨b', off' + j * 6 + 5, none⟩) k2).trans d5⟩⟩
      have HK := hid hkeep
      clear hkeep c0 c1 c2 c3 c4 c5 d0 d1 d2 d3 d4 d5
      have hj0 : (0 : Int) ≤ (j : Int) := Int.natCast_nonneg _
      have hj1 : (j : Int) < (xvars.length : Int) := by omega
      have hj2 : (j : Int) < (yvars.length : Int) := by omega
      go_upto_region 6 with fail
      go_cut [6, 7] (fun p q wx => ∃ g h : Nat, p = .pointer (some ⟨g, 0, none⟩) ∧ q = .pointer (some ⟨h, 0, none⟩) ∧ Hid (wx.heap[g]? = some (.cells #[.string unm, .int .i64 uty, .int .i64 ulo, .int .i64 uhi, .int .i64 uin, .int .i64 ups] 55 (0, 0))) ∧ Hid (wx.heap[h]? = some (.cells #[.string vnm, .int .i64 vty, .int .i64 vlo, .int .i64 vhi, .int .i64 vin, .int .i64 vps] 55 (0, 0))) ∧ Below wo.heap.size wo wx)
      case first =>
        have B := below_drewS (Below.refl wo.heap.size wo)
        go_region_held3 (fun W => W.cell? ⟨w.heap.size, 1, none⟩ = some (.slice (some ⟨b, off, none⟩) xvars.length xvcap) ∧ W.cell? ⟨w.heap.size + 1, 1, none⟩ = some (.slice (some ⟨b', off', none⟩) yvars.length yvcap) ∧ (W.cell? ⟨b, off + j * 6, none⟩ = some (.string unm) ∧ W.cell? ⟨b, off + j * 6 + 1, none⟩ = some (.int .i64 uty) ∧ W.cell? ⟨b, off + j * 6 + 2, none⟩ = some (.int .i64 ulo) ∧ W.cell? ⟨b, off + j * 6 + 3, none⟩ = some (.int .i64 uhi) ∧ W.cell? ⟨b, off + j * 6 + 4, none⟩ = some (.int .i64 uin) ∧ W.cell? ⟨b, off + j * 6 + 5, none⟩ = some (.int .i64 ups)) ∧ (W.cell? ⟨b', off' + j * 6, none⟩ = some (.string vnm) ∧ W.cell? ⟨b', off' + j * 6 + 1, none⟩ = some (.int .i64 vty) ∧ W.cell? ⟨b', off' + j * 6 + 2, none⟩ = some (.int .i64 vlo) ∧ W.cell? ⟨b', off' + j * 6 + 3, none⟩ = some (.int .i64 vhi) ∧ W.cell? ⟨b', off' + j * 6 + 4, none⟩ = some (.int .i64 vin) ∧ W.cell? ⟨b', off' + j * 6 + 5, none⟩ = some (.int .i64 vps))) (first | (exact HK.out _ B) | (exact HK.out _ (B.al le_rfl' _)) | (exact HK.out _ ((B.al le_rfl' _).al le_rfl' _))) (fail)
        · go_wp2_with fail
          go_meet
          exact ⟨wo.heap.size, wo.heap.size + 1, rfl, rfl, (two_new wo _ _ 55).1, (two_new wo _ _ 55).2, below_drewS (((Below.refl _ wo).al le_rfl' _).al le_rfl' _)⟩
        · go_wp2_with fail
          go_meet
          exact ⟨wo.heap.size + 1, wo.heap.size, rfl, rfl, (two_new wo _ _ 55).2, (two_new wo _ _ 55).1, below_drewS (((Below.refl _ wo).al le_rfl' _).al le_rfl' _)⟩
      case rest =>
        obtain ⟨g, h, rfl, rfl, HG, HH, B6⟩ := hcut
        have hz6 := B6.size
        have g0 := cell_of' HG.out 0; have g1 := cell_of' HG.out 1; have g2 := cell_of' HG.out 2; have g3 := cell_of' HG.out 3; have g4 := cell_of' HG.out 4
        have h0 := cell_of' HH.out 0; have h1 := cell_of' HH.out 1; have h2 := cell_of' HH.out 2; have h3 := cell_of' HH.out 3; have h4 := cell_of' HH.out 4
        simp at g0 g1 g2 g3 g4 h0 h1 h2 h3 h4
        cases q4 : (unm.toList != vnm.toList)
        case true =>
          have q4a : (unm.toList == vnm.toList) = false := by rw [beq_eq_false_iff_ne]; exact bne_iff_ne.1 q4
          have q4b : ¬ unm.toList = vnm.toList := bne_iff_ne.1 q4
          go_wp2
          go_ret
          exact ⟨ret_bool (HX.out (by rw [HVD.out]; simp [q4])).symm, hbF.tr le_rfl' B6⟩
        have q4a : (unm.toList == vnm.toList) = true := by rw [beq_iff_eq]; exact (bne_eq_false_iff_eq.1 q4)
        cases q5 : (uty != vty)
        case true =>
          go_wp2
          go_ret
          exact ⟨ret_bool (HX.out (by rw [HVD.out]; simp [q4, q5])).symm, hbF.tr le_rfl' B6⟩
        cases q6 : (ulo != vlo)
        case true =>
          go_wp2
          go_ret
          exact ⟨ret_bool (HX.out (by rw [HVD.out]; simp [q4, q5, q6])).symm, hbF.tr le_rfl' B6⟩
        cases q7 : (uhi != vhi)
        case true =>
          go_wp2
          go_ret
          exact ⟨ret_bool (HX.out (by rw [HVD.out]; simp [q4, q5, q6, q7])).symm, hbF.tr le_rfl' B6⟩
        cases q8 : (uin != vin)
        case true =>
          go_wp2
          go_ret
          exact ⟨ret_bool (HX.out (by rw [HVD.out]; simp [q4, q5, q6, q7, q8])).symm, hbF.tr le_rfl' B6⟩
        go_wp2
        go_roundg (xvars.length - (j + 1))
        case measure => omega
        case rel => exact ⟨j + 1, by omega, rfl, by go_num, HY.out (by rw [HVD.out]; simp [q4, q5, q6, q7, q8]), hbw.tr (by simp) B6⟩
    · have hjd : decide ((j : Int) < (xvars.length : Int)) = false := by simp; omega
      have HR : Hid (res = all2 Me.same xmeths ymeths) := by
        show _ = _
        have e1 := HA.out
        have e2 := HLV.out
        rw [List.take_of_length_le (by omega), List.take_of_length_le (by omega)] at e1
        rw [HR.out, e1, Bool.true_and]
      go_wp2
      go_loopg [8] xmeths.length (fun k i wr => ∃ m : Nat, m ≤ xmeths.length ∧ k = xmeths.length - m ∧ i = .int .i64 m ∧ Hid (all2 Me.same (xmeths.take m) (ymeths.take m) = true) ∧ Below wo.heap.size wo wr)
      case atStart => exact ⟨0, by omega, by omega, rfl, by simp [Hid, all2], Below.refl _ _⟩
      case round =>
        obtain ⟨m, hm, rfl, rfl, HM, hbm⟩ := hrel
        have hzm := hbm.size
        have x2' : wr.cell? ⟨w.heap.size, 2, none⟩ = some (.slice xmad xmeths.length xmcap) := (hbm.cell (p := ⟨w.heap.size, 2, none⟩) (by show w.heap.size < _; omega)).trans x2
        have y2' : wr.cell? ⟨w.heap.size + 1, 2, none⟩ = some (.slice ymad ymeths.length ymcap) := (hbm.cell (p := ⟨w.heap.size + 1, 2, none⟩) (by show w.heap.size + 1 < _; omega)).trans y2
        have lw1 : w.heap.size < wr.heap.size := by omega
        have lw2 : w.heap.size + 1 < wr.heap.size := by omega
        by_cases hlt : m < xmeths.length
        · have hlt' : m < ymeths.length := by have := HLM.out; omega
          rcases hx5.2.2 with h | ⟨b, off, rfl, hbn, hrow⟩
          · subst h; simp at hlt
          rcases hy5.2.2 with h | ⟨b', off', rfl, hbn', hrow'⟩
          · subst h; simp at hlt'
          have hB3 : Below n₀ w wr := hb0.trans (hbm.mono (by omega))
          have hr := hrow.below hB3 hbn
          have hr' := hrow'.below hB3 hbn'
          have lb : b < wr.heap.size := by omega
          have lb' : b' < wr.heap.size := by omega
          have hI := (hx6 _ (List.getElem_mem hlt)).below hB3
          have hI' := (hy6 _ (List.getElem_mem hlt')).below hB3
          have HX : Hid (xmeths[m].same ymeths[m] = false → res = false) := fun h => by
            rw [HR.out, all2_cut Me.same xmeths ymeths m hlt hlt' h]
          have HY : Hid (xmeths[m].same ymeths[m] = true → all2 Me.same (xmeths.take (m + 1)) (ymeths.take (m + 1)) = true) := fun h => by
            rw [all2_snoc Me.same xmeths ymeths m hlt hlt', HM.out, h]; rfl
          rcases he : xmeths[m] with ⟨unm, ubl, ups⟩
          rcases he' : ymeths[m] with ⟨vnm, vbl, vps⟩
          rw [he] at hI HX HY
          rw [he'] at hI' HX HY
          have HVD : Hid (Me.same ⟨unm, ubl, ups⟩ ⟨vnm, vbl, vps⟩ = (!(unm.toList != vnm.toList) && ubl.same vbl)) := meSame_doc _ _
          have hq : ∀ W, Below wr.heap.size wr W → Calls Tryd.prog 23 #[ubl.slice, vbl.slice] W fun r w' => r = .returned (.bool (ubl.same vbl)) ∧ Below W.heap.size W w' := fun W hW => by
            have hzW := hW.size
            exact refSameStmts_any n₀ ubl vbl W (by omega) (hI.2.2.below (hW.mono (by omega))) (hI'.2.2.below (hW.mono (by omega)))
          obtain ⟨bs, hbs⟩ : ∃ bs, ubl.same vbl = bs := ⟨_, rfl⟩
          rw [hbs] at HVD
          simp only [hbs] at hq
          clear hbs hI hI'
          obtain ⟨c0, c1, c2⟩ := row3 hr m hlt (by rw [he]; rfl)
          obtain ⟨d0, d1, d2⟩ := row3 hr' m hlt' (by rw [he']; rfl)
          clear he he'
          rcases ubl with ⟨uad, ucap, ubody⟩
          rcases vbl with ⟨vad, vcap, vbody⟩
          simp only [Bl.slice] at hq c1 d1
          have hj0 : (0 : Int) ≤ (m : Int) := Int.natCast_nonneg _
          have hj1 : (m : Int) < (xmeths.length : Int) := by omega
          have hj2 : (m : Int) < (ymeths.length : Int) := by omega
          cases q4 : (unm.toList != vnm.toList)
          case true =>
            have q4a : (unm.toList == vnm.toList) = false := by rw [beq_eq_false_iff_ne]; exact bne_iff_ne.1 q4
            have q4b : ¬ unm.toList = vnm.toList := bne_iff_ne.1 q4
            go_wp2_with fail
            go_quiet (fail)
            go_wp2
            go_ret
            exact ⟨ret_bool (HX.out (by rw [HVD.out]; simp [q4])).symm, below_drewNS (hbF.tr le_rfl' hbm) _⟩
          have q4a : (unm.toList == vnm.toList) = true := by rw [beq_iff_eq]; exact (bne_eq_false_iff_eq.1 q4)
          have hkeep : ∀ W, Below wr.heap.size wr W → (W.cell? ⟨w.heap.size, 2, none⟩ = some (.slice (some ⟨b, off, none⟩) xmeths.length xmcap) ∧ W.cell? ⟨w.heap.size + 1, 2, none⟩ = some (.slice (some ⟨b', off', none⟩) ymeths.length ymcap) ∧ (W.cell? ⟨b, off + m * 3, none⟩ = some (.string unm) ∧ W.cell? ⟨b, off + m * 3 + 1, none⟩ = some (.slice uad ubody.length ucap)) ∧ (W.cell? ⟨b', off' + m * 3, none⟩ = some (.string vnm) ∧ W.cell? ⟨b', off' + m * 3 + 1, none⟩ = some (.slice vad vbody.length vcap))) := fun W hW =>
            ⟨(hW.cell (p := ⟨w.heap.size, 2, none⟩) lw1).trans x2', (hW.cell (p := ⟨w.heap.size + 1, 2, none⟩) lw2).trans y2', ⟨(hW.cell (p := ⟨b, off + m * 3, none⟩) lb).trans c0, (hW.cell (p := ⟨b, off + m * 3 + 1, none⟩) lb).trans c1⟩, ⟨(hW.cell (p := ⟨b', off' + m * 3, none⟩) lb').trans d0, (hW.cell (p := ⟨b', off' + m * 3 + 1, none⟩) lb').trans d1⟩⟩
          have HK := hid hkeep
          clear hkeep c0 c1 c2 d0 d1 d2
          have B := below_drewS (Below.refl wr.heap.size wr)
          cases bs
          · go_wp2_with fail
            go_region_held3 (fun W => W.cell? ⟨w.heap.size, 2, none⟩ = some (.slice (some ⟨b, off, none⟩) xmeths.length xmcap) ∧ W.cell? ⟨w.heap.size + 1, 2, none⟩ = some (.slice (some ⟨b', off', none⟩) ymeths.length ymcap) ∧ (W.cell? ⟨b, off + m * 3, none⟩ = some (.string unm) ∧ W.cell? ⟨b, off + m * 3 + 1, none⟩ = some (.slice uad ubody.length ucap)) ∧ (W.cell? ⟨b', off' + m * 3, none⟩ = some (.string vnm) ∧ W.cell? ⟨b', off' + m * 3 + 1, none⟩ = some (.slice vad vbody.length vcap))) (exact HK.out _ B)
              ((go_at_call 23; refine (hq _ B).mono ?_; rintro r u1 ⟨rfl, bb⟩; have B := B.tr le_rfl' bb))
            go_wp2
            go_ret
            exact ⟨ret_bool (HX.out (by rw [HVD.out]; simp)).symm, hbF.tr le_rfl' (hbm.tr le_rfl' B)⟩
          · go_wp2_with fail
            go_region_held3 (fun W => W.cell? ⟨w.heap.size, 2, none⟩ = some (.slice (some ⟨b, off, none⟩) xmeths.length xmcap) ∧ W.cell? ⟨w.heap.size + 1, 2, none⟩ = some (.slice (some ⟨b', off', none⟩) ymeths.length ymcap) ∧ (W.cell? ⟨b, off + m * 3, none⟩ = some (.string unm) ∧ W.cell? ⟨b, off + m * 3 + 1, none⟩ = some (.slice uad ubody.length ucap)) ∧ (W.cell? ⟨b', off' + m * 3, none⟩ = some (.string vnm) ∧ W.cell? ⟨b', off' + m * 3 + 1, none⟩ = some (.slice vad vbody.length vcap))) (exact HK.out _ B)
              ((go_at_call 23; refine (hq _ B).mono ?_; rintro r u1 ⟨rfl, bb⟩; have B := B.tr le_rfl' bb))
            go_wp2
            go_roundg (xmeths.length - (m + 1))
            case measure => omega
            case rel => exact ⟨m + 1, by omega, rfl, by go_num, HY.out (by rw [HVD.out]; simp [q4]), hbm.tr le_rfl' B⟩
        · have hmd : decide ((m : Int) < (xmeths.length : Int)) = false := by simp; omega
          go_wp2
          go_ret
          refine ⟨ret_bool ?_, hbF.tr le_rfl' hbm⟩
          have e1 := HM.out
          have e2 := HLM.out
          rw [List.take_of_length_le (by omega), List.take_of_length_le (by omega)] at e1
          rw [HR.out, e1]
end Go.Proofs.YtjgomkkmmhkpdaaDoor
