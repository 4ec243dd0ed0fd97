/-
  declares, fitsExpr, isStmt of package tree: the shapes of declarations and of statements.
-/
import Derived.Test.YtfkabkbnfeiggaaDoorCkC
namespace Go.Proofs.YtfkabkbnfeiggaaDoor
open Go.RowKit
set_option maxRecDepth 100000 in
set_option maxHeartbeats 2000000 in
theorem declares_any (n₀ : Nat) (p : Pr) (w : World) (hn : n₀ ≤ w.heap.size) (hp : p.Is n₀ w) :
    Calls Tryd.prog 46 #[p.val] w fun e w' => e = .returned (.bool p.decl) ∧ Below w.heap.size w w' := by
  obtain ⟨res, hres⟩ : ∃ res, p.decl = res := ⟨_, rfl⟩
  rw [hres]
  have HS : Hid ((decide (p.mons.length ≤ 8) && decide (p.roles.length ≤ 8) && p.mons.all Mo.ok && p.roles.all Ro.ok) = res) := hres
  clear hres
  rcases p with ⟨mad, mcap, mons, rad, rcap, roles⟩
  obtain ⟨⟨h3, h4⟩, h5, h6⟩ := hp
  simp only [Pr.val] at HS h3 h4 h5 h6 ⊢
  have hl1 := h3.1; have hl2 := h3.2.1; have hl3 := h5.1; have hl4 := h5.2.1
  unfold maxLen at hl2 hl4
  by_cases hv : mons.length ≤ 8
  · by_cases hv2 : roles.length ≤ 8
    · rw [decide_eq_true hv, decide_eq_true hv2, Bool.true_and, Bool.true_and] at HS
      go_enter Tryd.func46, Tryd.ntmps46
      go_wp2
      go_loopw [20] (fun i wr => ∃ k : Nat, k ≤ mons.length ∧ i = .int .i64 k ∧ Hid ((mons.take k).all Mo.ok = true) ∧ Below (w.heap.size + 1) (w.alloc (.cells #[.slice mad mons.length mcap, .slice rad roles.length rcap] 45)) wr) (fun i _ => mons.length - (intOf i).toNat)
      case atStart => exact ⟨0, by omega, rfl, rfl, Below.refl _ _⟩
      case round =>
        obtain ⟨k, hk, rfl, HA, hbw⟩ := hrel
        have hb0 : Below n₀ w wr := ((Below.refl n₀ w).al hn _).trans (hbw.mono (by omega))
        have hz := hbw.size
        simp at hz
        by_cases hlt : k < mons.length
        · rcases h3.2.2 with h | ⟨b, off, rfl, hbn, hrow⟩
          · subst h; simp at hlt
          have hbn1 : b < wr.heap.size := by omega
          have HSN := hid (allL_snoc Mo.ok mons k hlt)
          have HC := hid (allL_cut Mo.ok mons k hlt)
          have hq := isMonitor_any n₀ mons[k] (wr.alloc (.cells (mons[k]).cells.toArray 62)) (by simp; omega) ((h4 _ (List.getElem_mem hlt)).below (hb0.al hn _))
          have hr := hrow.below hb0 hbn
          cases hf : Mo.ok mons[k]
          · rw [hf] at hq
            have HF := hid hf
            clear hf
            rcases he : mons[k] with ⟨vname, vvad, vvcap, vvars, vmad, vmcap, vmeths, vpos⟩
            obtain ⟨c0, c1, c2, c3⟩ := row4 hr k hlt (by rw [he]; rfl)
            simp only [he, Mo.val, Mo.cells] at hq
            clear he
            go_wp2_with (go_at_call 65; refine hq.mono ?_; rintro e w1 ⟨rfl, hb1⟩)
            go_ret
            exact ⟨ret_bool (by rw [← HS.out, HC.out HF.out]; rfl), ((((Below.refl _ w).al le_rfl' _).trans (hbw.mono (by omega))).al le_rfl' _).tr le_rfl' hb1⟩
          · rw [hf] at hq
            have HF := hid hf
            clear hf
            rcases he : mons[k] with ⟨vname, vvad, vvcap, vvars, vmad, vmcap, vmeths, vpos⟩
            obtain ⟨c0, c1, c2, c3⟩ := row4 hr k hlt (by rw [he]; rfl)
            simp only [he, Mo.val, Mo.cells] at hq
            clear he
            go_wp2_with (go_at_call 65; refine hq.mono ?_; rintro e w1 ⟨rfl, hb1⟩)
            go_roundw
            case rel => exact ⟨k + 1, by omega, by go_num, by show _ = _; rw [HSN.out, HA.out, HF.out]; rfl, (hbw.al (by simp) _).tr (by simp) hb1⟩
            case measure => simp [intOf]; omega
        · have HVA : Hid (mons.all Mo.ok = true) := by
            show _ = _
            have := HA.out
            rw [List.take_of_length_le (by omega)] at this
            exact this
          obtain ⟨hcc, hff⟩ := bcell' hbw
          go_wp2
          go_loopw [31] (fun i wr => ∃ k : Nat, k ≤ roles.length ∧ i = .int .i64 k ∧ Hid ((roles.take k).all Ro.ok = true) ∧ Below w.heap.size w wr) (fun i _ => roles.length - (intOf i).toNat)
          case atStart => exact ⟨0, by omega, rfl, rfl, ((Below.refl _ w).al le_rfl' _).trans (hbw.mono (by omega))⟩
          case round =>
            obtain ⟨k2, hk2, rfl, HA2, hbw2⟩ := hrel
            have hb2 := hbw2.mono hn
            have hz2 := hbw2.size
            by_cases hlt2 : k2 < roles.length
            · rcases h5.2.2 with h | ⟨b, off, rfl, hbn, hrow⟩
              · subst h; simp at hlt2
              have hbn1 : b < wr.heap.size := by omega
              have HSN := hid (allL_snoc Ro.ok roles k2 hlt2)
              have HC := hid (allL_cut Ro.ok roles k2 hlt2)
              have hr := hrow.below hb2 hbn
              have hq := isRole_any n₀ roles[k2] (wr.alloc (.cells (roles[k2]).cells.toArray 51)) ((h6 _ (List.getElem_mem hlt2)).below (hb2.al hn _))
              cases hf : Ro.ok roles[k2]
              · rw [hf] at hq
                have HF := hid hf
                clear hf
                rcases he : roles[k2] with ⟨mname, mstar, mcount, ⟨bad, bcap, bbody⟩, mpos⟩
                obtain ⟨c0, c1, c2, c3, c4⟩ := row5 hr k2 hlt2 (by rw [he]; rfl)
                simp only [he, Ro.val, Ro.cells, Bl.slice] at hq c3
                clear he
                go_wp2_with (go_at_call 66; refine hq.mono ?_; rintro e w1 ⟨rfl, hb1⟩)
                go_ret
                exact ⟨ret_bool (by rw [← HS.out, HVA.out, HC.out HF.out]; rfl), (hbw2.al le_rfl' _).tr le_rfl' hb1⟩
              · rw [hf] at hq
                have HF := hid hf
                clear hf
                rcases he : roles[k2] with ⟨mname, mstar, mcount, ⟨bad, bcap, bbody⟩, mpos⟩
                obtain ⟨c0, c1, c2, c3, c4⟩ := row5 hr k2 hlt2 (by rw [he]; rfl)
                simp only [he, Ro.val, Ro.cells, Bl.slice] at hq c3
                clear he
                go_wp2_with (go_at_call 66; refine hq.mono ?_; rintro e w1 ⟨rfl, hb1⟩)
                go_roundw
                case rel => exact ⟨k2 + 1, by omega, by go_num, by show _ = _; rw [HSN.out, HA2.out, HF.out]; rfl, (hbw2.al le_rfl' _).tr le_rfl' hb1⟩
                case measure => simp [intOf]; omega
            · go_wp2
              go_ret
              refine ⟨ret_bool ?_, hbw2⟩
              have := HA2.out
              rw [List.take_of_length_le (by omega)] at this
              rw [← HS.out, HVA.out, this]; rfl
    · rw [decide_eq_false hv2, Bool.and_false, Bool.false_and, Bool.false_and] at HS
      go_enter Tryd.func46, Tryd.ntmps46
      go_wp2
      go_ret
      exact ⟨ret_bool HS.out, (Below.refl _ _).al le_rfl' _⟩
  · rw [decide_eq_false hv, Bool.false_and, Bool.false_and, Bool.false_and] at HS
    go_enter Tryd.func46, Tryd.ntmps46
    go_wp2
    go_ret
    exact ⟨ret_bool HS.out, (Below.refl _ _).al le_rfl' _⟩
/-- An expression is none. -/
def Ex.none (e : Ex) : Bool := e.same (.mk 0 ⟨#[]⟩ ⟨#[]⟩ 0 Option.none 0 [] 0)
def fitsEx (e : Ex) (b : Bool) : Bool := if b then e.ok else e.none
set_option maxHeartbeats 1000000 in
theorem fitsExpr_any (n₀ : Nat) (e : Ex) (b : Bool) (w : World) (hn : n₀ ≤ w.heap.size) (he : e.Is n₀ w) (hS : Shapes w) :
    Calls Tryd.prog 71 #[e.val, .bool b] w fun r w' => r = .returned (.bool (fitsEx e b)) ∧ Below w.heap.size w w' := by
  have hC := checkExpr_any e n₀ (w.alloc (.cells e.cells.toArray 37)) (by simp; omega) (he.below ((Below.refl _ _).al hn _)) (hS.below ((Below.refl w.heap.size w).al le_rfl' _) hS.size)
  have hD := isNone_any n₀ e (w.alloc (.cells e.cells.toArray 37)) (by simp; omega) (he.below ((Below.refl _ _).al hn _))
  cases b
  · obtain ⟨res, hres⟩ : ∃ res, fitsEx e false = res := ⟨_, rfl⟩
    rw [hres]
    have hr : e.same (.mk 0 ⟨#[]⟩ ⟨#[]⟩ 0 Option.none 0 [] 0) = res := hres
    rw [hr] at hD
    clear hr hres he hC
    rcases e with ⟨op, mon, name, n, ad, cap, kids, pos⟩
    simp only [Ex.val, Ex.cells] at hD ⊢
    go_enter Tryd.func71, Tryd.ntmps71
    go_wp2_with (go_at_call 84; refine hD.mono ?_; rintro e w' ⟨rfl, hb1⟩)
    go_ret
    exact ⟨rfl, ((Below.refl _ _).al le_rfl' _).tr le_rfl' hb1⟩
  · obtain ⟨res, hres⟩ : ∃ res, fitsEx e true = res := ⟨_, rfl⟩
    rw [hres]
    have hr : e.ok = res := hres
    rw [hr] at hC
    clear hr hres he hD
    rcases e with ⟨op, mon, name, n, ad, cap, kids, pos⟩
    simp only [Ex.val, Ex.cells] at hC ⊢
    cases res
    · go_enter Tryd.func71, Tryd.ntmps71
      go_wp2_with (go_at_call 83; refine hC.mono ?_; rintro e w' ⟨rfl, hb1⟩)
      go_ret
      exact ⟨rfl, ((Below.refl _ _).al le_rfl' _).tr le_rfl' hb1⟩
    · go_enter Tryd.func71, Tryd.ntmps71
      go_wp2_with (go_at_call 83; refine hC.mono ?_; rintro e w' ⟨rfl, hb1⟩)
      go_ret
      exact ⟨rfl, ((Below.refl _ _).al le_rfl' _).tr le_rfl' hb1⟩
/-- A statement has the shape of its kind, whatever is in its blocks. -/
def St.ok1 : St → Bool
  | .mk kind mon name n e _ _ blocks _ => decide (1 ≤ kind) && decide (kind ≤ 11) && (fitsName mon (stMon kind.toNat) && fitsName name (stName kind.toNat) && fitsNum n (stNumber kind.toNat) && fitsEx e (stExpr kind.toNat) && decide (stLeast kind.toNat ≤ blocks.length) && decide (blocks.length ≤ stMost kind.toNat))
set_option maxRecDepth 100000 in
set_option maxHeartbeats 2000000 in
theorem isStmt_any (n₀ : Nat) (s : St) (w : World) (hn2 : 3 ≤ n₀) (hn : n₀ ≤ w.heap.size) (hI : s.Is n₀ w) (hS : Shapes w) :
    Calls Tryd.prog 48 #[s.val] w fun r w' => r = .returned (.bool s.ok1) ∧ Below w.heap.size w w' := by
  rcases s with ⟨kind, mon, name, n, e, ad, cap, blocks, pos⟩
  obtain ⟨⟨h1, h2, h3, h4, h5⟩, h6, h7, _⟩ := hI.down
  unfold I64 at h1 h2 h3
  have hl1 := h7.1; have hl2 := h7.2.1
  unfold maxLen at hl2
  obtain ⟨res, hres⟩ : ∃ res, (St.mk kind mon name n e ad cap blocks pos).ok1 = res := ⟨_, rfl⟩
  rw [hres]
  have HR : Hid ((decide (1 ≤ kind) && decide (kind ≤ 11) && (fitsName mon (stMon kind.toNat) && fitsName name (stName kind.toNat) && fitsNum n (stNumber kind.toNat) && fitsEx e (stExpr kind.toNat) && decide (stLeast kind.toNat ≤ blocks.length) && decide (blocks.length ≤ stMost kind.toNat))) = res) := hres
  clear hres
  have hE : ∀ b W, Below n₀ w W → Calls Tryd.prog 71 #[e.val, .bool b] W fun r w' => r = .returned (.bool (fitsEx e b)) ∧ Below W.heap.size W w' := fun b W hW => fitsExpr_any n₀ e b W (by have := hW.size; omega) (h6.below hW) (hS.below hW hn2)
  clear h6 h7 hI
  by_cases ho1 : 1 ≤ kind
  · by_cases ho2 : kind ≤ 11
    · obtain ⟨k, rfl⟩ : ∃ k : Nat, kind = (k : Int) := ⟨kind.toNat, by omega⟩
      have hk1 : 1 ≤ k := by omega
      have hk2 : k < 12 := by omega
      obtain ⟨s0, s1, s2, s3, s4, s5⟩ := hS.st k hk2
      have hsz : 0 < w.heap.size := by have := hS.size; omega
      have HR2 : Hid ((fitsName mon (stMon k) && fitsName name (stName k) && fitsNum n (stNumber k) && fitsEx e (stExpr k) && decide (stLeast k ≤ blocks.length) && decide (blocks.length ≤ stMost k)) = res) := by
        show _ = _
        rw [← HR.out, decide_eq_true ho1, decide_eq_true ho2, Int.toNat_natCast, Bool.true_and, Bool.true_and]
      clear HR ho1 ho2
      have hE := hE (stExpr k)
      obtain ⟨fe, hfe⟩ : ∃ fe, fitsEx e (stExpr k) = fe := ⟨_, rfl⟩
      rw [hfe] at hE HR2
      clear hfe
      rcases e with ⟨eop, emon, ename, en, ead, ecap, ekids, epos⟩
      simp only [St.val, St.cells, Ex.val, Ex.cells, List.cons_append, List.nil_append] at hE ⊢
      cases q1 : fitsName mon (stMon k)
      · go_enter Tryd.func48, Tryd.ntmps48
        go_wp2_with (first | (go_at_call 69; refine (fitsName_any _ _ _ ‹_›).mono ?_; rintro e w' ⟨rfl, hw'⟩; have hw2 := hw'.symm; subst hw2) | (go_at_call 70; refine (fitsNum_any _ _ _).mono ?_; rintro e w' ⟨rfl, hw'⟩; have hw2 := hw'.symm; subst hw2))
        go_ret
        exact ⟨ret_bool (by rw [← HR2.out, q1]; rfl), ((Below.refl _ _).al le_rfl' _).al le_rfl' _⟩
      cases q2 : fitsName name (stName k)
      · go_enter Tryd.func48, Tryd.ntmps48
        go_wp2_with (first | (go_at_call 69; refine (fitsName_any _ _ _ ‹_›).mono ?_; rintro e w' ⟨rfl, hw'⟩; have hw2 := hw'.symm; subst hw2) | (go_at_call 70; refine (fitsNum_any _ _ _).mono ?_; rintro e w' ⟨rfl, hw'⟩; have hw2 := hw'.symm; subst hw2))
        go_ret
        exact ⟨ret_bool (by rw [← HR2.out, q1, q2]; rfl), ((Below.refl _ _).al le_rfl' _).al le_rfl' _⟩
      cases q3 : fitsNum n (stNumber k)
      · go_enter Tryd.func48, Tryd.ntmps48
        go_wp2_with (first | (go_at_call 69; refine (fitsName_any _ _ _ ‹_›).mono ?_; rintro e w' ⟨rfl, hw'⟩; have hw2 := hw'.symm; subst hw2) | (go_at_call 70; refine (fitsNum_any _ _ _).mono ?_; rintro e w' ⟨rfl, hw'⟩; have hw2 := hw'.symm; subst hw2))
        go_ret
        exact ⟨ret_bool (by rw [← HR2.out, q1, q2, q3]; rfl), ((Below.refl _ _).al le_rfl' _).al le_rfl' _⟩
      cases fe
      · go_enter Tryd.func48, Tryd.ntmps48
        go_wp2_with (first | (go_at_call 69; refine (fitsName_any _ _ _ ‹_›).mono ?_; rintro e w' ⟨rfl, hw'⟩; have hw2 := hw'.symm; subst hw2) | (go_at_call 70; refine (fitsNum_any _ _ _).mono ?_; rintro e w' ⟨rfl, hw'⟩; have hw2 := hw'.symm; subst hw2) | (go_at_call 71; refine (hE _ (((Below.refl n₀ w).al hn _).al hn _)).mono ?_; rintro e w1 ⟨rfl, hb1⟩; obtain ⟨hcc, hff⟩ := bcell hb1))
        go_ret
        exact ⟨ret_bool (by rw [← HR2.out, q1, q2, q3]; rfl), (((Below.refl _ _).al le_rfl' _).al le_rfl' _).tr le_rfl' hb1⟩
      by_cases q5 : stLeast k ≤ blocks.length
      · by_cases q6 : blocks.length ≤ stMost k
        · go_enter Tryd.func48, Tryd.ntmps48
          go_wp2_with (first | (go_at_call 69; refine (fitsName_any _ _ _ ‹_›).mono ?_; rintro e w' ⟨rfl, hw'⟩; have hw2 := hw'.symm; subst hw2) | (go_at_call 70; refine (fitsNum_any _ _ _).mono ?_; rintro e w' ⟨rfl, hw'⟩; have hw2 := hw'.symm; subst hw2) | (go_at_call 71; refine (hE _ (((Below.refl n₀ w).al hn _).al hn _)).mono ?_; rintro e w1 ⟨rfl, hb1⟩; obtain ⟨hcc, hff⟩ := bcell hb1))
          go_ret
          exact ⟨ret_bool (by rw [← HR2.out, q1, q2, q3, decide_eq_true q5, decide_eq_true q6]; rfl), (((Below.refl _ _).al le_rfl' _).al le_rfl' _).tr le_rfl' hb1⟩
        · go_enter Tryd.func48, Tryd.ntmps48
          go_wp2_with (first | (go_at_call 69; refine (fitsName_any _ _ _ ‹_›).mono ?_; rintro e w' ⟨rfl, hw'⟩; have hw2 := hw'.symm; subst hw2) | (go_at_call 70; refine (fitsNum_any _ _ _).mono ?_; rintro e w' ⟨rfl, hw'⟩; have hw2 := hw'.symm; subst hw2) | (go_at_call 71; refine (hE _ (((Below.refl n₀ w).al hn _).al hn _)).mono ?_; rintro e w1 ⟨rfl, hb1⟩; obtain ⟨hcc, hff⟩ := bcell hb1))
          go_ret
          exact ⟨ret_bool (by rw [← HR2.out, q1, q2, q3, decide_eq_true q5, decide_eq_false q6]; rfl), (((Below.refl _ _).al le_rfl' _).al le_rfl' _).tr le_rfl' hb1⟩
      · go_enter Tryd.func48, Tryd.ntmps48
        go_wp2_with (first | (go_at_call 69; refine (fitsName_any _ _ _ ‹_›).mono ?_; rintro e w' ⟨rfl, hw'⟩; have hw2 := hw'.symm; subst hw2) | (go_at_call 70; refine (fitsNum_any _ _ _).mono ?_; rintro e w' ⟨rfl, hw'⟩; have hw2 := hw'.symm; subst hw2) | (go_at_call 71; refine (hE _ (((Below.refl n₀ w).al hn _).al hn _)).mono ?_; rintro e w1 ⟨rfl, hb1⟩; obtain ⟨hcc, hff⟩ := bcell hb1))
        go_ret
        exact ⟨ret_bool (by rw [← HR2.out, q1, q2, q3, decide_eq_false q5]; rfl), (((Below.refl _ _).al le_rfl' _).al le_rfl' _).tr le_rfl' hb1⟩
    · rw [decide_eq_false ho2, Bool.and_false, Bool.false_and] at HR
      rcases e with ⟨eop, emon, ename, en, ead, ecap, ekids, epos⟩
      simp only [St.val, St.cells, Ex.cells, List.cons_append, List.nil_append]
      go_enter Tryd.func48, Tryd.ntmps48
      go_wp2
      go_ret
      exact ⟨ret_bool HR.out, (Below.refl _ _).al le_rfl' _⟩
  · rw [decide_eq_false ho1, Bool.false_and, Bool.false_and] at HR
    rcases e with ⟨eop, emon, ename, en, ead, ecap, ekids, epos⟩
    simp only [St.val, St.cells, Ex.cells, List.cons_append, List.nil_append]
    go_enter Tryd.func48, Tryd.ntmps48
    go_wp2
    go_ret
    exact ⟨ret_bool HR.out, (Below.refl _ _).al le_rfl' _⟩
end Go.Proofs.YtfkabkbnfeiggaaDoor
