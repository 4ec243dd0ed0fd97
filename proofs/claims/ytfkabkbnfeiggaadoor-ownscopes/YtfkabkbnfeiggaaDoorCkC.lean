/-
  isRole, isMonitor, declares of package tree: whether a program is right in all but its statements.
-/
import Derived.Test.YtfkabkbnfeiggaaDoorCkB
namespace Go.Proofs.YtfkabkbnfeiggaaDoor
open Go.RowKit
theorem allL_snoc {α : Type} (f : α → Bool) (l : List α) (k : Nat) (h : k < l.length) : (l.take (k + 1)).all f = ((l.take k).all f && f l[k]) := by
  rw [List.take_succ_eq_append_getElem h, List.all_append]; simp
theorem allL_cut {α : Type} (f : α → Bool) (l : List α) (k : Nat) (h : k < l.length) (hf : f l[k] = false) : l.all f = false := by
  rw [List.all_eq_false]; exact ⟨l[k], List.getElem_mem h, by rw [hf]; simp⟩
theorem bcell' {n : Nat} {W w1 : World} (hb : Below n W w1) : (∀ b o, b < n → w1.cell? ⟨b, o, none⟩ = W.cell? ⟨b, o, none⟩) ∧ (∀ b o, b < n → w1.frozen? ⟨b, o, none⟩ = W.frozen? ⟨b, o, none⟩) :=
  ⟨fun b o h => hb.cell (p := ⟨b, o, none⟩) h, fun b o h => hb.frozen (p := ⟨b, o, none⟩) h⟩
/-- A role is one. -/
def Ro.ok (r : Ro) : Bool := Lx.name r.name && fitsNum r.count (!r.star)
/-- A monitor is one, but for its methods' bodies. -/
def Mo.ok (m : Mo) : Bool := Lx.name m.name && decide (m.vars.length ≤ 16) && decide (m.meths.length ≤ 16) && m.vars.all Va.ok && m.meths.all fun x => Lx.name x.name
/-- A program is one, but for its statements. -/
def Pr.decl (p : Pr) : Bool := decide (p.mons.length ≤ 8) && decide (p.roles.length ≤ 8) && p.mons.all Mo.ok && p.roles.all Ro.ok
set_option maxHeartbeats 1000000 in
theorem isRole_any (n₀ : Nat) (r : Ro) (w : World) (hr : r.Is n₀ w) :
    Calls Tryd.prog 66 #[r.val] w fun e w' => e = .returned (.bool r.ok) ∧ Below w.heap.size w w' := by
  have h1 := hr.1
  obtain ⟨res, hres⟩ : ∃ res, r.ok = res := ⟨_, rfl⟩
  rw [hres]
  have HS : Hid ((Lx.name r.name && fitsNum r.count (!r.star)) = res) := hres
  clear hres hr
  rcases r with ⟨name, star, count, ⟨ad, cap, body⟩, pos⟩
  simp only [Ro.val, Ro.cells, Bl.slice] at HS h1 ⊢
  cases hN : Lx.name name
  · go_enter Tryd.func66, Tryd.ntmps66
    go_wp2_with (go_at_call 81; refine (name_any _ _ h1).mono ?_; rintro e w' ⟨rfl, hw'⟩; have hw2 := hw'.symm; subst hw2)
    go_ret
    exact ⟨ret_bool (by rw [← HS.out, hN]; rfl), (Below.refl _ _).al le_rfl' _⟩
  · go_enter Tryd.func66, Tryd.ntmps66
    go_wp2_with (first | (go_at_call 81; refine (name_any _ _ h1).mono ?_; rintro e w' ⟨rfl, hw'⟩; have hw2 := hw'.symm; subst hw2) | (go_at_call 70; refine (fitsNum_any _ _ _).mono ?_; rintro e w' ⟨rfl, hw'⟩; have hw2 := hw'.symm; subst hw2))
    go_ret
    exact ⟨ret_bool (by rw [← HS.out, hN]; rfl), (Below.refl _ _).al le_rfl' _⟩
set_option maxRecDepth 100000 in
set_option maxHeartbeats 2000000 in
theorem isMonitor_any (n₀ : Nat) (m : Mo) (w : World) (hn : n₀ ≤ w.heap.size) (hm : m.Is n₀ w) :
    Calls Tryd.prog 65 #[m.val] w fun e w' => e = .returned (.bool m.ok) ∧ Below w.heap.size w w' := by
  obtain ⟨res, hres⟩ : ∃ res, m.ok = res := ⟨_, rfl⟩
  rw [hres]
  have HS : Hid ((Lx.name m.name && decide (m.vars.length ≤ 16) && decide (m.meths.length ≤ 16) && m.vars.all Va.ok && m.meths.all fun x => Lx.name x.name) = res) := hres
  clear hres
  rcases m with ⟨name, vad, vcap, vars, mad, mcap, meths, pos⟩
  obtain ⟨⟨h1, h2⟩, ⟨h3, h4⟩, h5, h6⟩ := hm
  simp only [Mo.val, Mo.cells] at HS h1 h2 h3 h4 h5 h6 ⊢
  have hl1 := h3.1; have hl2 := h3.2.1; have hl3 := h5.1; have hl4 := h5.2.1
  unfold maxLen at hl2 hl4
  cases hN : Lx.name name
  · go_enter Tryd.func65, Tryd.ntmps65
    go_wp2_with (go_at_call 81; refine (name_any _ _ h1).mono ?_; rintro e w' ⟨rfl, hw'⟩; have hw2 := hw'.symm; subst hw2)
    go_ret
    exact ⟨ret_bool (by rw [← HS.out, hN]; rfl), (Below.refl _ _).al le_rfl' _⟩
  by_cases hv : vars.length ≤ 16
  · by_cases hv2 : meths.length ≤ 16
    · rw [hN, decide_eq_true hv, decide_eq_true hv2, Bool.true_and, Bool.true_and, Bool.true_and] at HS
      go_enter Tryd.func65, Tryd.ntmps65
      go_wp2_with (go_at_call 81; refine (name_any _ _ h1).mono ?_; rintro e w' ⟨rfl, hw'⟩; have hw2 := hw'.symm; subst hw2)
      go_loopw [26] (fun i wr => ∃ k : Nat, k ≤ vars.length ∧ i = .int .i64 k ∧ Hid ((vars.take k).all Va.ok = true) ∧ Below (w.heap.size + 1) (w.alloc (.cells #[.string name, .slice vad vars.length vcap, .slice mad meths.length mcap, .int .i64 pos] 62)) wr) (fun i _ => vars.length - (intOf i).toNat)
      case atStart => exact ⟨0, by omega, rfl, rfl, Below.refl _ _⟩
      case round =>
        obtain ⟨k, hk, rfl, HA, hbw⟩ := hrel
        have hb0 : Below n₀ w wr := ((Below.refl n₀ w).al hn _).trans (hbw.mono (by omega))
        have hz := hbw.size
        simp at hz
        by_cases hlt : k < vars.length
        · rcases h3.2.2 with h | ⟨b, off, rfl, hbn, hrow⟩
          · subst h; simp at hlt
          have hbn1 : b < wr.heap.size := by omega
          have HSN := hid (allL_snoc Va.ok vars k hlt)
          have HC := hid (allL_cut Va.ok vars k hlt)
          have hq := isVar_any vars[k] (wr.alloc (.cells (vars[k]).cells.toArray 64)) (h4 _ (List.getElem_mem hlt))
          have hr := hrow.below hb0 hbn
          cases hf : Va.ok vars[k]
          · rw [hf] at hq
            have HF := hid hf
            clear hf
            rcases he : vars[k] with ⟨vname, vtype, vlo, vhi, vinit, vpos⟩
            obtain ⟨c0, c1, c2, c3, c4, c5⟩ := row6 hr k hlt (by rw [he]; rfl)
            simp only [he, Va.val, Va.cells] at hq
            clear he
            go_wp2_with (go_at_call 82; refine hq.mono ?_; rintro e w1 ⟨rfl, hb1⟩)
            go_ret
            exact ⟨ret_bool (by rw [← HS.out, HC.out HF.out]; rfl), ((((Below.refl _ w).al le_rfl' _).trans (hbw.mono (by omega))).al le_rfl' _).tr le_rfl' hb1⟩
          · rw [hf] at hq
            have HF := hid hf
            clear hf
            rcases he : vars[k] with ⟨vname, vtype, vlo, vhi, vinit, vpos⟩
            obtain ⟨c0, c1, c2, c3, c4, c5⟩ := row6 hr k hlt (by rw [he]; rfl)
            simp only [he, Va.val, Va.cells] at hq
            clear he
            go_wp2_with (go_at_call 82; refine hq.mono ?_; rintro e w1 ⟨rfl, hb1⟩)
            go_roundw
            case rel => exact ⟨k + 1, by omega, by go_num, by show _ = _; rw [HSN.out, HA.out, HF.out]; rfl, (hbw.al (by simp) _).tr (by simp) hb1⟩
            case measure => simp [intOf]; omega
        · have HVA : Hid (vars.all Va.ok = true) := by
            show _ = _
            have := HA.out
            rw [List.take_of_length_le (by omega)] at this
            exact this
          obtain ⟨hcc, hff⟩ := bcell' hbw
          go_wp2
          go_loopw [37] (fun i wr => ∃ k : Nat, k ≤ meths.length ∧ i = .int .i64 k ∧ Hid ((meths.take k).all (fun x => Lx.name x.name) = true) ∧ Below w.heap.size w wr) (fun i _ => meths.length - (intOf i).toNat)
          case atStart => exact ⟨0, by omega, rfl, rfl, ((Below.refl _ w).al le_rfl' _).trans (hbw.mono (by omega))⟩
          case round =>
            obtain ⟨k2, hk2, rfl, HA2, hbw2⟩ := hrel
            have hb2 := hbw2.mono hn
            have hz2 := hbw2.size
            by_cases hlt2 : k2 < meths.length
            · rcases h5.2.2 with h | ⟨b, off, rfl, hbn, hrow⟩
              · subst h; simp at hlt2
              have hbn1 : b < wr.heap.size := by omega
              have HSN := hid (allL_snoc (fun x : Me => Lx.name x.name) meths k2 hlt2)
              have HC := hid (allL_cut (fun x : Me => Lx.name x.name) meths k2 hlt2)
              have hr := hrow.below hb2 hbn
              have hMI := h6 _ (List.getElem_mem hlt2)
              cases hf : Lx.name (meths[k2]).name
              · rcases he : meths[k2] with ⟨mname, ⟨bad, bcap, bbody⟩, mpos⟩
                obtain ⟨c0, c1, c2⟩ := row3 hr k2 hlt2 (by rw [he]; rfl)
                simp only [Bl.slice] at c1
                have HF := hid hf
                rw [he] at hf
                simp only at hf
                rw [he] at hMI
                have hLm := hMI.1
                clear he
                go_wp2_with (go_at_call 81; refine (name_any _ _ hLm).mono ?_; rintro e w' ⟨rfl, hw'⟩; have hw2 := hw'.symm; subst hw2)
                go_ret
                exact ⟨ret_bool (by rw [← HS.out, HVA.out, HC.out HF.out]; rfl), hbw2.al le_rfl' _⟩
              · rcases he : meths[k2] with ⟨mname, ⟨bad, bcap, bbody⟩, mpos⟩
                obtain ⟨c0, c1, c2⟩ := row3 hr k2 hlt2 (by rw [he]; rfl)
                simp only [Bl.slice] at c1
                have HF := hid hf
                rw [he] at hf
                simp only at hf
                rw [he] at hMI
                have hLm := hMI.1
                clear he
                go_wp2_with (go_at_call 81; refine (name_any _ _ hLm).mono ?_; rintro e w' ⟨rfl, hw'⟩; have hw2 := hw'.symm; subst hw2)
                go_roundw
                case rel => exact ⟨k2 + 1, by omega, by go_num, by show _ = _; rw [HSN.out, HA2.out, HF.out]; rfl, hbw2.al le_rfl' _⟩
                case measure => simp [intOf]; omega
            · go_wp2
              go_ret
              refine ⟨ret_bool ?_, hbw2⟩
              have := HA2.out
              rw [List.take_of_length_le (by omega)] at this
              rw [← HS.out, HVA.out, this]; rfl
    · rw [decide_eq_false hv2, Bool.and_false, Bool.false_and, Bool.false_and] at HS
      go_enter Tryd.func65, Tryd.ntmps65
      go_wp2_with (go_at_call 81; refine (name_any _ _ h1).mono ?_; rintro e w' ⟨rfl, hw'⟩; have hw2 := hw'.symm; subst hw2)
      go_ret
      exact ⟨ret_bool HS.out, (Below.refl _ _).al le_rfl' _⟩
  · rw [decide_eq_false hv, Bool.and_false, Bool.false_and, Bool.false_and, Bool.false_and] at HS
    go_enter Tryd.func65, Tryd.ntmps65
    go_wp2_with (go_at_call 81; refine (name_any _ _ h1).mono ?_; rintro e w' ⟨rfl, hw'⟩; have hw2 := hw'.symm; subst hw2)
    go_ret
    exact ⟨ret_bool HS.out, (Below.refl _ _).al le_rfl' _⟩
end Go.Proofs.YtfkabkbnfeiggaaDoor
