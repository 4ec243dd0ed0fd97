/-
  typeOf and Type of package types: what an expression is, or the first error in it, and where.
-/
import Derived.Test.YtopiceoofdlkbaaDoorTyV
namespace Go.Proofs.YtopiceoofdlkbaaDoor
open Go.RowKit
theorem ok_kids {op : Int} {mon name : ByteArray} {n : Int} {ad : Option Addr} {cap : Nat} {kids : List Ex} {pos : Int} (h : (Ex.mk op mon name n ad cap kids pos).ok = true) : (Ex.mk op mon name n ad cap kids pos).ok1 = true ∧ ∀ x ∈ kids, x.ok = true := by
  rw [Ex.ok, Ex.subs_mk, List.all_cons, Bool.and_eq_true, Ex.subsL_eq, List.all_flatMap] at h
  exact ⟨h.1, fun x hx => List.all_eq_true.1 h.2 x hx⟩
theorem ok1_parts {op : Int} {mon name : ByteArray} {n : Int} {ad : Option Addr} {cap : Nat} {kids : List Ex} {pos : Int} (h : (Ex.mk op mon name n ad cap kids pos).ok1 = true) : 1 ≤ op ∧ op ≤ 17 ∧ kids.length = exKids op.toNat := by
  simp only [Ex.ok1, Bool.and_eq_true, decide_eq_true_eq, beq_iff_eq] at h
  omega
theorem ruIs_op (k : Nat) (h1 : 1 ≤ k) (h4 : k ≠ 4) : ruIs k = opIs (k : Int) := by
  unfold ruIs opIs
  split
  · omega
  · split
    · rw [if_pos (by omega)]
    · rw [if_neg (by omega)]
theorem isOf_ru (l : List Mo) (k : Nat) (mon name : ByteArray) (n : Int) (ad : Option Addr) (cap : Nat) (kids : List Ex) (pos : Int) (h1 : 1 ≤ k) (h4 : k ≠ 4) : Ex.is l (.mk (k : Int) mon name n ad cap kids pos) = ruIs k := by
  rw [Ex.is, if_neg (by omega), ruIs_op k h1 h4]
/-- What is wanted: what the rule tells, or what the first part is. -/
theorem want_rule (l : List Mo) (k : Nat) (kids : List Ex) (h1 : 1 ≤ k) (h2 : k < 18) (hk : kids.length = exKids k) (hr : ruParts k ≠ -1) : misfit l (wantOf l (k : Int) kids) kids = misfit l (ruParts k) kids := by
  by_cases h5 : k < 5
  · have : kids = [] := by
      apply List.eq_nil_of_length_eq_zero
      rw [hk, exKids, if_pos h5]
    subst this
    rfl
  · have hw : wantOf l (k : Int) kids = ruParts k := by
      unfold ruParts at hr ⊢
      unfold wantOf opWant
      rw [if_neg h5] at hr ⊢
      by_cases h6 : k = 5 ∨ 16 ≤ k
      · rw [if_pos h6] at hr ⊢
        have h7 : (k : Int) = 5 ∨ (k : Int) = 16 ∨ (k : Int) = 17 := by omega
        rw [if_pos h7]; rfl
      · rw [if_neg h6] at hr ⊢
        have h7 : ¬ ((k : Int) = 5 ∨ (k : Int) = 16 ∨ (k : Int) = 17) := by omega
        rw [if_neg h7]
        by_cases h8 : k = 10 ∨ k = 11
        · rw [if_pos h8] at hr
          exact absurd rfl hr
        · rw [if_neg h8] at hr ⊢
          have h9 : ¬ ((k : Int) = 10 ∨ (k : Int) = 11) := by omega
          rw [if_neg h9]; rfl
    rw [hw]
theorem want_alike (l : List Mo) (k : Nat) (kids : List Ex) (h2 : k < 18) (hk : kids.length = exKids k) (hr : ruParts k = -1) : ∃ h : 0 < kids.length, wantOf l (k : Int) kids = kids[0].is l := by
  have h10 : k = 10 ∨ k = 11 := by
    unfold ruParts at hr
    split at hr
    · omega
    · split at hr
      · omega
      · split at hr
        · assumption
        · omega
  have h2k : kids.length = 2 := by rw [hk]; rcases h10 with rfl | rfl <;> rfl
  refine ⟨by omega, ?_⟩
  unfold wantOf opWant
  have h7 : ¬ ((k : Int) = 5 ∨ (k : Int) = 16 ∨ (k : Int) = 17) := by omega
  have h9 : (k : Int) = 10 ∨ (k : Int) = 11 := by omega
  rw [if_neg h7, if_pos h9, if_pos rfl]
  cases kids with
  | nil => simp at h2k
  | cons a r => rfl
set_option maxRecDepth 100000 in
set_option maxHeartbeats 16000000 in
theorem typeOf_any (p : Pr) (hvs : vsum p.mons ≤ 1000000) (e : Ex) : ∀ (n₀ : Nat) (w : World), n₀ ≤ w.heap.size → p.Is n₀ w → e.Is n₀ w → Shapes w → e.ok = true →
    Calls Tryd.prog 36 #[p.val, e.val] w fun r w' => TyBack (e.is p.mons) (e.ter p.mons) w w' r := by
  induction e using Ex.ind with
  | h op mon name n ad cap kids pos ih =>
  intro n₀ w hn hp hI hS hok
  have HU := hid (Ex.ter_mk p.mons op mon name n ad cap kids pos)
  obtain ⟨hok1, hokk⟩ := ok_kids hok
  obtain ⟨ho1, ho2, hkl⟩ := ok1_parts hok1
  have HKL := hid hkl
  clear hok hok1
  have hs3 := hS.size
  have hsl := hI.down.2.1
  have hIk := hI.down.2.2
  have hl1 := hsl.1; have hl2 := hsl.2.1
  unfold maxLen at hl2
  have hk2l : kids.length ≤ 2 := by
    rw [hkl, exKids]
    split
    · omega
    · split <;> omega
  clear hkl
  have h35 : ∀ W, Below w.heap.size w W → Calls Tryd.prog 53 #[p.val, .string mon, .string name] W fun r w' => VarBack (varTy p.mons mon name) W w' r := fun W hW => variable_any p mon name n₀ W (by have := hW.size; omega) (hp.below (hW.mono hn)) hvs
  have h21 : ∀ x ∈ kids, ∀ W, Below w.heap.size w W → Calls Tryd.prog 36 #[p.val, x.val] W fun r w' => TyBack (x.is p.mons) (x.ter p.mons) W w' r := fun x hx W hW => ih x hx n₀ W (by have := hW.size; omega) (hp.below (hW.mono hn)) ((hIk x hx).below (hW.mono hn)) (hS.below hW hs3) (hokk x hx)
  clear ih hIk hokk hI
  obtain ⟨pad, hpad⟩ : ∃ a, p.mad = a := ⟨_, rfl⟩
  obtain ⟨pml, hpml⟩ : ∃ a, p.mons.length = a := ⟨_, rfl⟩
  obtain ⟨pmc, hpmc⟩ : ∃ a, p.mcap = a := ⟨_, rfl⟩
  obtain ⟨prd, hprd⟩ : ∃ a, p.rad = a := ⟨_, rfl⟩
  obtain ⟨prl, hprl⟩ : ∃ a, p.roles.length = a := ⟨_, rfl⟩
  obtain ⟨prc, hprc⟩ : ∃ a, p.rcap = a := ⟨_, rfl⟩
  simp only [Pr.val, Ex.val, hpad, hpml, hpmc, hprd, hprl, hprc] at h35 h21 ⊢
  clear hpad hpml hpmc hprd hprl hprc hp
  simp only [Ex.cells] at ⊢
  go_enter Tryd.func36, Tryd.ntmps36
  go_upto_region 1 with fail
  obtain ⟨bP, bE, hB, hz⟩ := two_box w #[.slice pad pml pmc, .slice prd prl prc] #[.int .i64 op, .string mon, .string name, .int .i64 n, .slice ad kids.length cap, .int .i64 pos] 25 28
  obtain ⟨W0, hW0⟩ : ∃ W0, (w.alloc (.cells #[.slice pad pml pmc, .slice prd prl prc] 25)).alloc (.cells #[.int .i64 op, .string mon, .string name, .int .i64 n, .slice ad kids.length cap, .int .i64 pos] 28) = W0 := ⟨_, rfl⟩
  rw [hW0] at bP bE hB hz ⊢
  clear hW0
  have r0 := cellOf bP 0
  have r1 := cellOf bP 1
  have s0 := cellOf bE 0
  have s1 := cellOf bE 1
  have s2 := cellOf bE 2
  have s4 := cellOf bE 4
  have s5 := cellOf bE 5
  simp at r0 r1 s0 s1 s2 s4 s5
  have HZ := hid hz
  clear hz bP bE
  by_cases h4 : op = 4
  · subst h4
    have HU2 := hid (HU.out.trans (if_pos rfl))
    have HIS : Hid (Ex.is p.mons (.mk 4 mon name n ad cap kids pos) = (varTy p.mons mon name).getD 0) := by show _ = _; rw [Ex.is, if_pos rfl]
    clear HU h21
    have hq := h35 W0 hB
    clear h35
    rcases hv : varTy p.mons mon name with _ | t
    · have hq := VarBack.no hq hv
      have HU3 : Hid (Ex.ter p.mons (.mk 4 mon name n ad cap kids pos) = some (61, pos)) := by show _ = _; rw [HU2.out, hv]; rfl
      clear hv HU2 HIS
      go_upto_region 4 with (go_at_call 53; (with_reducible refine hq.mono ?_); rintro r u1 ⟨rfl, bb1⟩; have hz1 := bb1.size; have x5 := (bb1.cell (p := ⟨w.heap.size + 1, 5, none⟩) (by show w.heap.size + 1 < _; have := HZ.out; omega)).trans s5)
      go_quiet (fail)
      go_wp2
      go_ret3
      have hbf := hB.tr le_rfl' bb1
      exact tyBack_yes rfl HU3.out ⟨hbf.os, hbf.tape, hbf.output, hbf.size, hbf.block⟩
    · have hq := VarBack.yes hq hv
      have HU3 : Hid (Ex.ter p.mons (.mk 4 mon name n ad cap kids pos) = none) := by show _ = _; rw [HU2.out, hv]; rfl
      have HI3 : Hid (Ex.is p.mons (.mk 4 mon name n ad cap kids pos) = t) := by show _ = _; rw [HIS.out, hv]; rfl
      clear hv HU2 HIS
      go_wp2_with (go_at_call 53; (with_reducible refine hq.mono ?_); rintro r u1 ⟨rfl, bb1⟩)
      go_ret3
      rw [HI3.out]
      exact tyBack_no HU3.out (hB.tr le_rfl' bb1)
  have h4' : (op == 4) = false := by rw [beq_eq_false_iff_ne]; exact h4
  have HU2 := hid (HU.out.trans (if_neg h4))
  clear HU h35
  obtain ⟨k, rfl⟩ : ∃ k : Nat, op = (k : Int) := ⟨op.toNat, by omega⟩
  have hk1 : 1 ≤ k := by omega
  have hk2 : k < 18 := by omega
  have hk4 : k ≠ 4 := by omega
  have HKL' : Hid (kids.length = exKids k) := HKL
  clear HKL h4
  have HU := HU2
  clear HU2
  go_upto_region 7 with fail
  obtain ⟨bA, hBA, hzA⟩ := one_box W0 #[.int .i64 0, .int .i64 0] 99
  have hz0 := HZ.out
  rw [hz0] at bA
  have t0 := (hBA.cell (p := ⟨w.heap.size, 0, none⟩) (by show w.heap.size < _; omega)).trans r0
  have t1 := (hBA.cell (p := ⟨w.heap.size, 1, none⟩) (by show w.heap.size < _; omega)).trans r1
  have x0 := (hBA.cell (p := ⟨w.heap.size + 1, 0, none⟩) (by show w.heap.size + 1 < _; omega)).trans s0
  have x4 := (hBA.cell (p := ⟨w.heap.size + 1, 4, none⟩) (by show w.heap.size + 1 < _; omega)).trans s4
  have hBw : Below w.heap.size w (W0.alloc (.cells #[.int .i64 0, .int .i64 0] 99)) := hB.trans (hBA.mono (by omega))
  obtain ⟨W1, hW1⟩ : ∃ W1, W0.alloc (.cells #[.int .i64 0, .int .i64 0] 99) = W1 := ⟨_, rfl⟩
  rw [hW1] at bA hzA t0 t1 x0 x4 hBw ⊢
  clear hW1 r0 r1 s0 s1 s2 s4 s5 hB hBA
  simp only [hz0] at hzA ⊢
  clear hz0 HZ
  have HZA := hid hzA
  have hzA2 : w.heap.size + 2 < W1.heap.size := by omega
  clear hzA
  go_wp2
  go_loopw [38] (fun i wr => ∃ (j : Nat) (cs : Array Value), j ≤ kids.length ∧ i = .int .i64 j ∧ cs.size = 2 ∧ wr.heap[w.heap.size + 2]? = some (.cells cs 99 (0, 0)) ∧ Hid (∀ k (h : k < kids.length), k < j → cs[k]? = some (.int .i64 (kids[k].is p.mons))) ∧ Hid (Ex.terL p.mons kids = Ex.terL p.mons (kids.drop j)) ∧ Below (w.heap.size + 2) W1 wr)
    (fun i _ => kids.length - (intOf i).toNat)
  case atStart => exact ⟨0, _, by omega, rfl, rfl, bA, (fun _ _ h => by omega), rfl, Below.refl _ _⟩
  case round =>
    obtain ⟨j, cs, hj, rfl, hcs, bA1, HP, HQ, hbw⟩ := hrel
    have hz3 := hbw.size
    have hbF : Below w.heap.size w wr := hBw.trans (hbw.mono (by omega))
    have hb0 : Below n₀ w wr := hbF.mono hn
    have y0 := (hbw.cell (p := ⟨w.heap.size, 0, none⟩) (by show w.heap.size < _; omega)).trans t0
    have y1 := (hbw.cell (p := ⟨w.heap.size, 1, none⟩) (by show w.heap.size < _; omega)).trans t1
    by_cases hlt : j < kids.length
    · rcases hsl.2.2 with h | ⟨kb, koff, rfl, hbn, hrow⟩
      · subst h; simp at hlt
      have hbn2 : kb < wr.heap.size := by omega
      have hj2 : j < 2 := by omega
      have hj2i : (j : Int) < 2 := by omega
      have HD := hid (Ex.terL_drop p.mons kids j hlt)
      have hrj := hrow.below hb0 hbn
      have hq := h21 _ (List.getElem_mem hlt) (wr.alloc (.cells (kids[j]).cells.toArray 28)) (hbF.al le_rfl' _)
      have HPO := hid (Ex.ter_pos p.mons kids[j])
      have HPN : Hid (∀ ki, kids[j].is p.mons = ki → ∀ k (h : k < kids.length), k < j + 1 → (cs.setIfInBounds j (.int .i64 ki))[k]? = some (.int .i64 (kids[k].is p.mons))) := fun ki hki k h hk => by
        by_cases e : k = j
        · subst e; rw [Array.getElem?_setIfInBounds_self_of_lt (by omega), hki]
        · rw [Array.getElem?_setIfInBounds_ne (by omega)]; exact HP.out k h (by omega)
      obtain ⟨ki, hki⟩ : ∃ ki, kids[j].is p.mons = ki := ⟨_, rfl⟩
      have HPN2 := hid (HPN.out ki hki)
      obtain ⟨u, hu⟩ : ∃ u, kids[j].ter p.mons = u := ⟨_, rfl⟩
      rw [hu] at HPO
      rw [hu] at HD
      rw [hu, hki] at hq
      clear hu hki HPN
      have z0 : ∀ o, (wr.alloc o).cell? ⟨w.heap.size, 0, none⟩ = _ := fun o => (((Below.refl _ wr).al le_rfl' o).cell (p := ⟨w.heap.size, 0, none⟩) (by show w.heap.size < _; omega)).trans y0
      have z1 : ∀ o, (wr.alloc o).cell? ⟨w.heap.size, 1, none⟩ = _ := fun o => (((Below.refl _ wr).al le_rfl' o).cell (p := ⟨w.heap.size, 1, none⟩) (by show w.heap.size < _; omega)).trans y1
      rcases he' : kids[j] with ⟨op', mon', name', n', ad', cap', kids', pos'⟩
      obtain ⟨c0, c1, c2, c3, c4, c5⟩ := row6 hrj j hlt (by rw [he']; rfl)
      simp only [he', Ex.cells] at hq
      clear he' h21
      rcases u with _ | ⟨c, a⟩
      · have hq := TyBack.no hq rfl
        obtain ⟨v, hv⟩ : ∃ v, cs[j]? = some v := ⟨cs[j], by rw [Array.getElem?_eq_getElem (by omega)]⟩
        have HV := hid hv
        clear hv
        go_wp2_with (go_at_call 36; (with_reducible refine hq.mono ?_); rintro r u1 ⟨rfl, bb1⟩; have bA2 := (bb1.block (w.heap.size + 2) (by simp; omega)).trans ((((Below.refl _ wr).al le_rfl' _).block (w.heap.size + 2) (by omega)).trans bA1); have f2 := frozen_of bA2 j; have g2 := (cellOf bA2 j).trans HV.out)
        have hs1 := bb1.size
        go_roundw
        case rel => exact ⟨j + 1, cs.setIfInBounds j (.int .i64 ki), by omega, by go_num, by simpa using hcs, heap_setCell_same u1 _ j cs 99 _ bA2, HPN2, by show _ = _; rw [HQ.out, HD.out]; rfl, ((hbw.al (by omega) _).trans (bb1.mono (by simp; omega))).setCell (p := ⟨w.heap.size + 2, j, none⟩) (by show w.heap.size + 2 ≤ w.heap.size + 2; omega) _⟩
        case measure => simp [intOf]; omega
      · have hq := TyBack.yes hq rfl
        have hcb : (c != 0) = true := by rw [bne_iff_ne]; rcases HPO.out c a rfl with rfl | rfl <;> decide
        go_wp2_with (go_at_call 36; (with_reducible refine hq.mono ?_); rintro r u1 ⟨rfl, bb1⟩)
        go_ret3
        exact tyBack_yes hcb (by rw [HU.out, HQ.out, HD.out]; rfl) ((hbF.al le_rfl' _).tr le_rfl' bb1)
    · have hjd : decide ((j : Int) < (kids.length : Int)) = false := by simp; omega
      obtain rfl : j = kids.length := by omega
      have HT : Hid (Ex.terL p.mons kids = none) := by show _ = _; rw [HQ.out, Ex.terL_end _ _ _ (by omega)]
      clear h21 HQ y0 y1
      obtain ⟨W2, hW2⟩ : ∃ W2, wr = W2 := ⟨_, rfl⟩
      subst hW2
      have HP2 : Hid (∀ k (h : k < kids.length), wr.cell? ⟨w.heap.size + 2, k, none⟩ = some (.int .i64 (kids[k].is p.mons))) := fun k h => (cellOf bA1 k).trans (HP.out k h h)
      have y0 := (hbw.cell (p := ⟨w.heap.size + 1, 0, none⟩) (by show w.heap.size + 1 < _; omega)).trans x0
      have y4 := (hbw.cell (p := ⟨w.heap.size + 1, 4, none⟩) (by show w.heap.size + 1 < _; omega)).trans x4
      obtain ⟨ru0, ru1⟩ := (hS.below hbF hs3).ru k hk2
      have hB2 := hbF
      clear HP hbF hb0 hbw t0 t1 x0 x4 bA hBw
      obtain ⟨W2, hW2⟩ : ∃ W2, wr = W2 := ⟨_, rfl⟩
      rw [hW2] at bA1 HP2 y0 y4 ru0 ru1 hB2 hz3 ⊢
      clear hW2
      by_cases hal : ruParts k = -1
      · obtain ⟨h0l, hwa⟩ := want_alike p.mons k kids hk2 HKL'.out hal
        have g0 := HP2.out 0 h0l
        obtain ⟨WANT, hWANT⟩ : ∃ WANT, kids[0].is p.mons = WANT := ⟨_, rfl⟩
        rw [hWANT] at g0 hwa
        have HWANT : Hid (misfit p.mons (wantOf p.mons (k : Int) kids) kids = misfit p.mons WANT kids) := by show _ = _; rw [hwa]
        rw [hal] at ru1
        clear hWANT hwa hal ru0
        go_wp2
        go_loopw [70] (fun i wr => ∃ j : Nat, j ≤ kids.length ∧ i = .int .i64 j ∧ Hid (misfit p.mons WANT kids = misfit p.mons WANT (kids.drop j)) ∧ Below (w.heap.size + 3) W2 wr)
          (fun i _ => kids.length - (intOf i).toNat)
        case atStart => exact ⟨0, by omega, rfl, rfl, Below.refl _ _⟩
        case round =>
          obtain ⟨j, hj, rfl, HQ, hbw⟩ := hrel
          have hz3 := hbw.size
          have hbF : Below w.heap.size w wr := hB2.trans (hbw.mono (by omega))
          have hb0 : Below n₀ w wr := hbF.mono hn
          by_cases hlt : j < kids.length
          · rcases hsl.2.2 with h | ⟨kb, koff, rfl, hbn, hrow⟩
            · subst h; simp at hlt
            have hbn2 : kb < wr.heap.size := by omega
            have hj2 : j < 2 := by omega
            have hj2i : (j : Int) < 2 := by omega
            have HD := hid (misfit_drop p.mons WANT kids j hlt)
            have hrj := hrow.below hb0 hbn
            have hpj := (hbw.cell (p := ⟨w.heap.size + 2, j, none⟩) (by show w.heap.size + 2 < _; omega)).trans (HP2.out j hlt)
            have hpj2 := fun o => (((Below.refl _ wr).al le_rfl' o).cell (p := ⟨w.heap.size + 2, j, none⟩) (by show w.heap.size + 2 < _; omega)).trans hpj
            obtain ⟨ki, hki⟩ : ∃ ki, kids[j].is p.mons = ki := ⟨_, rfl⟩
            rw [hki] at HD
            rw [hki] at hpj
            simp only [hki] at hpj2
            clear hki
            rcases he' : kids[j] with ⟨op', mon', name', n', ad', cap', kids', pos'⟩
            obtain ⟨c0, c1, c2, c3, c4, c5⟩ := row6 hrj j hlt (by rw [he']; rfl)
            rw [he'] at HD
            simp only [Ex.pos] at HD
            clear he'
            by_cases hkw : ki = WANT
            · have HD2 := hid (HD.out.trans (if_pos hkw))
              subst hkw
              clear HD
              go_wp2
              go_roundw
              case rel => exact ⟨j + 1, by omega, by go_num, by show _ = _; rw [HQ.out, HD2.out], hbw.al (by omega) _⟩
              case measure => simp [intOf]; omega
            · have hkb : (ki != WANT) = true := by rw [bne_iff_ne]; exact hkw
              have HD2 := hid (HD.out.trans (if_neg hkw))
              clear HD hkw
              go_upto_region 22 with fail
              go_quiet (fail)
              go_wp2
              go_ret3
              have hbf := hbF.al le_rfl' (.cells #[.int .i64 op', .string mon', .string name', .int .i64 n', .slice ad' kids'.length cap', .int .i64 pos'] 28)
              exact tyBack_yes rfl (by rw [HU.out, HT.out, HWANT.out, HQ.out, HD2.out]; rfl) ⟨hbf.os, hbf.tape, hbf.output, hbf.size, hbf.block⟩
          · have hjd : decide ((j : Int) < (kids.length : Int)) = false := by simp; omega
            have q0 := (hbw.cell (p := ⟨w.heap.size + 1, 0, none⟩) (by show w.heap.size + 1 < _; omega)).trans y0
            obtain ⟨ru0, -⟩ := (hS.below hbF hs3).ru k hk2
            go_wp2
            go_ret3
            have HR : Hid (Ex.is p.mons (.mk (k : Int) mon name n ad cap kids pos) = ruIs k) := hid (isOf_ru p.mons k mon name n ad cap kids pos hk1 hk4)
            rw [HR.out]
            exact tyBack_no (by rw [HU.out, HT.out, HWANT.out, HQ.out, misfit_end _ _ _ _ (by omega)]; rfl) hbF
      · have HWANT := hid (want_rule p.mons k kids hk1 hk2 HKL'.out hal)
        have hal' : (ruParts k == -1) = false := by rw [beq_eq_false_iff_ne]; exact hal
        obtain ⟨WANT, hWANT⟩ : ∃ WANT, ruParts k = WANT := ⟨_, rfl⟩
        rw [hWANT] at ru1 hal'
        rw [hWANT] at HWANT
        clear hWANT hal ru0
        go_wp2
        go_loopw [70] (fun i wr => ∃ j : Nat, j ≤ kids.length ∧ i = .int .i64 j ∧ Hid (misfit p.mons WANT kids = misfit p.mons WANT (kids.drop j)) ∧ Below (w.heap.size + 3) W2 wr)
          (fun i _ => kids.length - (intOf i).toNat)
        case atStart => exact ⟨0, by omega, rfl, rfl, Below.refl _ _⟩
        case round =>
          obtain ⟨j, hj, rfl, HQ, hbw⟩ := hrel
          have hz3 := hbw.size
          have hbF : Below w.heap.size w wr := hB2.trans (hbw.mono (by omega))
          have hb0 : Below n₀ w wr := hbF.mono hn
          by_cases hlt : j < kids.length
          · rcases hsl.2.2 with h | ⟨kb, koff, rfl, hbn, hrow⟩
            · subst h; simp at hlt
            have hbn2 : kb < wr.heap.size := by omega
            have hj2 : j < 2 := by omega
            have hj2i : (j : Int) < 2 := by omega
            have HD := hid (misfit_drop p.mons WANT kids j hlt)
            have hrj := hrow.below hb0 hbn
            have hpj := (hbw.cell (p := ⟨w.heap.size + 2, j, none⟩) (by show w.heap.size + 2 < _; omega)).trans (HP2.out j hlt)
            have hpj2 := fun o => (((Below.refl _ wr).al le_rfl' o).cell (p := ⟨w.heap.size + 2, j, none⟩) (by show w.heap.size + 2 < _; omega)).trans hpj
            obtain ⟨ki, hki⟩ : ∃ ki, kids[j].is p.mons = ki := ⟨_, rfl⟩
            rw [hki] at HD
            rw [hki] at hpj
            simp only [hki] at hpj2
            clear hki
            rcases he' : kids[j] with ⟨op', mon', name', n', ad', cap', kids', pos'⟩
            obtain ⟨c0, c1, c2, c3, c4, c5⟩ := row6 hrj j hlt (by rw [he']; rfl)
            rw [he'] at HD
            simp only [Ex.pos] at HD
            clear he'
            by_cases hkw : ki = WANT
            · have HD2 := hid (HD.out.trans (if_pos hkw))
              subst hkw
              clear HD
              go_wp2
              go_roundw
              case rel => exact ⟨j + 1, by omega, by go_num, by show _ = _; rw [HQ.out, HD2.out], hbw.al (by omega) _⟩
              case measure => simp [intOf]; omega
            · have hkb : (ki != WANT) = true := by rw [bne_iff_ne]; exact hkw
              have HD2 := hid (HD.out.trans (if_neg hkw))
              clear HD hkw
              go_upto_region 22 with fail
              go_quiet (fail)
              go_wp2
              go_ret3
              have hbf := hbF.al le_rfl' (.cells #[.int .i64 op', .string mon', .string name', .int .i64 n', .slice ad' kids'.length cap', .int .i64 pos'] 28)
              exact tyBack_yes rfl (by rw [HU.out, HT.out, HWANT.out, HQ.out, HD2.out]; rfl) ⟨hbf.os, hbf.tape, hbf.output, hbf.size, hbf.block⟩
          · have hjd : decide ((j : Int) < (kids.length : Int)) = false := by simp; omega
            have q0 := (hbw.cell (p := ⟨w.heap.size + 1, 0, none⟩) (by show w.heap.size + 1 < _; omega)).trans y0
            obtain ⟨ru0, -⟩ := (hS.below hbF hs3).ru k hk2
            go_wp2
            go_ret3
            have HR : Hid (Ex.is p.mons (.mk (k : Int) mon name n ad cap kids pos) = ruIs k) := hid (isOf_ru p.mons k mon name n ad cap kids pos hk1 hk4)
            rw [HR.out]
            exact tyBack_no (by rw [HU.out, HT.out, HWANT.out, HQ.out, misfit_end _ _ _ _ (by omega)]; rfl) hbF
set_option maxRecDepth 100000 in
set_option maxHeartbeats 4000000 in
theorem type_any (p : Pr) (hvs : vsum p.mons ≤ 1000000) (e : Ex) (n₀ : Nat) (w : World) (hn : n₀ ≤ w.heap.size) (hp : p.Is n₀ w) (he : e.Is n₀ w) (hS : Shapes w) :
    Calls Tryd.prog 21 #[p.val, e.val] w fun r w' => TyBack (e.is p.mons) (e.tero p.mons) w w' r := by
  have hs3 := hS.size
  have h20 : ∀ W, Below w.heap.size w W → Calls Tryd.prog 35 #[e.val] W fun r w' => r = .returned (.int .i64 (if e.ok then 0 else 20)) ∧ Below W.heap.size W w' := fun W hW => checkExpr_any e n₀ W (by have := hW.size; omega) (he.below (hW.mono hn)) (hS.below hW hs3)
  have h21 : e.ok = true → ∀ W, Below w.heap.size w W → Calls Tryd.prog 36 #[p.val, e.val] W fun r w' => TyBack (e.is p.mons) (e.ter p.mons) W w' r := fun hok W hW => typeOf_any p hvs e n₀ W (by have := hW.size; omega) (hp.below (hW.mono hn)) (he.below (hW.mono hn)) (hS.below hW hs3) hok
  have HPO := hid (Ex.ter_pos p.mons e)
  have HTE : Hid (e.tero p.mons = if e.ok then e.ter p.mons else some (20, 0)) := by show _ = _; rw [Ex.tero]
  obtain ⟨ok, hok⟩ : ∃ ok, e.ok = ok := ⟨_, rfl⟩
  obtain ⟨is, his⟩ : ∃ is, e.is p.mons = is := ⟨_, rfl⟩
  obtain ⟨u, hu⟩ : ∃ u, e.ter p.mons = u := ⟨_, rfl⟩
  obtain ⟨T, hT⟩ : ∃ T, e.tero p.mons = T := ⟨_, rfl⟩
  rw [hT, hok, hu] at HTE
  rw [hu] at HPO
  rw [hT, his]
  simp only [hok, his, hu] at h20 h21
  clear hok his hu hT
  rcases p with ⟨mad, mcap, mons, rad, rcap, roles⟩
  rcases e with ⟨op, mon, name, n, ad, cap, kids, pos⟩
  simp only [Pr.val, Ex.val, Ex.cells] at h20 h21 ⊢
  clear hp he hvs
  go_enter Tryd.func21, Tryd.ntmps21
  go_upto_region 1 with fail
  obtain ⟨bP, bE, hB, hz⟩ := two_box w #[.slice mad mons.length mcap, .slice rad roles.length rcap] #[.int .i64 op, .string mon, .string name, .int .i64 n, .slice ad kids.length cap, .int .i64 pos] 25 28
  obtain ⟨W0, hW0⟩ : ∃ W0, (w.alloc (.cells #[.slice mad mons.length mcap, .slice rad roles.length rcap] 25)).alloc (.cells #[.int .i64 op, .string mon, .string name, .int .i64 n, .slice ad kids.length cap, .int .i64 pos] 28) = W0 := ⟨_, rfl⟩
  rw [hW0] at bP bE hB hz ⊢
  clear hW0
  have r0 := cellOf bP 0
  have r1 := cellOf bP 1
  have s0 := cellOf bE 0
  have s1 := cellOf bE 1
  have s2 := cellOf bE 2
  have s3 := cellOf bE 3
  have s4 := cellOf bE 4
  have s5 := cellOf bE 5
  simp at r0 r1 s0 s1 s2 s3 s4 s5
  have HZ := hid hz
  clear hz bP bE
  have hq := h20 W0 hB
  clear h20
  cases ok
  · have HT : Hid (T = some (20, 0)) := hid (HTE.out.trans (if_neg (by simp)))
    go_wp2_with (go_at_call 35; (with_reducible refine hq.mono ?_); rintro r u1 ⟨rfl, bb1⟩)
    go_ret3
    exact tyBack_yes rfl HT.out (hB.tr le_rfl' bb1)
  · have HT : Hid (T = u) := hid (HTE.out.trans (if_pos rfl))
    have hq21 := h21 rfl
    clear h21
    rcases u with _ | ⟨c, a⟩
    · go_wp2_with (first
        | (go_at_call 35; (with_reducible refine hq.mono ?_); rintro r u1 ⟨rfl, bb1⟩; have hz1 := bb1.size; have hz0 := HZ.out; have x0 := (bb1.cell (p := ⟨w.heap.size, 0, none⟩) (by show w.heap.size < _; omega)).trans r0; have x1 := (bb1.cell (p := ⟨w.heap.size, 1, none⟩) (by show w.heap.size < _; omega)).trans r1; have y0 := (bb1.cell (p := ⟨w.heap.size + 1, 0, none⟩) (by show w.heap.size + 1 < _; omega)).trans s0; have y1 := (bb1.cell (p := ⟨w.heap.size + 1, 1, none⟩) (by show w.heap.size + 1 < _; omega)).trans s1; have y2 := (bb1.cell (p := ⟨w.heap.size + 1, 2, none⟩) (by show w.heap.size + 1 < _; omega)).trans s2; have y3 := (bb1.cell (p := ⟨w.heap.size + 1, 3, none⟩) (by show w.heap.size + 1 < _; omega)).trans s3; have y4 := (bb1.cell (p := ⟨w.heap.size + 1, 4, none⟩) (by show w.heap.size + 1 < _; omega)).trans s4; have y5 := (bb1.cell (p := ⟨w.heap.size + 1, 5, none⟩) (by show w.heap.size + 1 < _; omega)).trans s5; clear hz0; have hq2 := TyBack.no (hq21 u1 (hB.tr le_rfl' bb1)) rfl)
        | (go_at_call 36; (with_reducible refine hq2.mono ?_); rintro r u2 ⟨rfl, bb2⟩))
      go_ret3
      exact tyBack_no HT.out ((hB.tr le_rfl' bb1).tr le_rfl' bb2)
    · have hcb : (c != 0) = true := by rw [bne_iff_ne]; rcases HPO.out c a rfl with rfl | rfl <;> decide
      go_wp2_with (first
        | (go_at_call 35; (with_reducible refine hq.mono ?_); rintro r u1 ⟨rfl, bb1⟩; have hz1 := bb1.size; have hz0 := HZ.out; have x0 := (bb1.cell (p := ⟨w.heap.size, 0, none⟩) (by show w.heap.size < _; omega)).trans r0; have x1 := (bb1.cell (p := ⟨w.heap.size, 1, none⟩) (by show w.heap.size < _; omega)).trans r1; have y0 := (bb1.cell (p := ⟨w.heap.size + 1, 0, none⟩) (by show w.heap.size + 1 < _; omega)).trans s0; have y1 := (bb1.cell (p := ⟨w.heap.size + 1, 1, none⟩) (by show w.heap.size + 1 < _; omega)).trans s1; have y2 := (bb1.cell (p := ⟨w.heap.size + 1, 2, none⟩) (by show w.heap.size + 1 < _; omega)).trans s2; have y3 := (bb1.cell (p := ⟨w.heap.size + 1, 3, none⟩) (by show w.heap.size + 1 < _; omega)).trans s3; have y4 := (bb1.cell (p := ⟨w.heap.size + 1, 4, none⟩) (by show w.heap.size + 1 < _; omega)).trans s4; have y5 := (bb1.cell (p := ⟨w.heap.size + 1, 5, none⟩) (by show w.heap.size + 1 < _; omega)).trans s5; clear hz0; have hq2 := TyBack.yes (hq21 u1 (hB.tr le_rfl' bb1)) rfl)
        | (go_at_call 36; (with_reducible refine hq2.mono ?_); rintro r u2 ⟨rfl, bb2⟩))
      go_ret3
      exact tyBack_yes hcb HT.out ((hB.tr le_rfl' bb1).tr le_rfl' bb2)
end Go.Proofs.YtopiceoofdlkbaaDoor
