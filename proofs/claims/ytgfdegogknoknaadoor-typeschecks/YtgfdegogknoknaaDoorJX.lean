/-
  stmts of the document's answer for types.
-/
import Derived.Test.YtgfdegogknoknaaDoorJT
import Derived.Test.YtgfdegogknoknaaDoorJE
import Derived.Deep.RegionHeld3
namespace Go.Proofs.YtgfdegogknoknaaDoor
open Go.RowKit
theorem refWants_any (op : Int) (w : World) : Calls Tryd.prog 39 #[.int .i64 op] w fun r w' => r = .returned (.int .i64 (opWant op)) ∧ w' = w := by
  obtain ⟨W, hW⟩ : ∃ W, opWant op = W := ⟨_, rfl⟩
  rw [hW]
  have HW := hid hW
  clear hW
  by_cases h5 : op = 5
  · subst h5
    have e : W = 1 := HW.out.symm
    subst e
    go_enter Tryd.func39, Tryd.ntmps39
    go_wp2
    go_ret
    exact ⟨rfl, rfl⟩
  by_cases h16 : op = 16
  · subst h16
    have e : W = 1 := HW.out.symm
    subst e
    go_enter Tryd.func39, Tryd.ntmps39
    go_wp2
    go_ret
    exact ⟨rfl, rfl⟩
  by_cases h17 : op = 17
  · subst h17
    have e : W = 1 := HW.out.symm
    subst e
    go_enter Tryd.func39, Tryd.ntmps39
    go_wp2
    go_ret
    exact ⟨rfl, rfl⟩
  by_cases h10 : op = 10
  · subst h10
    have e : W = 0 := HW.out.symm
    subst e
    go_enter Tryd.func39, Tryd.ntmps39
    go_wp2
    go_ret
    exact ⟨rfl, rfl⟩
  by_cases h11 : op = 11
  · subst h11
    have e : W = 0 := HW.out.symm
    subst e
    go_enter Tryd.func39, Tryd.ntmps39
    go_wp2
    go_ret
    exact ⟨rfl, rfl⟩
  have e : W = 2 := by rw [← HW.out, opWant, if_neg (by omega), if_neg (by omega)]
  subst e
  have b5 : (op == 5) = false := by rw [beq_eq_false_iff_ne]; exact h5
  have b16 : (op == 16) = false := by rw [beq_eq_false_iff_ne]; exact h16
  have b17 : (op == 17) = false := by rw [beq_eq_false_iff_ne]; exact h17
  have b10 : (op == 10) = false := by rw [beq_eq_false_iff_ne]; exact h10
  have b11 : (op == 11) = false := by rw [beq_eq_false_iff_ne]; exact h11
  clear h5 h16 h17 h10 h11
  go_enter Tryd.func39, Tryd.ntmps39
  go_wp2
  go_ret
  exact ⟨rfl, rfl⟩
theorem refIs7_any (op : Int) (w : World) : Calls Tryd.prog 40 #[.int .i64 op] w fun r w' => r = .returned (.int .i64 (opIs op)) ∧ w' = w := by
  obtain ⟨W, hW⟩ : ∃ W, opIs op = W := ⟨_, rfl⟩
  rw [hW]
  have HW := hid hW
  clear hW
  by_cases h1 : op = 1
  · subst h1
    have e : W = 2 := HW.out.symm
    subst e
    go_enter Tryd.func40, Tryd.ntmps40
    go_wp2
    go_ret
    exact ⟨rfl, rfl⟩
  have b1 : (op == 1) = false := by rw [beq_eq_false_iff_ne]; exact h1
  by_cases h6 : 6 ≤ op
  · by_cases h9 : op ≤ 9
    · have e : W = 2 := by rw [← HW.out, opIs, if_pos (.inr ⟨h6, h9⟩)]
      subst e
      clear h1
      go_enter Tryd.func40, Tryd.ntmps40
      go_wp2
      go_ret
      exact ⟨rfl, rfl⟩
    · have e : W = 1 := by rw [← HW.out, opIs, if_neg (by omega)]
      subst e
      have h9' : decide (op ≤ 9) = false := by simp; omega
      clear h1 h9
      go_enter Tryd.func40, Tryd.ntmps40
      go_wp2
      go_ret
      exact ⟨rfl, rfl⟩
  · have e : W = 1 := by rw [← HW.out, opIs, if_neg (by omega)]
    subst e
    have h6' : decide (6 ≤ op) = false := by simp; omega
    clear h1 h6
    go_enter Tryd.func40, Tryd.ntmps40
    go_wp2
    go_ret
    exact ⟨rfl, rfl⟩
def intC (x : Int) : List Value := [.int .i64 x]
theorem intC_len (x : Int) : (intC x).length = 1 := rfl
theorem intC_one (x : Int) : ∀ u ∈ intC x, u.oneCell' = true := by
  intro u hu
  simp only [intC, List.mem_cons, List.not_mem_nil, or_false] at hu
  subst hu; rfl
theorem info3y : (Tryd.prog.info? 3).map (fun i => (i.zero, i.size, i.bytes)) = some (some (.int .i64 0), 1, 8) := by kernel_rfl
theorem owns_keep {w w' : World} {base e size : Nat} {v : Value} {n : Nat} {xs : List Value} (h : w.ownsRow base e size v n xs) (hb : Below w.heap.size w w') : w'.ownsRow base e size v n xs := by
  refine ⟨h.1, ?_⟩
  rcases h.2 with h2 | ⟨g, cap, cur, e1, e2, e3, e4⟩
  · exact .inl h2
  · exact .inr ⟨g, cap, cur, e1, e2, (hb.block g (Array.getElem?_eq_some_iff.1 e3).1).trans e3, e4⟩
theorem slOneI {W : World} {b : Nat} {x : Int} (h : W.heap[b]? = some (.cells #[.int .i64 x] 3 (0, 0))) : SlAt 1 intC (b + 1) W (some ⟨b, 0, none⟩) 1 [x] := by
  refine ⟨by simp, by unfold maxLen; omega, .inr ⟨b, 0, rfl, by omega, fun j hj i hi => ?_⟩⟩
  have hj2 : j < 1 := by simpa using hj
  obtain rfl : j = 0 := by omega
  obtain rfl : i = 0 := by omega
  rw [cellOf h]; rfl
theorem is_two' {l : List Mo} {e : Ex} (h : e.ter l = none) : e.is l = 1 ∨ e.is l = 2 := by
  rcases e with ⟨op, mon, name, n, ad, cap, kids, pos⟩
  rw [Ex.ter_mk] at h
  rw [Ex.is]
  split
  · rename_i h4
    rw [if_pos h4] at h
    cases hv : varTy l mon name with
    | none => rw [hv] at h; cases h
    | some t =>
      cases hs : slotIx l mon name with
      | none => rw [varTy_none hs] at hv; cases hv
      | some s =>
        obtain ⟨t', h1, h2⟩ := varTy_some hs
        rw [hv] at h1; cases h1; exact h2
  · unfold opIs
    split
    · exact .inr rfl
    · exact .inl rfl
def headIs (l : List Mo) : List Ex → Int
  | [] => 0
  | k :: _ => k.is l
theorem headIs_get (l : List Mo) (kids : List Ex) (h : 0 < kids.length) : headIs l kids = kids[0].is l := by
  cases kids with
  | nil => simp at h
  | cons x r => rfl
theorem wantOf_def (l : List Mo) (op : Int) (kids : List Ex) : wantOf l op kids = if opWant op = 0 then headIs l kids else opWant op := by
  cases kids <;> rfl
/-- Variables have types that there are. -/
def GoodV (l : List Mo) : Prop := ∀ v ∈ allV l, v.type = 1 ∨ v.type = 2 ∨ v.type = 3
theorem snoc_map {α β : Type} (f : α → β) (l : List α) (k : Nat) (h : k < l.length) : (l.take (k + 1)).map f = (l.take k).map f ++ [f l[k]] := by
  rw [List.take_succ_eq_append_getElem h, List.map_append]; rfl
theorem slSome {α : Type} {size : Nat} {cells : α → List Value} {n : Nat} {W : World} {ad : Option Addr} {cap : Nat} {l : List α} (h : SlAt size cells n W ad cap l) {k : Nat} (hk : k < l.length) : ∃ b off, ad = some ⟨b, off, none⟩ ∧ b < n ∧ RowAt size cells W b off l := by
  rcases h.2.2 with h | ⟨b, off, h1, h2, h3⟩
  · subst h; simp at hk
  · exact ⟨b, off, h1, h2, h3⟩
theorem slot_lt {l : List Mo} {mon name : ByteArray} {s : Nat} (h : slotIx l mon name = some s) : s < (allV l).length := by
  obtain ⟨i, hi, k, hk, rfl, -, -⟩ := slotIx_parts h
  exact (List.getElem?_eq_some_iff.1 (allV_at l i hi k hk)).1
theorem varTy_slot {l : List Mo} {mon name : ByteArray} {s : Nat} (h : slotIx l mon name = some s) (hs : s < (allV l).length) : varTy l mon name = some (allV l)[s].is := by
  rw [varTy, h, Option.bind_some, List.getElem?_eq_getElem hs]; rfl
set_option maxRecDepth 100000 in
set_option maxHeartbeats 16000000 in
theorem inner_any (p : Pr) (hvs : vsum p.mons ≤ 1000000) (hgv : GoodV p.mons) (e : Ex) : ∀ (n₀ : Nat) (w : World), n₀ ≤ w.heap.size → p.Is n₀ w → e.Is n₀ w → e.ok = true →
    Calls Tryd.prog 23 #[p.val, e.val] w fun r w' => TyBack (e.is p.mons) (e.ter p.mons) w w' r := by
  obtain ⟨i3, hi3, hz3, hy3, hx3⟩ := info_parts info3y
  have h39 := refWants_any
  have h40 := refIs7_any
  induction e using Ex.ind with
  | h op mon name n ad cap kids pos ih =>
  intro n₀ w hn hp hI hok
  have HU := hid (Ex.ter_mk p.mons op mon name n ad cap kids pos)
  obtain ⟨hok1, hokk⟩ := ok_kids hok
  obtain ⟨ho1, ho2, hkl⟩ := ok1_parts hok1
  clear hok hok1
  have hsl := hI.down.2.1
  have hIk := hI.down.2.2
  have hl1 := hsl.1; have hl2 := hsl.2.1
  unfold maxLen at hl2
  have hk2l : kids.length ≤ 2 := by
    rw [hkl, exKids]
    split
    · omega
    · split <;> omega
  clear hkl
  have h38 : ∀ W, Below w.heap.size w W → Calls Tryd.prog 38 #[p.val, .string mon, .string name] W fun r w' => FirstBack (slotIx p.mons mon name) W w' r := fun W hW => refSlot_any p mon name n₀ W (by have := hW.size; omega) (hp.below (hW.mono hn)) hvs
  have h28 : ∀ W, Below w.heap.size w W → Calls Tryd.prog 28 #[p.val] W fun r w' => ∃ ad cap, r = .returned (.slice ad (allV p.mons).length cap) ∧ SlAt 6 Va.cells w'.heap.size w' ad cap (allV p.mons) ∧ Below W.heap.size W w' := fun W hW => slotsUni (refSlots_any p n₀ W (by have := hW.size; omega) (hp.below (hW.mono hn)) hvs)
  have h23 : ∀ x ∈ kids, ∀ W, Below w.heap.size w W → Calls Tryd.prog 23 #[p.val, x.val] W fun r w' => TyBack (x.is p.mons) (x.ter p.mons) W w' r := fun x hx W hW => ih x hx n₀ W (by have := hW.size; omega) (hp.below (hW.mono hn)) ((hIk x hx).below (hW.mono hn)) (hokk x hx)
  clear ih hIk hokk hI
  obtain ⟨pad, hpad⟩ : ∃ a, p.mad = a := ⟨_, rfl⟩
  obtain ⟨pml, hpml⟩ : ∃ a, p.mons.length = a := ⟨_, rfl⟩
  obtain ⟨pmc, hpmc⟩ : ∃ a, p.mcap = a := ⟨_, rfl⟩
  obtain ⟨prd, hprd⟩ : ∃ a, p.rad = a := ⟨_, rfl⟩
  obtain ⟨prl, hprl⟩ : ∃ a, p.roles.length = a := ⟨_, rfl⟩
  obtain ⟨prc, hprc⟩ : ∃ a, p.rcap = a := ⟨_, rfl⟩
  simp only [Pr.val, Ex.val, hpad, hpml, hpmc, hprd, hprl, hprc] at h38 h28 h23 ⊢
  clear hpad hpml hpmc hprd hprl hprc hp
  simp only [Ex.cells] at ⊢
  go_enter Tryd.func23, Tryd.ntmps23
  go_upto_region 1 with fail
  obtain ⟨bP, bE, hB, hz⟩ := two_box w #[.slice pad pml pmc, .slice prd prl prc] #[.int .i64 op, .string mon, .string name, .int .i64 n, .slice ad kids.length cap, .int .i64 pos] 25 28
  obtain ⟨W0, hW0⟩ : ∃ W0, (w.alloc (.cells #[.slice pad pml pmc, .slice prd prl prc] 25)).alloc (.cells #[.int .i64 op, .string mon, .string name, .int .i64 n, .slice ad kids.length cap, .int .i64 pos] 28) = W0 := ⟨_, rfl⟩
  rw [hW0] at bP bE hB hz ⊢
  clear hW0
  have r0 := cellOf bP 0
  have r1 := cellOf bP 1
  have s0 := cellOf bE 0
  have s1 := cellOf bE 1
  have s2 := cellOf bE 2
  have s4 := cellOf bE 4
  have s5 := cellOf bE 5
  simp at r0 r1 s0 s1 s2 s4 s5
  have HZ := hid hz
  clear hz bP bE
  by_cases h4 : op = 4
  · subst h4
    have HU2 := hid (HU.out.trans (if_pos rfl))
    have HIS : Hid (Ex.is p.mons (.mk 4 mon name n ad cap kids pos) = (varTy p.mons mon name).getD 0) := by show _ = _; rw [Ex.is, if_pos rfl]
    clear HU h23
    have hq := h38 W0 hB
    clear h38
    rcases hs : slotIx p.mons mon name with _ | s
    · have hq := FirstBack.no hq hs
      have HU3 : Hid (Ex.ter p.mons (.mk 4 mon name n ad cap kids pos) = some (61, pos)) := by show _ = _; rw [HU2.out, varTy_none hs]; rfl
      clear hs HU2 HIS
      go_upto_region 4 with (go_at_call 38; (with_reducible refine hq.mono ?_); rintro r u1 ⟨rfl, bb1⟩; have hz1 := bb1.size; have x5 := (bb1.cell (p := ⟨w.heap.size + 1, 5, none⟩) (by show w.heap.size + 1 < _; have := HZ.out; omega)).trans s5)
      go_quiet (fail)
      go_wp2
      go_ret3
      have hbf := hB.tr le_rfl' bb1
      exact tyBack_yes rfl HU3.out ⟨hbf.os, hbf.tape, hbf.output, hbf.size, hbf.block⟩
    · have hq := FirstBack.yes hq hs
      have hsl0 := slot_lt hs
      have hvt := varTy_slot hs hsl0
      have HU3 : Hid (Ex.ter p.mons (.mk 4 mon name n ad cap kids pos) = none) := by show _ = _; rw [HU2.out, hvt]; rfl
      have HI3 : Hid (Ex.is p.mons (.mk 4 mon name n ad cap kids pos) = (allV p.mons)[s].is) := by show _ = _; rw [HIS.out, hvt]; rfl
      have hgd := hgv _ (List.getElem_mem hsl0)
      have hLb : (allV p.mons).length ≤ 1000000 := by rw [allV_len]; exact hvs
      clear hvt hs HU2 HIS
      obtain ⟨L, hL⟩ : ∃ L, allV p.mons = L := ⟨_, rfl⟩
      simp only [hL] at h28 hsl0 hLb
      have e0 : (allV p.mons)[s] = L[s] := by subst hL; rfl
      rw [e0] at HI3
      rw [e0] at hgd
      clear hL e0
      rcases hva : L[s] with ⟨vn, vt, vlo, vhi, vin, vps⟩
      have e1 : (Va.cells L[s])[1]? = some (.int .i64 vt) := by rw [hva]; rfl
      rw [hva] at HI3 hgd
      simp only at hgd
      have HE := hid e1
      have hsi : (s : Int) < (L.length : Int) := by omega
      clear hva e1
      by_cases t1 : vt = 1
      · subst t1
        go_wp2_with (first
          | (go_at_call 38; (with_reducible refine hq.mono ?_); rintro r u1 ⟨rfl, bb1⟩; have hz1 := bb1.size; have x0 := (bb1.cell (p := ⟨w.heap.size, 0, none⟩) (by show w.heap.size < _; have := HZ.out; omega)).trans r0; have x1 := (bb1.cell (p := ⟨w.heap.size, 1, none⟩) (by show w.heap.size < _; have := HZ.out; omega)).trans r1; have hq2 := h28 u1 (hB.tr le_rfl' bb1))
          | (go_at_call 28; (with_reducible refine hq2.mono ?_); rintro r u2 ⟨ad2, cp2, rfl, hsl2, bb2⟩; obtain ⟨b2, off2, rfl, hb2, hrow2⟩ := slSome hsl2 hsl0; have d1 := (hrow2 s hsl0 1 (by omega)).trans HE.out; have hcp1 := hsl2.1; have hcp2 := hsl2.2.1; unfold maxLen at hcp2))
        go_ret3
        rw [HI3.out]
        exact tyBack_no HU3.out ((hB.tr le_rfl' bb1).tr le_rfl' bb2)
      · have t1' : (vt == 1) = false := by rw [beq_eq_false_iff_ne]; exact t1
        have HI4 : Hid (Ex.is p.mons (.mk 4 mon name n ad cap kids pos) = 2) := by
          show _ = _
          rw [HI3.out, Va.is, if_pos]
          rcases hgd with h | h | h
          · exact absurd h t1
          · exact .inl h
          · exact .inr h
        clear t1 hgd
        go_wp2_with (first
          | (go_at_call 38; (with_reducible refine hq.mono ?_); rintro r u1 ⟨rfl, bb1⟩; have hz1 := bb1.size; have x0 := (bb1.cell (p := ⟨w.heap.size, 0, none⟩) (by show w.heap.size < _; have := HZ.out; omega)).trans r0; have x1 := (bb1.cell (p := ⟨w.heap.size, 1, none⟩) (by show w.heap.size < _; have := HZ.out; omega)).trans r1; have hq2 := h28 u1 (hB.tr le_rfl' bb1))
          | (go_at_call 28; (with_reducible refine hq2.mono ?_); rintro r u2 ⟨ad2, cp2, rfl, hsl2, bb2⟩; obtain ⟨b2, off2, rfl, hb2, hrow2⟩ := slSome hsl2 hsl0; have d1 := (hrow2 s hsl0 1 (by omega)).trans HE.out; have hcp1 := hsl2.1; have hcp2 := hsl2.2.1; unfold maxLen at hcp2))
        go_ret3
        rw [HI4.out]
        exact tyBack_no HU3.out ((hB.tr le_rfl' bb1).tr le_rfl' bb2)
  have h4' : (op == 4) = false := by rw [beq_eq_false_iff_ne]; exact h4
  have HU2 := hid (HU.out.trans (if_neg h4))
  have HIS : Hid (Ex.is p.mons (.mk op mon name n ad cap kids pos) = opIs op) := by show _ = _; rw [Ex.is, if_neg h4]
  clear HU h38 h28 h4 hgv
  have HU := HU2
  clear HU2
  have HWO := hid (wantOf_def p.mons op kids)
  have h39o := h39 op
  obtain ⟨wo, hwo⟩ : ∃ wo, opWant op = wo := ⟨_, rfl⟩
  rw [hwo] at HWO
  simp only [hwo] at h39o
  clear hwo h39
  go_wp2_with (go_at_call 39; (with_reducible refine (h39o _).mono ?_); rintro r w' ⟨rfl, hw'⟩; have hw2 := hw'.symm; subst hw2)
  go_loopw [10, 11] (fun v i wr => ∃ j : Nat, j ≤ kids.length ∧ i = .int .i64 j ∧ wr.ownsRow W0.heap.size 3 1 v ((kids.take j).map (Ex.is p.mons)).length (((kids.take j).map (Ex.is p.mons)).flatMap intC) ∧ Hid (Ex.terL p.mons kids = Ex.terL p.mons (kids.drop j)) ∧ Below W0.heap.size W0 wr)
    (fun _ i _ => kids.length - (intOf i).toNat)
  case atStart => exact ⟨0, by omega, rfl, World.ownsRow_nil _ _ _ _, rfl, Below.refl _ _⟩
  case round =>
    obtain ⟨j, hj, rfl, hown, HQ, hbw⟩ := hrel
    have hz3w := hbw.size
    have hz0 := HZ.out
    have hbF : Below w.heap.size w wr := hB.trans (hbw.mono (by omega))
    have hb0 : Below n₀ w wr := hbF.mono hn
    have y0 := (hbw.cell (p := ⟨w.heap.size, 0, none⟩) (by show w.heap.size < _; omega)).trans r0
    have y1 := (hbw.cell (p := ⟨w.heap.size, 1, none⟩) (by show w.heap.size < _; omega)).trans r1
    have y4 := (hbw.cell (p := ⟨w.heap.size + 1, 4, none⟩) (by show w.heap.size + 1 < _; omega)).trans s4
    have y40 := (hbw.cell (p := ⟨w.heap.size + 1, 0, none⟩) (by show w.heap.size + 1 < _; omega)).trans s0
    by_cases hlt : j < kids.length
    · rcases hsl.2.2 with h | ⟨kb, koff, rfl, hbn, hrow⟩
      · subst h; simp at hlt
      have hji : (j : Int) < (kids.length : Int) := by omega
      have hbn2 : kb < wr.heap.size := by omega
      have hj2 : j < 2 := by omega
      have HD := hid (Ex.terL_drop p.mons kids j hlt)
      have HSN := hid (snoc_map (Ex.is p.mons) kids j hlt)
      have hrj := hrow.below hb0 hbn
      have hq : ∀ W, Below wr.heap.size wr W → _ := fun W hW => h23 _ (List.getElem_mem hlt) W (hbF.tr le_rfl' hW)
      have HPO := hid (Ex.ter_pos p.mons kids[j])
      have hLl : ((kids.take j).map (Ex.is p.mons)).length ≤ 2 := by simp; omega
      obtain ⟨KL, hKL⟩ : ∃ KL, (kids.take j).map (Ex.is p.mons) = KL := ⟨_, rfl⟩
      rw [hKL] at hown hLl
      rw [hKL] at HSN
      obtain ⟨ki, hki⟩ : ∃ ki, kids[j].is p.mons = ki := ⟨_, rfl⟩
      obtain ⟨u, hu⟩ : ∃ u, kids[j].ter p.mons = u := ⟨_, rfl⟩
      rw [hu] at HPO
      rw [hu] at HD
      rw [hki] at HSN
      simp only [hu, hki] at hq
      clear hu hki hKL
      rcases he' : kids[j] with ⟨op', mon', name', n', ad', cap', kids', pos'⟩
      obtain ⟨c0, c1, c2, c3, c4, c5⟩ := row6 hrj j hlt (by rw [he']; rfl)
      simp only [he', Ex.cells] at hq
      clear he' h23
      have HK : Hid (∀ W, Below wr.heap.size wr W → W.cell? ⟨w.heap.size, 0, none⟩ = some (.slice pad pml pmc) ∧ W.cell? ⟨w.heap.size, 1, none⟩ = some (.slice prd prl prc) ∧ W.cell? ⟨w.heap.size + 1, 4, none⟩ = some (.slice (some ⟨kb, koff, none⟩) kids.length cap) ∧ W.cell? ⟨kb, koff + j * 6, none⟩ = some (.int .i64 op') ∧ W.cell? ⟨kb, koff + j * 6 + 1, none⟩ = some (.string mon') ∧ W.cell? ⟨kb, koff + j * 6 + 2, none⟩ = some (.string name') ∧ W.cell? ⟨kb, koff + j * 6 + 3, none⟩ = some (.int .i64 n') ∧ W.cell? ⟨kb, koff + j * 6 + 4, none⟩ = some (.slice ad' kids'.length cap') ∧ W.cell? ⟨kb, koff + j * 6 + 5, none⟩ = some (.int .i64 pos')) := fun W hW => ⟨(hW.cell (p := ⟨w.heap.size, 0, none⟩) (by show w.heap.size < _; omega)).trans y0, (hW.cell (p := ⟨w.heap.size, 1, none⟩) (by show w.heap.size < _; omega)).trans y1, (hW.cell (p := ⟨w.heap.size + 1, 4, none⟩) (by show w.heap.size + 1 < _; omega)).trans y4, (hW.cell (p := ⟨kb, _, none⟩) hbn2).trans c0, (hW.cell (p := ⟨kb, _, none⟩) hbn2).trans c1, (hW.cell (p := ⟨kb, _, none⟩) hbn2).trans c2, (hW.cell (p := ⟨kb, _, none⟩) hbn2).trans c3, (hW.cell (p := ⟨kb, _, none⟩) hbn2).trans c4, (hW.cell (p := ⟨kb, _, none⟩) hbn2).trans c5⟩
      have D := below_drewV (Below.refl wr.heap.size wr)
      clear c0 c1 c2 c3 c4 c5
      rcases u with _ | ⟨c, a⟩
      · have hq := fun W hW => TyBack.no (hq W hW) rfl
        go_wp2
        go_region_held3 (fun W => W.cell? ⟨w.heap.size, 0, none⟩ = some (.slice pad pml pmc) ∧ W.cell? ⟨w.heap.size, 1, none⟩ = some (.slice prd prl prc) ∧ W.cell? ⟨w.heap.size + 1, 4, none⟩ = some (.slice (some ⟨kb, koff, none⟩) kids.length cap) ∧ W.cell? ⟨kb, koff + j * 6, none⟩ = some (.int .i64 op') ∧ W.cell? ⟨kb, koff + j * 6 + 1, none⟩ = some (.string mon') ∧ W.cell? ⟨kb, koff + j * 6 + 2, none⟩ = some (.string name') ∧ W.cell? ⟨kb, koff + j * 6 + 3, none⟩ = some (.int .i64 n') ∧ W.cell? ⟨kb, koff + j * 6 + 4, none⟩ = some (.slice ad' kids'.length cap') ∧ W.cell? ⟨kb, koff + j * 6 + 5, none⟩ = some (.int .i64 pos')) (exact HK.out _ D) (first | (go_at_call 23; (with_reducible refine (hq _ D).mono ?_); rintro r w1 ⟨rfl, bb⟩; have D := D.tr le_rfl' bb))
        have hown1 := (owns_keep hown D).alloc (.cells #[.int .i64 ki] 3)
        have hsrc := slOneI (heapNew w1 (.cells #[.int .i64 ki] 3))
        have hzd := D.size
        go_wp2_with (at_builtin; refine wpList_append_sl (cells := intC) rfl _ _ 85 rfl W0.heap.size 3 i3 _ 1 8 Tryd.underlying85 hi3 hz3 hy3 hx3 rfl (by decide) intC_len intC_one _ KL rfl hown1 (some ⟨w1.heap.size, 0, none⟩) 1 [ki] (w1.heap.size + 1) rfl hsrc (by unfold maxLen; simp; omega) (by simp; omega) (by simp; omega) ?_; intro v' w2 hown2 hgrow _)
        go_roundw
        case rel => exact ⟨j + 1, by omega, by go_num, (by rw [HSN.out]; exact hown2), by show _ = _; rw [HQ.out, HD.out]; rfl, owns_grown_below ((hbw.tr le_rfl' D).al le_rfl' _) hown1 hgrow (by simp; omega)⟩
        case measure => simp [intOf]; omega
      · have hq := fun W hW => TyBack.yes (hq W hW) rfl
        have hcb : (c != 0) = true := by rw [bne_iff_ne]; rcases HPO.out c a rfl with rfl | rfl <;> decide
        go_wp2
        go_region_held3 (fun W => W.cell? ⟨w.heap.size, 0, none⟩ = some (.slice pad pml pmc) ∧ W.cell? ⟨w.heap.size, 1, none⟩ = some (.slice prd prl prc) ∧ W.cell? ⟨w.heap.size + 1, 4, none⟩ = some (.slice (some ⟨kb, koff, none⟩) kids.length cap) ∧ W.cell? ⟨kb, koff + j * 6, none⟩ = some (.int .i64 op') ∧ W.cell? ⟨kb, koff + j * 6 + 1, none⟩ = some (.string mon') ∧ W.cell? ⟨kb, koff + j * 6 + 2, none⟩ = some (.string name') ∧ W.cell? ⟨kb, koff + j * 6 + 3, none⟩ = some (.int .i64 n') ∧ W.cell? ⟨kb, koff + j * 6 + 4, none⟩ = some (.slice ad' kids'.length cap') ∧ W.cell? ⟨kb, koff + j * 6 + 5, none⟩ = some (.int .i64 pos')) (exact HK.out _ D) (first | (go_at_call 23; (with_reducible refine (hq _ D).mono ?_); rintro r w1 ⟨rfl, bb⟩; have D := D.tr le_rfl' bb))
        all_goals go_wp2
        all_goals go_ret3
        all_goals exact tyBack_yes hcb (by rw [HU.out, HQ.out, HD.out]; rfl) (hbF.tr le_rfl' D)
    · have hjd : decide ((j : Int) < (kids.length : Int)) = false := by simp; omega
      obtain rfl : j = kids.length := by omega
      have HT : Hid (Ex.terL p.mons kids = none) := by show _ = _; rw [HQ.out, Ex.terL_end _ _ _ (by omega)]
      clear h23 HQ
      rw [List.take_length] at hown
      have hKl : (kids.map (Ex.is p.mons)).length = kids.length := by simp
      obtain ⟨adk, cpk, rfl, hk1, hk2, hk3⟩ := slOwn2 intC_len hown
      rw [hKl] at hk1 ⊢
      unfold maxLen at hk2
      have HKC : Hid (∀ k (h : k < kids.length), ∃ b, adk = some ⟨b, 0, none⟩ ∧ b < wr.heap.size ∧ wr.cell? ⟨b, k, none⟩ = some (.int .i64 (kids[k].is p.mons))) := fun k h => by
        rcases hk3 with h3 | ⟨b, rfl, h5, h6, h7⟩
        · have := congrArg List.length h3
          rw [hKl] at this; simp at this; subst this; simp at h
        · refine ⟨b, rfl, h6, ?_⟩
          have := h7 k (by rw [hKl]; exact h) 0 (by omega)
          simpa [intC] using this
      have HIK : Hid (∀ k (h : k < kids.length), kids[k].is p.mons = 1 ∨ kids[k].is p.mons = 2) := fun k h => is_two' ((Ex.terL_none _ _).1 HT.out _ (List.getElem_mem h))
      clear hown hk3 hKl
      have hB2 := hbF
      go_wp2
      obtain ⟨W2, hW2⟩ : ∃ W2, wr = W2 := ⟨_, rfl⟩
      rw [hW2] at HKC y40 y4 hB2 ⊢
      clear hbw y0 y1 hz3w hbF hb0
      go_loopw [9, 15] (fun v i wx => ∃ (j : Nat) (WW : Int), j ≤ kids.length ∧ i = .int .i64 j ∧ v = .int .i64 WW ∧ Hid (WW = if j = 0 then wo else wantOf p.mons op kids) ∧ Hid (misfit p.mons (wantOf p.mons op kids) kids = misfit p.mons (wantOf p.mons op kids) (kids.drop j)) ∧ wx = W2)
        (fun _ i _ => kids.length - (intOf i).toNat)
      case atStart => exact ⟨0, wo, by omega, rfl, rfl, rfl, rfl, rfl⟩
      case round =>
        obtain ⟨j, WW, hj, rfl, rfl, HWW, HQ, hwx⟩ := hrel
        have hw2 := hwx.symm
        subst hw2
        by_cases hlt : j < kids.length
        · have hji : (j : Int) < (kids.length : Int) := by omega
          obtain ⟨b, rfl, hbl, cj⟩ := HKC.out j hlt
          have HD := hid (misfit_drop p.mons (wantOf p.mons op kids) kids j hlt)
          obtain ⟨ki, hki⟩ : ∃ ki, kids[j].is p.mons = ki := ⟨_, rfl⟩
          have HKI := hid hki
          rw [hki] at cj
          rw [hki] at HD
          have hk12 : ki = 1 ∨ ki = 2 := by rw [← hki]; exact HIK.out j hlt
          clear hki
          rcases slSome hsl hlt with ⟨kb, koff, rfl, hbn, hrow⟩
          have hbn2 : kb < W2.heap.size := by have := hB2.size; omega
          have c5 := (hB2.mono hn |> fun h => hrow.below h hbn) j hlt 5 (by omega)
          obtain ⟨kp, hkp⟩ : ∃ kp, kids[j].pos = kp := ⟨_, rfl⟩
          have e5 : (Ex.cells kids[j])[5]? = some (.int .i64 kp) := by rw [← hkp]; rcases kids[j] with ⟨⟩; rfl
          rw [e5] at c5
          rw [hkp] at HD
          clear e5 hkp
          by_cases hw0 : WW = 0
          · -- alike: the first part
            have HJ0 : j = 0 ∧ wo = 0 := by
              have h1 := HWW.out
              by_cases h0 : j = 0
              · rw [if_pos h0] at h1; exact ⟨h0, by omega⟩
              · exfalso
                rw [if_neg h0, HWO.out] at h1
                by_cases h2 : wo = 0
                · rw [if_pos h2] at h1
                  have h3 := HIK.out 0 (by omega)
                  rw [headIs_get _ _ (by omega)] at h1
                  omega
                · rw [if_neg h2] at h1; omega
            obtain ⟨rfl, hwo0⟩ := HJ0
            have HWE : Hid (wantOf p.mons op kids = ki) := by
              show _ = _
              rw [HWO.out, if_pos hwo0, ← HKI.out]
              exact headIs_get _ _ hlt
            have HD2 := hid (HD.out.trans (if_pos HWE.out.symm))
            subst hw0
            clear HD hwo0
            go_wp2
            go_roundw
            case rel => exact ⟨0 + 1, ki, by omega, by go_num, rfl, by show _ = _; rw [if_neg (by omega), HWE.out], by show _ = _; rw [HQ.out, HD2.out], (by trivial)⟩
            case measure => simp [intOf]; omega
          · have hwb : (WW == 0) = false := by rw [beq_eq_false_iff_ne]; exact hw0
            have HWE : Hid (wantOf p.mons op kids = WW) := by
              show _ = _
              have h1 := HWW.out
              by_cases h0 : j = 0
              · rw [if_pos h0] at h1
                rw [HWO.out, if_neg (by omega), h1]
              · rw [if_neg h0] at h1; exact h1.symm
            clear hw0
            by_cases hkw : ki = WW
            · have HD2 := hid (HD.out.trans (if_pos (by rw [HWE.out]; exact hkw)))
              subst hkw
              clear HD
              go_wp2
              go_roundw
              case rel => exact ⟨j + 1, ki, by omega, by go_num, rfl, by show _ = _; rw [if_neg (by omega), HWE.out], by show _ = _; rw [HQ.out, HD2.out], (by trivial)⟩
              case measure => simp [intOf]; omega
            · have hkb : (ki != WW) = true := by rw [bne_iff_ne]; exact hkw
              have HD2 := hid (HD.out.trans (if_neg (by rw [HWE.out]; exact hkw)))
              clear HD hkw
              go_upto_region 23 with fail
              go_quiet (fail)
              go_wp2
              go_ret3
              exact tyBack_yes rfl (by rw [HU.out, HT.out, HQ.out, HD2.out]; rfl) ⟨hB2.os, hB2.tape, hB2.output, hB2.size, hB2.block⟩
        · have hjd2 : decide ((j : Int) < (kids.length : Int)) = false := by simp; omega
          go_wp2_with (go_at_call 40; (with_reducible refine (h40 _ _).mono ?_); rintro r w' ⟨rfl, hw'⟩; have hw2 := hw'.symm; subst hw2)
          go_ret3
          rw [HIS.out]
          exact tyBack_no (by rw [HU.out, HT.out, HQ.out, misfit_end _ _ _ _ (by omega)]; rfl) hB2
end Go.Proofs.YtgfdegogknoknaaDoor
namespace Go.Proofs.YtgfdegogknoknaaDoor
open Go.RowKit
theorem St.unkL_none (k : Lk) (l : List St) : St.unkL k l = none ↔ ∀ s ∈ l, s.unk k = none := by
  induction l with
  | nil => simp [St.unkL]
  | cons s r ih => rw [St.unkL, Option.or_eq_none_iff, ih]; simp
theorem Bl.unkL_none (k : Lk) (l : List Bl) : Bl.unkL k l = none ↔ ∀ s ∈ l, s.unk k = none := by
  induction l with
  | nil => simp [Bl.unkL]
  | cons s r ih => rw [Bl.unkL, Option.or_eq_none_iff, ih]; simp
theorem unk_parts {k : Lk} {kind : Int} {mon name : ByteArray} {n : Int} {e : Ex} {ad : Option Addr} {cap : Nat} {blocks : List Bl} {pos : Int} (h : (St.mk kind mon name n e ad cap blocks pos).unk k = none) : (kind = 2 → k.V mon name = true) ∧ ∀ b ∈ blocks, b.unk k = none := by
  rw [St.unk_mk] at h
  split at h
  · cases h
  · rename_i hk
    rw [Option.or_eq_none_iff, Bl.unkL_none] at h
    refine ⟨fun h2 => ?_, h.2⟩
    subst h2
    have h3 : St.knows k (.mk 2 mon name n e ad cap blocks pos) = k.V mon name := by rw [St.knows, if_pos rfl]
    rw [h3] at hk
    cases hv : k.V mon name with
    | true => rfl
    | false => exact absurd hv hk
theorem ok1_ex {kind : Int} {mon name : ByteArray} {n : Int} {e : Ex} {ad : Option Addr} {cap : Nat} {blocks : List Bl} {pos : Int} (h : (St.mk kind mon name n e ad cap blocks pos).ok1 = true) (hk : kind = 2 ∨ kind = 3 ∨ kind = 4) : e.ok = true := by
  simp only [St.ok1, Bool.and_eq_true] at h
  have h2 := h.2.1.1.2
  rcases hk with rfl | rfl | rfl <;> simpa [fitsEx, stExpr] using h2
theorem tero_ok {l : List Mo} {e : Ex} (h : e.ok = true) : e.tero l = e.ter l := by rw [Ex.tero, if_pos h]
def BlRf (p : Pr) (x : Bl) : Prop := ∀ (n₀ : Nat) (w : World), n₀ ≤ w.heap.size → p.Is n₀ w → x.Is n₀ w → (∀ s ∈ x.subs, s.ok1 = true) → x.unk p.lk = none → Calls Tryd.prog 29 #[p.val, x.slice] w fun r w' => RoleBack (x.tyc p.mons) w w' r
set_option maxRecDepth 100000 in
set_option maxHeartbeats 40000000 in
theorem refStmts7_step (p : Pr) (hvs : vsum p.mons ≤ 1000000) (hgv : GoodV p.mons) (ad : Option Addr) (cap : Nat) (body : List St) (ih : ∀ s ∈ body, ∀ b ∈ s.blocks, BlRf p b) : BlRf p (.mk ad cap body) := by
  intro n₀ w hn hp hI hok hunk
  have HU := hid (Bl.tyc_mk p.mons ad cap body)
  have hIk := hI.down.2
  have hsl := hI.down.1
  have hl1 := hsl.1; have hl2 := hsl.2.1
  unfold maxLen at hl2
  rw [Bl.unk_mk, St.unkL_none] at hunk
  have hok2 : ∀ s ∈ body, s.ok1 = true ∧ ∀ b ∈ s.blocks, ∀ x ∈ b.subs, x.ok1 = true := fun s hs => by
    have h1 : ∀ x ∈ s.subs, x.ok1 = true := fun x hx => hok x (by rw [Bl.subs_mk]; exact List.mem_flatMap.2 ⟨s, hs, hx⟩)
    rcases s with ⟨kind, mon, name, n, e, ad, cap, blocks, pos⟩
    rw [St.subs_mk] at h1
    exact ⟨h1 _ (by simp), fun b hb x hx => h1 x (by simp only [List.mem_cons]; exact .inr (List.mem_flatMap.2 ⟨b, hb, hx⟩))⟩
  have h23 : ∀ s ∈ body, s.e.ok = true → ∀ W, Below w.heap.size w W → Calls Tryd.prog 23 #[p.val, s.e.val] W fun r w' => TyBack (s.e.is p.mons) (s.e.ter p.mons) W w' r := fun s hs h1 W hW => by
    have hIe : s.e.Is n₀ w := by
      have := hIk s hs
      rcases s with ⟨_, _, _, _, e, _, _, _, _⟩
      exact this.down.2.1
    exact inner_any p hvs hgv s.e n₀ W (by have := hW.size; omega) (hp.below (hW.mono hn)) (hIe.below (hW.mono hn)) h1
  have h29 : ∀ s ∈ body, ∀ b ∈ s.blocks, ∀ W, Below w.heap.size w W → Calls Tryd.prog 29 #[p.val, b.slice] W fun r w' => RoleBack (b.tyc p.mons) W w' r := fun s hs b hb W hW => by
    have hIb : b.Is n₀ w ∧ b.unk p.lk = none := by
      have h1 := hIk s hs
      have h2 := hunk s hs
      rcases s with ⟨_, _, _, _, e, _, _, _, _⟩
      exact ⟨h1.down.2.2.2 b hb, (unk_parts h2).2 b hb⟩
    exact ih s hs b hb n₀ W (by have := hW.size; omega) (hp.below (hW.mono hn)) (hIb.1.below (hW.mono hn)) ((hok2 s hs).2 b hb) hIb.2
  have h38 : ∀ mon name W, Below w.heap.size w W → Calls Tryd.prog 38 #[p.val, .string mon, .string name] W fun r w' => FirstBack (slotIx p.mons mon name) W w' r := fun mon name W hW => refSlot_any p mon name n₀ W (by have := hW.size; omega) (hp.below (hW.mono hn)) hvs
  have h28 : ∀ W, Below w.heap.size w W → Calls Tryd.prog 28 #[p.val] W fun r w' => ∃ ad cap, r = .returned (.slice ad (allV p.mons).length cap) ∧ SlAt 6 Va.cells w'.heap.size w' ad cap (allV p.mons) ∧ Below W.heap.size W w' := fun W hW => slotsUni (refSlots_any p n₀ W (by have := hW.size; omega) (hp.below (hW.mono hn)) hvs)
  have HOK : Hid (∀ s ∈ body, s.ok1 = true) := fun s hs => (hok2 s hs).1
  have HUK : Hid (∀ s ∈ body, s.unk p.lk = none) := hunk
  have HLK := hid (slot_lk p)
  have HGV := hid hgv
  have hLb : (allV p.mons).length ≤ 1000000 := by rw [allV_len]; exact hvs
  clear ih hI hunk hok hok2 hgv
  obtain ⟨pad, hpad⟩ : ∃ a, p.mad = a := ⟨_, rfl⟩
  obtain ⟨pml, hpml⟩ : ∃ a, p.mons.length = a := ⟨_, rfl⟩
  obtain ⟨pmc, hpmc⟩ : ∃ a, p.mcap = a := ⟨_, rfl⟩
  obtain ⟨prd, hprd⟩ : ∃ a, p.rad = a := ⟨_, rfl⟩
  obtain ⟨prl, hprl⟩ : ∃ a, p.roles.length = a := ⟨_, rfl⟩
  obtain ⟨prc, hprc⟩ : ∃ a, p.rcap = a := ⟨_, rfl⟩
  simp only [Pr.val, hpad, hpml, hpmc, hprd, hprl, hprc] at h23 h29 h38 h28 ⊢
  clear hpad hpml hpmc hprd hprl hprc hp
  simp only [Bl.slice]
  go_enter Tryd.func29, Tryd.ntmps29
  go_upto_region 1 with fail
  obtain ⟨bR, hB, hz⟩ := one_box w #[.slice pad pml pmc, .slice prd prl prc] 25
  obtain ⟨W0, hW0⟩ : ∃ W0, w.alloc (.cells #[.slice pad pml pmc, .slice prd prl prc] 25) = W0 := ⟨_, rfl⟩
  rw [hW0] at bR hB hz ⊢
  clear hW0
  have HZ := hid hz
  clear hz
  go_wp2
  go_loopw [6] (fun i wr => ∃ j : Nat, j ≤ body.length ∧ i = .int .i64 j ∧ Hid (St.tycL p.mons body = St.tycL p.mons (body.drop j)) ∧ Below W0.heap.size W0 wr)
    (fun i _ => body.length - (intOf i).toNat)
  case atStart => exact ⟨0, by omega, rfl, rfl, Below.refl _ _⟩
  case round =>
    obtain ⟨j, hj, rfl, HQ, hbw⟩ := hrel
    have hz1 := hbw.size
    have hz0 := HZ.out
    have hbF : Below w.heap.size w wr := hB.trans (hbw.mono (by omega))
    have hb0 : Below n₀ w wr := hbF.mono hn
    by_cases hlt : j < body.length
    · rcases hsl.2.2 with h | ⟨kb, koff, rfl, hbn, hrow⟩
      · subst h; simp at hlt
      have hji : (j : Int) < (body.length : Int) := by omega
      have hbn2 : kb < wr.heap.size := by omega
      have hrj := hrow.below hb0 hbn
      have HD := hid (St.tycL_drop p.mons body j hlt)
      have hT := h29 _ (List.getElem_mem hlt)
      have hEE := h23 _ (List.getElem_mem hlt)
      have HOJ := hid (HOK.out _ (List.getElem_mem hlt))
      have HUJ := hid (HUK.out _ (List.getElem_mem hlt))
      have hsB := hIk _ (List.getElem_mem hlt)
      rcases he' : body[j] with ⟨kind, mon, name, n, ⟨eop, emon, ename, en, ead, ecap, ekids, epos⟩, bad0, bcp, blocks, pos⟩
      obtain ⟨c0, c1, c2, c3, c4, c5, c6, c7, c8, c9, c10, c11⟩ := row12 hrj j hlt (by rw [he']; rfl)
      rw [he'] at hT hsB hEE
      rw [he'] at HD
      rw [he'] at HOJ
      rw [he'] at HUJ
      simp only [St.blocks] at hT
      simp only [St.e] at hEE
      have HSU := hid (St.tyc_mk p.mons kind mon name n (.mk eop emon ename en ead ecap ekids epos) bad0 bcp blocks pos)
      have hslb := hsB.down.2.2.1
      have hlb1 := hslb.1; have hlb2 := hslb.2.1
      unfold maxLen at hlb2
      clear he' h23 h29 hsB
      go_upto_region 5 with fail
      obtain ⟨e2, hB1, hzM⟩ := one_box wr #[.int .i64 kind, .string mon, .string name, .int .i64 n, .int .i64 eop, .string emon, .string ename, .int .i64 en, .slice ead ekids.length ecap, .int .i64 epos, .slice bad0 blocks.length bcp, .int .i64 pos] 70
      obtain ⟨W1, hW1⟩ : ∃ W1, wr.alloc (.cells #[.int .i64 kind, .string mon, .string name, .int .i64 n, .int .i64 eop, .string emon, .string ename, .int .i64 en, .slice ead ekids.length ecap, .int .i64 epos, .slice bad0 blocks.length bcp, .int .i64 pos] 70) = W1 := ⟨_, rfl⟩
      rw [hW1] at e2 hB1 hzM ⊢
      clear hW1
      obtain ⟨sB, hsB⟩ : ∃ sB, wr.heap.size = sB := ⟨_, rfl⟩
      have hsBz : w.heap.size < sB := by omega
      have hsBn : sB < W1.heap.size := by omega
      rw [hsB] at e2 ⊢
      have hbG : Below w.heap.size w W1 := hbF.tr le_rfl' hB1
      have e1 := ((hbw.tr le_rfl' hB1).block w.heap.size (by omega)).trans bR
      have HK : Hid (∀ W, Below W1.heap.size W1 W → W.heap[w.heap.size]? = some (.cells #[.slice pad pml pmc, .slice prd prl prc] 25 (0, 0)) ∧ W.heap[sB]? = some (.cells #[.int .i64 kind, .string mon, .string name, .int .i64 n, .int .i64 eop, .string emon, .string ename, .int .i64 en, .slice ead ekids.length ecap, .int .i64 epos, .slice bad0 blocks.length bcp, .int .i64 pos] 70 (0, 0))) := fun W hW => ⟨(hW.block _ (by omega)).trans e1, (hW.block _ hsBn).trans e2⟩
      clear hzM hsB c0 c1 c2 c3 c4 c5 c6 c7 c8 c9 c10 c11
      have C : Below W1.heap.size W1 W1 := Below.refl _ _
      have x0 := cellOf e1 0
      have x1 := cellOf e1 1
      have y0 := cellOf e2 0
      have y1 := cellOf e2 1
      have y2 := cellOf e2 2
      have y3 := cellOf e2 3
      have y4 := cellOf e2 4
      have y5 := cellOf e2 5
      have y6 := cellOf e2 6
      have y7 := cellOf e2 7
      have y8 := cellOf e2 8
      have y9 := cellOf e2 9
      have y10 := cellOf e2 10
      have y11 := cellOf e2 11
      simp at x0 x1 y0 y1 y2 y3 y4 y5 y6 y7 y8 y9 y10 y11
      clear e1 e2
      have HOW0 : Hid (stOwn p.mons kind mon name (.mk eop emon ename en ead ecap ekids epos) = match stWant p.mons kind mon name with | none => none | some t => (Ex.tero p.mons (.mk eop emon ename en ead ecap ekids epos)).or (if Ex.is p.mons (.mk eop emon ename en ead ecap ekids epos) = t then none else some (70, epos))) := rfl
      have HPO := hid (Ex.ter_pos p.mons (.mk eop emon ename en ead ecap ekids epos))
      by_cases kk : kind = 2 ∨ kind = 3 ∨ kind = 4
      · have heok := ok1_ex HOJ.out kk
        have hE := hEE heok
        rw [tero_ok heok] at HOW0
        obtain ⟨is, his⟩ : ∃ is, Ex.is p.mons (.mk eop emon ename en ead ecap ekids epos) = is := ⟨_, rfl⟩
        obtain ⟨te, hte⟩ : ∃ te, Ex.ter p.mons (.mk eop emon ename en ead ecap ekids epos) = te := ⟨_, rfl⟩
        rw [his, hte] at HOW0
        rw [hte] at HPO
        simp only [his, hte, Ex.val, Ex.cells] at hE
        clear his hte hEE heok
        by_cases k2 : kind = 2
        · subst k2
          clear kk
          have hV : (slotIx p.mons mon name).isSome = true := by rw [HLK.out]; exact (unk_parts HUJ.out).1 rfl
          obtain ⟨sx, hsx⟩ := Option.isSome_iff_exists.1 hV
          have hS1 := fun W hW => FirstBack.yes (h38 mon name W hW) hsx
          have hsl0 := slot_lt hsx
          have hvt := varTy_slot hsx hsl0
          have hgd := HGV.out _ (List.getElem_mem hsl0)
          have HOW1 : Hid (stOwn p.mons 2 mon name (.mk eop emon ename en ead ecap ekids epos) = te.or (if is = (allV p.mons)[sx].is then none else some (70, epos))) := by
            show _ = _
            rw [HOW0.out, stWant, if_pos rfl, hvt]
          clear hV hsx hvt HOW0
          obtain ⟨L, hL⟩ : ∃ L, allV p.mons = L := ⟨_, rfl⟩
          simp only [hL] at h28 hsl0 hLb
          have e0 : (allV p.mons)[sx] = L[sx] := by subst hL; rfl
          rw [e0] at HOW1
          rw [e0] at hgd
          clear hL e0
          rcases hva : L[sx] with ⟨vn, vt, vlo, vhi, vin, vps⟩
          have e1 : (Va.cells L[sx])[1]? = some (.int .i64 vt) := by rw [hva]; rfl
          rw [hva] at HOW1 hgd
          simp only at hgd
          have HE := hid e1
          have hsi : (sx : Int) < (L.length : Int) := by omega
          clear hva e1
          by_cases t1 : vt = 1
          · subst t1
            have HOW : Hid (stOwn p.mons 2 mon name (.mk eop emon ename en ead ecap ekids epos) = te.or (if is = 1 then none else some (70, epos))) := HOW1
            clear HOW1
            rcases te with _ | ⟨c, a⟩
            case some =>
              have hcb : (c != 0) = true := by rw [bne_iff_ne]; rcases HPO.out c a rfl with rfl | rfl <;> decide
              have HOWN : Hid (stOwn p.mons 2 mon name (.mk eop emon ename en ead ecap ekids epos) = some (c, a)) := by show _ = _; rw [HOW.out]; rfl
              have hE1 := fun W hW => TyBack.yes (hE W hW) rfl
              go_wp2_with (go_at_call 23; (with_reducible refine (hE1 _ (hbG.tr le_rfl' C)).mono ?_); rintro r u1 ⟨rfl, bb⟩; have C := C.tr le_rfl' bb; obtain ⟨e1, e2⟩ := HK.out _ C; have x0 := cellOf e1 0; have x1 := cellOf e1 1; have y0 := cellOf e2 0; have y1 := cellOf e2 1; have y2 := cellOf e2 2; have y3 := cellOf e2 3; have y4 := cellOf e2 4; have y5 := cellOf e2 5; have y6 := cellOf e2 6; have y7 := cellOf e2 7; have y8 := cellOf e2 8; have y9 := cellOf e2 9; have y10 := cellOf e2 10; have y11 := cellOf e2 11; simp at x0 x1 y0 y1 y2 y3 y4 y5 y6 y7 y8 y9 y10 y11; clear e1 e2)
              go_ret2
              exact roleBack_yes hcb (by rw [HU.out, HQ.out, HD.out, HSU.out, HOWN.out]; rfl) (hbG.tr le_rfl' C)
            have hE1 := fun W hW => TyBack.no (hE W hW) rfl
            by_cases hit : is = 1
            · have HOWN : Hid (stOwn p.mons 2 mon name (.mk eop emon ename en ead ecap ekids epos) = none) := by
                show _ = _
                rw [HOW.out]; simp [hit]
              subst hit
              clear HOW
              go_wp2_with (first
                | (go_at_call 23; (with_reducible refine (hE1 _ (hbG.tr le_rfl' C)).mono ?_); rintro r u1 ⟨rfl, bb⟩; have C := C.tr le_rfl' bb; obtain ⟨e1, e2⟩ := HK.out _ C; have x0 := cellOf e1 0; have x1 := cellOf e1 1; have y0 := cellOf e2 0; have y1 := cellOf e2 1; have y2 := cellOf e2 2; have y3 := cellOf e2 3; have y4 := cellOf e2 4; have y5 := cellOf e2 5; have y6 := cellOf e2 6; have y7 := cellOf e2 7; have y8 := cellOf e2 8; have y9 := cellOf e2 9; have y10 := cellOf e2 10; have y11 := cellOf e2 11; simp at x0 x1 y0 y1 y2 y3 y4 y5 y6 y7 y8 y9 y10 y11; clear e1 e2)
                | (go_at_call 38; (with_reducible refine (hS1 _ (hbG.tr le_rfl' C)).mono ?_); rintro r u2 ⟨rfl, bb⟩; have C := C.tr le_rfl' bb; obtain ⟨e1, e2⟩ := HK.out _ C; have x0 := cellOf e1 0; have x1 := cellOf e1 1; have y0 := cellOf e2 0; have y1 := cellOf e2 1; have y2 := cellOf e2 2; have y3 := cellOf e2 3; have y4 := cellOf e2 4; have y5 := cellOf e2 5; have y6 := cellOf e2 6; have y7 := cellOf e2 7; have y8 := cellOf e2 8; have y9 := cellOf e2 9; have y10 := cellOf e2 10; have y11 := cellOf e2 11; simp at x0 x1 y0 y1 y2 y3 y4 y5 y6 y7 y8 y9 y10 y11; clear e1 e2)
                | (go_at_call 28; (with_reducible refine (h28 _ (hbG.tr le_rfl' C)).mono ?_); rintro r u3 ⟨ad2, cp2, rfl, hsl2, bb⟩; obtain ⟨b2, off2, rfl, hb2, hrow2⟩ := slSome hsl2 hsl0; have d1 := (hrow2 sx hsl0 1 (by omega)).trans HE.out; have hcp1 := hsl2.1; have hcp2 := hsl2.2.1; unfold maxLen at hcp2; have C := C.tr le_rfl' bb; obtain ⟨e1, e2⟩ := HK.out _ C; have x0 := cellOf e1 0; have x1 := cellOf e1 1; have y0 := cellOf e2 0; have y1 := cellOf e2 1; have y2 := cellOf e2 2; have y3 := cellOf e2 3; have y4 := cellOf e2 4; have y5 := cellOf e2 5; have y6 := cellOf e2 6; have y7 := cellOf e2 7; have y8 := cellOf e2 8; have y9 := cellOf e2 9; have y10 := cellOf e2 10; have y11 := cellOf e2 11; simp at x0 x1 y0 y1 y2 y3 y4 y5 y6 y7 y8 y9 y10 y11; clear e1 e2))
              clear x0 x1 y0 y1 y2 y3 y4 y5 y6 y7 y8 y9 y10 y11
              go_loopw [14] (fun i wr => ∃ k : Nat, k ≤ blocks.length ∧ i = .int .i64 k ∧ Hid (Bl.tycL p.mons blocks = Bl.tycL p.mons (blocks.drop k)) ∧ Below W1.heap.size W1 wr)
                (fun i _ => blocks.length - (intOf i).toNat)
              case atStart => exact ⟨0, by omega, rfl, rfl, C⟩
              case round =>
                obtain ⟨k, hk, rfl, HQ2, hbv⟩ := hrel
                have hzv := hbv.size
                have hvF := hbG.tr le_rfl' hbv
                obtain ⟨e1, e2⟩ := HK.out _ hbv
                have z0 := cellOf e1 0
                have z1 := cellOf e1 1
                have z10 := cellOf e2 10
                simp at z0 z1 z10
                clear e1 e2
                by_cases hlt2 : k < blocks.length
                · have hki : (k : Int) < (blocks.length : Int) := by omega
                  rcases hslb.2.2 with h | ⟨bb, boff, rfl, hkn, hkrow⟩
                  · subst h; simp at hlt2
                  have hkn2 : bb < wr.heap.size := by have := hvF.size; omega
                  have HD2 := hid (Bl.tycL_drop p.mons blocks k hlt2)
                  have hkr := hkrow.below (hvF.mono hn) hkn
                  have hq : ∀ W, Below wr.heap.size wr W → _ := fun W hW => hT _ (List.getElem_mem hlt2) W (hvF.tr le_rfl' hW)
                  obtain ⟨u, hu⟩ : ∃ u, blocks[k].tyc p.mons = u := ⟨_, rfl⟩
                  simp only [hu] at hq
                  rw [hu] at HD2
                  clear hu
                  rcases he' : blocks[k] with ⟨bad, bcap, bbody⟩
                  have c0 := hkr k hlt2 0 (by omega)
                  simp only [he', Bl.cells, Bl.slice, Nat.mul_one, Nat.add_zero, List.getElem?_cons_zero] at hq c0
                  clear he' hT
                  have HK2 : Hid (∀ W, Below wr.heap.size wr W → W.cell? ⟨w.heap.size, 0, none⟩ = some (.slice pad pml pmc) ∧ W.cell? ⟨w.heap.size, 1, none⟩ = some (.slice prd prl prc) ∧ W.cell? ⟨sB, 10, none⟩ = some (.slice (some ⟨bb, boff, none⟩) blocks.length bcp) ∧ W.cell? ⟨bb, boff + k, none⟩ = some (.slice bad bbody.length bcap)) := fun W hW => ⟨(hW.cell (p := ⟨w.heap.size, 0, none⟩) (by show w.heap.size < _; omega)).trans z0, (hW.cell (p := ⟨w.heap.size, 1, none⟩) (by show w.heap.size < _; omega)).trans z1, (hW.cell (p := ⟨sB, 10, none⟩) (by show sB < _; omega)).trans z10, (hW.cell (p := ⟨bb, _, none⟩) hkn2).trans c0⟩
                  have D := below_drewV (Below.refl wr.heap.size wr)
                  clear c0 z0 z1
                  rcases u with _ | ⟨c, a⟩
                  · have hq := fun W hW => RoleBack.no (hq W hW) rfl
                    go_wp2
                    go_region_held3 (fun W => W.cell? ⟨w.heap.size, 0, none⟩ = some (.slice pad pml pmc) ∧ W.cell? ⟨w.heap.size, 1, none⟩ = some (.slice prd prl prc) ∧ W.cell? ⟨sB, 10, none⟩ = some (.slice (some ⟨bb, boff, none⟩) blocks.length bcp) ∧ W.cell? ⟨bb, boff + k, none⟩ = some (.slice bad bbody.length bcap)) (exact HK2.out _ D) (first | (go_at_call 29; (with_reducible refine (hq _ D).mono ?_); rintro r w1 ⟨rfl, bb⟩; have D := D.tr le_rfl' bb))
                    all_goals go_wp2
                    all_goals go_roundw
                    all_goals first
                      | exact ⟨k + 1, by omega, by go_num, by show _ = _; rw [HQ2.out, HD2.out]; rfl, hbv.tr le_rfl' D⟩
                      | (simp [intOf]; omega)
                  · have hq := fun W hW => RoleBack.yes2 (hq W hW) rfl
                    go_wp2
                    go_region_held3 (fun W => W.cell? ⟨w.heap.size, 0, none⟩ = some (.slice pad pml pmc) ∧ W.cell? ⟨w.heap.size, 1, none⟩ = some (.slice prd prl prc) ∧ W.cell? ⟨sB, 10, none⟩ = some (.slice (some ⟨bb, boff, none⟩) blocks.length bcp) ∧ W.cell? ⟨bb, boff + k, none⟩ = some (.slice bad bbody.length bcap)) (exact HK2.out _ D) (first | (go_at_call 29; (with_reducible refine (hq _ D).mono ?_); rintro r w1 ⟨rfl, hcb, bb⟩; have D := D.tr le_rfl' bb))
                    all_goals go_wp2
                    all_goals go_ret2
                    all_goals exact roleBack_yes hcb (by rw [HU.out, HQ.out, HD.out, HSU.out, HOWN.out, HQ2.out, HD2.out]; rfl) (hvF.tr le_rfl' D)
                · have hjd2 : decide ((k : Int) < (blocks.length : Int)) = false := by simp; omega
                  go_wp2
                  all_goals go_roundw
                  all_goals first
                    | exact ⟨j + 1, by omega, by go_num, by show _ = _; rw [HQ.out, HD.out, HSU.out, HOWN.out, HQ2.out, Bl.tycL_end _ _ _ (by omega)]; rfl, (hbw.tr le_rfl' hB1).trans (hbv.mono (by omega))⟩
                    | (simp [intOf]; omega)
            · have hib : (is != 1) = true := by rw [bne_iff_ne]; exact hit
              have HOWN : Hid (stOwn p.mons 2 mon name (.mk eop emon ename en ead ecap ekids epos) = some (70, epos)) := by
                show _ = _
                rw [HOW.out]; simp [hit]
              clear hit HOW
              go_upto_region 15 with (first
                | (go_at_call 23; (with_reducible refine (hE1 _ (hbG.tr le_rfl' C)).mono ?_); rintro r u1 ⟨rfl, bb⟩; have C := C.tr le_rfl' bb; obtain ⟨e1, e2⟩ := HK.out _ C; have x0 := cellOf e1 0; have x1 := cellOf e1 1; have y0 := cellOf e2 0; have y1 := cellOf e2 1; have y2 := cellOf e2 2; have y3 := cellOf e2 3; have y4 := cellOf e2 4; have y5 := cellOf e2 5; have y6 := cellOf e2 6; have y7 := cellOf e2 7; have y8 := cellOf e2 8; have y9 := cellOf e2 9; have y10 := cellOf e2 10; have y11 := cellOf e2 11; simp at x0 x1 y0 y1 y2 y3 y4 y5 y6 y7 y8 y9 y10 y11; clear e1 e2)
                | (go_at_call 38; (with_reducible refine (hS1 _ (hbG.tr le_rfl' C)).mono ?_); rintro r u2 ⟨rfl, bb⟩; have C := C.tr le_rfl' bb; obtain ⟨e1, e2⟩ := HK.out _ C; have x0 := cellOf e1 0; have x1 := cellOf e1 1; have y0 := cellOf e2 0; have y1 := cellOf e2 1; have y2 := cellOf e2 2; have y3 := cellOf e2 3; have y4 := cellOf e2 4; have y5 := cellOf e2 5; have y6 := cellOf e2 6; have y7 := cellOf e2 7; have y8 := cellOf e2 8; have y9 := cellOf e2 9; have y10 := cellOf e2 10; have y11 := cellOf e2 11; simp at x0 x1 y0 y1 y2 y3 y4 y5 y6 y7 y8 y9 y10 y11; clear e1 e2)
                | (go_at_call 28; (with_reducible refine (h28 _ (hbG.tr le_rfl' C)).mono ?_); rintro r u3 ⟨ad2, cp2, rfl, hsl2, bb⟩; obtain ⟨b2, off2, rfl, hb2, hrow2⟩ := slSome hsl2 hsl0; have d1 := (hrow2 sx hsl0 1 (by omega)).trans HE.out; have hcp1 := hsl2.1; have hcp2 := hsl2.2.1; unfold maxLen at hcp2; have C := C.tr le_rfl' bb; obtain ⟨e1, e2⟩ := HK.out _ C; have x0 := cellOf e1 0; have x1 := cellOf e1 1; have y0 := cellOf e2 0; have y1 := cellOf e2 1; have y2 := cellOf e2 2; have y3 := cellOf e2 3; have y4 := cellOf e2 4; have y5 := cellOf e2 5; have y6 := cellOf e2 6; have y7 := cellOf e2 7; have y8 := cellOf e2 8; have y9 := cellOf e2 9; have y10 := cellOf e2 10; have y11 := cellOf e2 11; simp at x0 x1 y0 y1 y2 y3 y4 y5 y6 y7 y8 y9 y10 y11; clear e1 e2))
              go_quiet (fail)
              go_wp2
              go_ret2
              have hbf := hbG.tr le_rfl' C
              exact roleBack_yes rfl (by rw [HU.out, HQ.out, HD.out, HSU.out, HOWN.out]; rfl) ⟨hbf.os, hbf.tape, hbf.output, hbf.size, hbf.block⟩
          · have t1' : (vt != 1) = true := by rw [bne_iff_ne]; exact t1
            have HOW : Hid (stOwn p.mons 2 mon name (.mk eop emon ename en ead ecap ekids epos) = te.or (if is = 2 then none else some (70, epos))) := by
              show _ = _
              have hvi : Va.is ⟨vn, vt, vlo, vhi, vin, vps⟩ = 2 := by
                rw [Va.is, if_pos]
                rcases hgd with h | h | h
                · exact absurd h t1
                · exact .inl h
                · exact .inr h
              rw [HOW1.out, hvi]
            clear HOW1 t1 hgd
            rcases te with _ | ⟨c, a⟩
            case some =>
              have hcb : (c != 0) = true := by rw [bne_iff_ne]; rcases HPO.out c a rfl with rfl | rfl <;> decide
              have HOWN : Hid (stOwn p.mons 2 mon name (.mk eop emon ename en ead ecap ekids epos) = some (c, a)) := by show _ = _; rw [HOW.out]; rfl
              have hE1 := fun W hW => TyBack.yes (hE W hW) rfl
              go_wp2_with (go_at_call 23; (with_reducible refine (hE1 _ (hbG.tr le_rfl' C)).mono ?_); rintro r u1 ⟨rfl, bb⟩; have C := C.tr le_rfl' bb; obtain ⟨e1, e2⟩ := HK.out _ C; have x0 := cellOf e1 0; have x1 := cellOf e1 1; have y0 := cellOf e2 0; have y1 := cellOf e2 1; have y2 := cellOf e2 2; have y3 := cellOf e2 3; have y4 := cellOf e2 4; have y5 := cellOf e2 5; have y6 := cellOf e2 6; have y7 := cellOf e2 7; have y8 := cellOf e2 8; have y9 := cellOf e2 9; have y10 := cellOf e2 10; have y11 := cellOf e2 11; simp at x0 x1 y0 y1 y2 y3 y4 y5 y6 y7 y8 y9 y10 y11; clear e1 e2)
              go_ret2
              exact roleBack_yes hcb (by rw [HU.out, HQ.out, HD.out, HSU.out, HOWN.out]; rfl) (hbG.tr le_rfl' C)
            have hE1 := fun W hW => TyBack.no (hE W hW) rfl
            by_cases hit : is = 2
            · have HOWN : Hid (stOwn p.mons 2 mon name (.mk eop emon ename en ead ecap ekids epos) = none) := by
                show _ = _
                rw [HOW.out]; simp [hit]
              subst hit
              clear HOW
              go_wp2_with (first
                | (go_at_call 23; (with_reducible refine (hE1 _ (hbG.tr le_rfl' C)).mono ?_); rintro r u1 ⟨rfl, bb⟩; have C := C.tr le_rfl' bb; obtain ⟨e1, e2⟩ := HK.out _ C; have x0 := cellOf e1 0; have x1 := cellOf e1 1; have y0 := cellOf e2 0; have y1 := cellOf e2 1; have y2 := cellOf e2 2; have y3 := cellOf e2 3; have y4 := cellOf e2 4; have y5 := cellOf e2 5; have y6 := cellOf e2 6; have y7 := cellOf e2 7; have y8 := cellOf e2 8; have y9 := cellOf e2 9; have y10 := cellOf e2 10; have y11 := cellOf e2 11; simp at x0 x1 y0 y1 y2 y3 y4 y5 y6 y7 y8 y9 y10 y11; clear e1 e2)
                | (go_at_call 38; (with_reducible refine (hS1 _ (hbG.tr le_rfl' C)).mono ?_); rintro r u2 ⟨rfl, bb⟩; have C := C.tr le_rfl' bb; obtain ⟨e1, e2⟩ := HK.out _ C; have x0 := cellOf e1 0; have x1 := cellOf e1 1; have y0 := cellOf e2 0; have y1 := cellOf e2 1; have y2 := cellOf e2 2; have y3 := cellOf e2 3; have y4 := cellOf e2 4; have y5 := cellOf e2 5; have y6 := cellOf e2 6; have y7 := cellOf e2 7; have y8 := cellOf e2 8; have y9 := cellOf e2 9; have y10 := cellOf e2 10; have y11 := cellOf e2 11; simp at x0 x1 y0 y1 y2 y3 y4 y5 y6 y7 y8 y9 y10 y11; clear e1 e2)
                | (go_at_call 28; (with_reducible refine (h28 _ (hbG.tr le_rfl' C)).mono ?_); rintro r u3 ⟨ad2, cp2, rfl, hsl2, bb⟩; obtain ⟨b2, off2, rfl, hb2, hrow2⟩ := slSome hsl2 hsl0; have d1 := (hrow2 sx hsl0 1 (by omega)).trans HE.out; have hcp1 := hsl2.1; have hcp2 := hsl2.2.1; unfold maxLen at hcp2; have C := C.tr le_rfl' bb; obtain ⟨e1, e2⟩ := HK.out _ C; have x0 := cellOf e1 0; have x1 := cellOf e1 1; have y0 := cellOf e2 0; have y1 := cellOf e2 1; have y2 := cellOf e2 2; have y3 := cellOf e2 3; have y4 := cellOf e2 4; have y5 := cellOf e2 5; have y6 := cellOf e2 6; have y7 := cellOf e2 7; have y8 := cellOf e2 8; have y9 := cellOf e2 9; have y10 := cellOf e2 10; have y11 := cellOf e2 11; simp at x0 x1 y0 y1 y2 y3 y4 y5 y6 y7 y8 y9 y10 y11; clear e1 e2))
              clear x0 x1 y0 y1 y2 y3 y4 y5 y6 y7 y8 y9 y10 y11
              go_loopw [14] (fun i wr => ∃ k : Nat, k ≤ blocks.length ∧ i = .int .i64 k ∧ Hid (Bl.tycL p.mons blocks = Bl.tycL p.mons (blocks.drop k)) ∧ Below W1.heap.size W1 wr)
                (fun i _ => blocks.length - (intOf i).toNat)
              case atStart => exact ⟨0, by omega, rfl, rfl, C⟩
              case round =>
                obtain ⟨k, hk, rfl, HQ2, hbv⟩ := hrel
                have hzv := hbv.size
                have hvF := hbG.tr le_rfl' hbv
                obtain ⟨e1, e2⟩ := HK.out _ hbv
                have z0 := cellOf e1 0
                have z1 := cellOf e1 1
                have z10 := cellOf e2 10
                simp at z0 z1 z10
                clear e1 e2
                by_cases hlt2 : k < blocks.length
                · have hki : (k : Int) < (blocks.length : Int) := by omega
                  rcases hslb.2.2 with h | ⟨bb, boff, rfl, hkn, hkrow⟩
                  · subst h; simp at hlt2
                  have hkn2 : bb < wr.heap.size := by have := hvF.size; omega
                  have HD2 := hid (Bl.tycL_drop p.mons blocks k hlt2)
                  have hkr := hkrow.below (hvF.mono hn) hkn
                  have hq : ∀ W, Below wr.heap.size wr W → _ := fun W hW => hT _ (List.getElem_mem hlt2) W (hvF.tr le_rfl' hW)
                  obtain ⟨u, hu⟩ : ∃ u, blocks[k].tyc p.mons = u := ⟨_, rfl⟩
                  simp only [hu] at hq
                  rw [hu] at HD2
                  clear hu
                  rcases he' : blocks[k] with ⟨bad, bcap, bbody⟩
                  have c0 := hkr k hlt2 0 (by omega)
                  simp only [he', Bl.cells, Bl.slice, Nat.mul_one, Nat.add_zero, List.getElem?_cons_zero] at hq c0
                  clear he' hT
                  have HK2 : Hid (∀ W, Below wr.heap.size wr W → W.cell? ⟨w.heap.size, 0, none⟩ = some (.slice pad pml pmc) ∧ W.cell? ⟨w.heap.size, 1, none⟩ = some (.slice prd prl prc) ∧ W.cell? ⟨sB, 10, none⟩ = some (.slice (some ⟨bb, boff, none⟩) blocks.length bcp) ∧ W.cell? ⟨bb, boff + k, none⟩ = some (.slice bad bbody.length bcap)) := fun W hW => ⟨(hW.cell (p := ⟨w.heap.size, 0, none⟩) (by show w.heap.size < _; omega)).trans z0, (hW.cell (p := ⟨w.heap.size, 1, none⟩) (by show w.heap.size < _; omega)).trans z1, (hW.cell (p := ⟨sB, 10, none⟩) (by show sB < _; omega)).trans z10, (hW.cell (p := ⟨bb, _, none⟩) hkn2).trans c0⟩
                  have D := below_drewV (Below.refl wr.heap.size wr)
                  clear c0 z0 z1
                  rcases u with _ | ⟨c, a⟩
                  · have hq := fun W hW => RoleBack.no (hq W hW) rfl
                    go_wp2
                    go_region_held3 (fun W => W.cell? ⟨w.heap.size, 0, none⟩ = some (.slice pad pml pmc) ∧ W.cell? ⟨w.heap.size, 1, none⟩ = some (.slice prd prl prc) ∧ W.cell? ⟨sB, 10, none⟩ = some (.slice (some ⟨bb, boff, none⟩) blocks.length bcp) ∧ W.cell? ⟨bb, boff + k, none⟩ = some (.slice bad bbody.length bcap)) (exact HK2.out _ D) (first | (go_at_call 29; (with_reducible refine (hq _ D).mono ?_); rintro r w1 ⟨rfl, bb⟩; have D := D.tr le_rfl' bb))
                    all_goals go_wp2
                    all_goals go_roundw
                    all_goals first
                      | exact ⟨k + 1, by omega, by go_num, by show _ = _; rw [HQ2.out, HD2.out]; rfl, hbv.tr le_rfl' D⟩
                      | (simp [intOf]; omega)
                  · have hq := fun W hW => RoleBack.yes2 (hq W hW) rfl
                    go_wp2
                    go_region_held3 (fun W => W.cell? ⟨w.heap.size, 0, none⟩ = some (.slice pad pml pmc) ∧ W.cell? ⟨w.heap.size, 1, none⟩ = some (.slice prd prl prc) ∧ W.cell? ⟨sB, 10, none⟩ = some (.slice (some ⟨bb, boff, none⟩) blocks.length bcp) ∧ W.cell? ⟨bb, boff + k, none⟩ = some (.slice bad bbody.length bcap)) (exact HK2.out _ D) (first | (go_at_call 29; (with_reducible refine (hq _ D).mono ?_); rintro r w1 ⟨rfl, hcb, bb⟩; have D := D.tr le_rfl' bb))
                    all_goals go_wp2
                    all_goals go_ret2
                    all_goals exact roleBack_yes hcb (by rw [HU.out, HQ.out, HD.out, HSU.out, HOWN.out, HQ2.out, HD2.out]; rfl) (hvF.tr le_rfl' D)
                · have hjd2 : decide ((k : Int) < (blocks.length : Int)) = false := by simp; omega
                  go_wp2
                  all_goals go_roundw
                  all_goals first
                    | exact ⟨j + 1, by omega, by go_num, by show _ = _; rw [HQ.out, HD.out, HSU.out, HOWN.out, HQ2.out, Bl.tycL_end _ _ _ (by omega)]; rfl, (hbw.tr le_rfl' hB1).trans (hbv.mono (by omega))⟩
                    | (simp [intOf]; omega)
            · have hib : (is != 2) = true := by rw [bne_iff_ne]; exact hit
              have HOWN : Hid (stOwn p.mons 2 mon name (.mk eop emon ename en ead ecap ekids epos) = some (70, epos)) := by
                show _ = _
                rw [HOW.out]; simp [hit]
              clear hit HOW
              go_upto_region 15 with (first
                | (go_at_call 23; (with_reducible refine (hE1 _ (hbG.tr le_rfl' C)).mono ?_); rintro r u1 ⟨rfl, bb⟩; have C := C.tr le_rfl' bb; obtain ⟨e1, e2⟩ := HK.out _ C; have x0 := cellOf e1 0; have x1 := cellOf e1 1; have y0 := cellOf e2 0; have y1 := cellOf e2 1; have y2 := cellOf e2 2; have y3 := cellOf e2 3; have y4 := cellOf e2 4; have y5 := cellOf e2 5; have y6 := cellOf e2 6; have y7 := cellOf e2 7; have y8 := cellOf e2 8; have y9 := cellOf e2 9; have y10 := cellOf e2 10; have y11 := cellOf e2 11; simp at x0 x1 y0 y1 y2 y3 y4 y5 y6 y7 y8 y9 y10 y11; clear e1 e2)
                | (go_at_call 38; (with_reducible refine (hS1 _ (hbG.tr le_rfl' C)).mono ?_); rintro r u2 ⟨rfl, bb⟩; have C := C.tr le_rfl' bb; obtain ⟨e1, e2⟩ := HK.out _ C; have x0 := cellOf e1 0; have x1 := cellOf e1 1; have y0 := cellOf e2 0; have y1 := cellOf e2 1; have y2 := cellOf e2 2; have y3 := cellOf e2 3; have y4 := cellOf e2 4; have y5 := cellOf e2 5; have y6 := cellOf e2 6; have y7 := cellOf e2 7; have y8 := cellOf e2 8; have y9 := cellOf e2 9; have y10 := cellOf e2 10; have y11 := cellOf e2 11; simp at x0 x1 y0 y1 y2 y3 y4 y5 y6 y7 y8 y9 y10 y11; clear e1 e2)
                | (go_at_call 28; (with_reducible refine (h28 _ (hbG.tr le_rfl' C)).mono ?_); rintro r u3 ⟨ad2, cp2, rfl, hsl2, bb⟩; obtain ⟨b2, off2, rfl, hb2, hrow2⟩ := slSome hsl2 hsl0; have d1 := (hrow2 sx hsl0 1 (by omega)).trans HE.out; have hcp1 := hsl2.1; have hcp2 := hsl2.2.1; unfold maxLen at hcp2; have C := C.tr le_rfl' bb; obtain ⟨e1, e2⟩ := HK.out _ C; have x0 := cellOf e1 0; have x1 := cellOf e1 1; have y0 := cellOf e2 0; have y1 := cellOf e2 1; have y2 := cellOf e2 2; have y3 := cellOf e2 3; have y4 := cellOf e2 4; have y5 := cellOf e2 5; have y6 := cellOf e2 6; have y7 := cellOf e2 7; have y8 := cellOf e2 8; have y9 := cellOf e2 9; have y10 := cellOf e2 10; have y11 := cellOf e2 11; simp at x0 x1 y0 y1 y2 y3 y4 y5 y6 y7 y8 y9 y10 y11; clear e1 e2))
              go_quiet (fail)
              go_wp2
              go_ret2
              have hbf := hbG.tr le_rfl' C
              exact roleBack_yes rfl (by rw [HU.out, HQ.out, HD.out, HSU.out, HOWN.out]; rfl) ⟨hbf.os, hbf.tape, hbf.output, hbf.size, hbf.block⟩
        have k2' : (kind == 2) = false := by rw [beq_eq_false_iff_ne]; exact k2
        have HOW1 : Hid (stOwn p.mons kind mon name (.mk eop emon ename en ead ecap ekids epos) = te.or (if is = 1 then none else some (70, epos))) := by
          show _ = _
          rw [HOW0.out, stWant, if_neg k2, if_pos (kk.resolve_left k2)]
        clear HOW0 h38 h28
        by_cases k3 : kind = 3
        · subst k3
          clear kk k2
          have HOW := HOW1
          clear HOW1
          rcases te with _ | ⟨c, a⟩
          case some =>
            have hcb : (c != 0) = true := by rw [bne_iff_ne]; rcases HPO.out c a rfl with rfl | rfl <;> decide
            have HOWN : Hid (stOwn p.mons 3 mon name (.mk eop emon ename en ead ecap ekids epos) = some (c, a)) := by show _ = _; rw [HOW.out]; rfl
            have hE1 := fun W hW => TyBack.yes (hE W hW) rfl
            go_wp2_with (go_at_call 23; (with_reducible refine (hE1 _ (hbG.tr le_rfl' C)).mono ?_); rintro r u1 ⟨rfl, bb⟩; have C := C.tr le_rfl' bb; obtain ⟨e1, e2⟩ := HK.out _ C; have x0 := cellOf e1 0; have x1 := cellOf e1 1; have y0 := cellOf e2 0; have y1 := cellOf e2 1; have y2 := cellOf e2 2; have y3 := cellOf e2 3; have y4 := cellOf e2 4; have y5 := cellOf e2 5; have y6 := cellOf e2 6; have y7 := cellOf e2 7; have y8 := cellOf e2 8; have y9 := cellOf e2 9; have y10 := cellOf e2 10; have y11 := cellOf e2 11; simp at x0 x1 y0 y1 y2 y3 y4 y5 y6 y7 y8 y9 y10 y11; clear e1 e2)
            go_ret2
            exact roleBack_yes hcb (by rw [HU.out, HQ.out, HD.out, HSU.out, HOWN.out]; rfl) (hbG.tr le_rfl' C)
          have hE1 := fun W hW => TyBack.no (hE W hW) rfl
          by_cases hit : is = 1
          · have HOWN : Hid (stOwn p.mons 3 mon name (.mk eop emon ename en ead ecap ekids epos) = none) := by
              show _ = _
              rw [HOW.out]; simp [hit]
            subst hit
            clear HOW
            go_wp2_with (first
              | (go_at_call 23; (with_reducible refine (hE1 _ (hbG.tr le_rfl' C)).mono ?_); rintro r u1 ⟨rfl, bb⟩; have C := C.tr le_rfl' bb; obtain ⟨e1, e2⟩ := HK.out _ C; have x0 := cellOf e1 0; have x1 := cellOf e1 1; have y0 := cellOf e2 0; have y1 := cellOf e2 1; have y2 := cellOf e2 2; have y3 := cellOf e2 3; have y4 := cellOf e2 4; have y5 := cellOf e2 5; have y6 := cellOf e2 6; have y7 := cellOf e2 7; have y8 := cellOf e2 8; have y9 := cellOf e2 9; have y10 := cellOf e2 10; have y11 := cellOf e2 11; simp at x0 x1 y0 y1 y2 y3 y4 y5 y6 y7 y8 y9 y10 y11; clear e1 e2))
            clear x0 x1 y0 y1 y2 y3 y4 y5 y6 y7 y8 y9 y10 y11
            go_loopw [14] (fun i wr => ∃ k : Nat, k ≤ blocks.length ∧ i = .int .i64 k ∧ Hid (Bl.tycL p.mons blocks = Bl.tycL p.mons (blocks.drop k)) ∧ Below W1.heap.size W1 wr)
              (fun i _ => blocks.length - (intOf i).toNat)
            case atStart => exact ⟨0, by omega, rfl, rfl, C⟩
            case round =>
              obtain ⟨k, hk, rfl, HQ2, hbv⟩ := hrel
              have hzv := hbv.size
              have hvF := hbG.tr le_rfl' hbv
              obtain ⟨e1, e2⟩ := HK.out _ hbv
              have z0 := cellOf e1 0
              have z1 := cellOf e1 1
              have z10 := cellOf e2 10
              simp at z0 z1 z10
              clear e1 e2
              by_cases hlt2 : k < blocks.length
              · have hki : (k : Int) < (blocks.length : Int) := by omega
                rcases hslb.2.2 with h | ⟨bb, boff, rfl, hkn, hkrow⟩
                · subst h; simp at hlt2
                have hkn2 : bb < wr.heap.size := by have := hvF.size; omega
                have HD2 := hid (Bl.tycL_drop p.mons blocks k hlt2)
                have hkr := hkrow.below (hvF.mono hn) hkn
                have hq : ∀ W, Below wr.heap.size wr W → _ := fun W hW => hT _ (List.getElem_mem hlt2) W (hvF.tr le_rfl' hW)
                obtain ⟨u, hu⟩ : ∃ u, blocks[k].tyc p.mons = u := ⟨_, rfl⟩
                simp only [hu] at hq
                rw [hu] at HD2
                clear hu
                rcases he' : blocks[k] with ⟨bad, bcap, bbody⟩
                have c0 := hkr k hlt2 0 (by omega)
                simp only [he', Bl.cells, Bl.slice, Nat.mul_one, Nat.add_zero, List.getElem?_cons_zero] at hq c0
                clear he' hT
                have HK2 : Hid (∀ W, Below wr.heap.size wr W → W.cell? ⟨w.heap.size, 0, none⟩ = some (.slice pad pml pmc) ∧ W.cell? ⟨w.heap.size, 1, none⟩ = some (.slice prd prl prc) ∧ W.cell? ⟨sB, 10, none⟩ = some (.slice (some ⟨bb, boff, none⟩) blocks.length bcp) ∧ W.cell? ⟨bb, boff + k, none⟩ = some (.slice bad bbody.length bcap)) := fun W hW => ⟨(hW.cell (p := ⟨w.heap.size, 0, none⟩) (by show w.heap.size < _; omega)).trans z0, (hW.cell (p := ⟨w.heap.size, 1, none⟩) (by show w.heap.size < _; omega)).trans z1, (hW.cell (p := ⟨sB, 10, none⟩) (by show sB < _; omega)).trans z10, (hW.cell (p := ⟨bb, _, none⟩) hkn2).trans c0⟩
                have D := below_drewV (Below.refl wr.heap.size wr)
                clear c0 z0 z1
                rcases u with _ | ⟨c, a⟩
                · have hq := fun W hW => RoleBack.no (hq W hW) rfl
                  go_wp2
                  go_region_held3 (fun W => W.cell? ⟨w.heap.size, 0, none⟩ = some (.slice pad pml pmc) ∧ W.cell? ⟨w.heap.size, 1, none⟩ = some (.slice prd prl prc) ∧ W.cell? ⟨sB, 10, none⟩ = some (.slice (some ⟨bb, boff, none⟩) blocks.length bcp) ∧ W.cell? ⟨bb, boff + k, none⟩ = some (.slice bad bbody.length bcap)) (exact HK2.out _ D) (first | (go_at_call 29; (with_reducible refine (hq _ D).mono ?_); rintro r w1 ⟨rfl, bb⟩; have D := D.tr le_rfl' bb))
                  all_goals go_wp2
                  all_goals go_roundw
                  all_goals first
                    | exact ⟨k + 1, by omega, by go_num, by show _ = _; rw [HQ2.out, HD2.out]; rfl, hbv.tr le_rfl' D⟩
                    | (simp [intOf]; omega)
                · have hq := fun W hW => RoleBack.yes2 (hq W hW) rfl
                  go_wp2
                  go_region_held3 (fun W => W.cell? ⟨w.heap.size, 0, none⟩ = some (.slice pad pml pmc) ∧ W.cell? ⟨w.heap.size, 1, none⟩ = some (.slice prd prl prc) ∧ W.cell? ⟨sB, 10, none⟩ = some (.slice (some ⟨bb, boff, none⟩) blocks.length bcp) ∧ W.cell? ⟨bb, boff + k, none⟩ = some (.slice bad bbody.length bcap)) (exact HK2.out _ D) (first | (go_at_call 29; (with_reducible refine (hq _ D).mono ?_); rintro r w1 ⟨rfl, hcb, bb⟩; have D := D.tr le_rfl' bb))
                  all_goals go_wp2
                  all_goals go_ret2
                  all_goals exact roleBack_yes hcb (by rw [HU.out, HQ.out, HD.out, HSU.out, HOWN.out, HQ2.out, HD2.out]; rfl) (hvF.tr le_rfl' D)
              · have hjd2 : decide ((k : Int) < (blocks.length : Int)) = false := by simp; omega
                go_wp2
                all_goals go_roundw
                all_goals first
                  | exact ⟨j + 1, by omega, by go_num, by show _ = _; rw [HQ.out, HD.out, HSU.out, HOWN.out, HQ2.out, Bl.tycL_end _ _ _ (by omega)]; rfl, (hbw.tr le_rfl' hB1).trans (hbv.mono (by omega))⟩
                  | (simp [intOf]; omega)
          · have hib : (is != 1) = true := by rw [bne_iff_ne]; exact hit
            have HOWN : Hid (stOwn p.mons 3 mon name (.mk eop emon ename en ead ecap ekids epos) = some (70, epos)) := by
              show _ = _
              rw [HOW.out]; simp [hit]
            clear hit HOW
            go_upto_region 15 with (first
              | (go_at_call 23; (with_reducible refine (hE1 _ (hbG.tr le_rfl' C)).mono ?_); rintro r u1 ⟨rfl, bb⟩; have C := C.tr le_rfl' bb; obtain ⟨e1, e2⟩ := HK.out _ C; have x0 := cellOf e1 0; have x1 := cellOf e1 1; have y0 := cellOf e2 0; have y1 := cellOf e2 1; have y2 := cellOf e2 2; have y3 := cellOf e2 3; have y4 := cellOf e2 4; have y5 := cellOf e2 5; have y6 := cellOf e2 6; have y7 := cellOf e2 7; have y8 := cellOf e2 8; have y9 := cellOf e2 9; have y10 := cellOf e2 10; have y11 := cellOf e2 11; simp at x0 x1 y0 y1 y2 y3 y4 y5 y6 y7 y8 y9 y10 y11; clear e1 e2))
            go_quiet (fail)
            go_wp2
            go_ret2
            have hbf := hbG.tr le_rfl' C
            exact roleBack_yes rfl (by rw [HU.out, HQ.out, HD.out, HSU.out, HOWN.out]; rfl) ⟨hbf.os, hbf.tape, hbf.output, hbf.size, hbf.block⟩
        have k4 : kind = 4 := by omega
        subst k4
        clear kk k2 k3
        have HOW := HOW1
        clear HOW1
        rcases te with _ | ⟨c, a⟩
        case some =>
          have hcb : (c != 0) = true := by rw [bne_iff_ne]; rcases HPO.out c a rfl with rfl | rfl <;> decide
          have HOWN : Hid (stOwn p.mons 4 mon name (.mk eop emon ename en ead ecap ekids epos) = some (c, a)) := by show _ = _; rw [HOW.out]; rfl
          have hE1 := fun W hW => TyBack.yes (hE W hW) rfl
          go_wp2_with (go_at_call 23; (with_reducible refine (hE1 _ (hbG.tr le_rfl' C)).mono ?_); rintro r u1 ⟨rfl, bb⟩; have C := C.tr le_rfl' bb; obtain ⟨e1, e2⟩ := HK.out _ C; have x0 := cellOf e1 0; have x1 := cellOf e1 1; have y0 := cellOf e2 0; have y1 := cellOf e2 1; have y2 := cellOf e2 2; have y3 := cellOf e2 3; have y4 := cellOf e2 4; have y5 := cellOf e2 5; have y6 := cellOf e2 6; have y7 := cellOf e2 7; have y8 := cellOf e2 8; have y9 := cellOf e2 9; have y10 := cellOf e2 10; have y11 := cellOf e2 11; simp at x0 x1 y0 y1 y2 y3 y4 y5 y6 y7 y8 y9 y10 y11; clear e1 e2)
          go_ret2
          exact roleBack_yes hcb (by rw [HU.out, HQ.out, HD.out, HSU.out, HOWN.out]; rfl) (hbG.tr le_rfl' C)
        have hE1 := fun W hW => TyBack.no (hE W hW) rfl
        by_cases hit : is = 1
        · have HOWN : Hid (stOwn p.mons 4 mon name (.mk eop emon ename en ead ecap ekids epos) = none) := by
            show _ = _
            rw [HOW.out]; simp [hit]
          subst hit
          clear HOW
          go_wp2_with (first
            | (go_at_call 23; (with_reducible refine (hE1 _ (hbG.tr le_rfl' C)).mono ?_); rintro r u1 ⟨rfl, bb⟩; have C := C.tr le_rfl' bb; obtain ⟨e1, e2⟩ := HK.out _ C; have x0 := cellOf e1 0; have x1 := cellOf e1 1; have y0 := cellOf e2 0; have y1 := cellOf e2 1; have y2 := cellOf e2 2; have y3 := cellOf e2 3; have y4 := cellOf e2 4; have y5 := cellOf e2 5; have y6 := cellOf e2 6; have y7 := cellOf e2 7; have y8 := cellOf e2 8; have y9 := cellOf e2 9; have y10 := cellOf e2 10; have y11 := cellOf e2 11; simp at x0 x1 y0 y1 y2 y3 y4 y5 y6 y7 y8 y9 y10 y11; clear e1 e2))
          clear x0 x1 y0 y1 y2 y3 y4 y5 y6 y7 y8 y9 y10 y11
          go_loopw [14] (fun i wr => ∃ k : Nat, k ≤ blocks.length ∧ i = .int .i64 k ∧ Hid (Bl.tycL p.mons blocks = Bl.tycL p.mons (blocks.drop k)) ∧ Below W1.heap.size W1 wr)
            (fun i _ => blocks.length - (intOf i).toNat)
          case atStart => exact ⟨0, by omega, rfl, rfl, C⟩
          case round =>
            obtain ⟨k, hk, rfl, HQ2, hbv⟩ := hrel
            have hzv := hbv.size
            have hvF := hbG.tr le_rfl' hbv
            obtain ⟨e1, e2⟩ := HK.out _ hbv
            have z0 := cellOf e1 0
            have z1 := cellOf e1 1
            have z10 := cellOf e2 10
            simp at z0 z1 z10
            clear e1 e2
            by_cases hlt2 : k < blocks.length
            · have hki : (k : Int) < (blocks.length : Int) := by omega
              rcases hslb.2.2 with h | ⟨bb, boff, rfl, hkn, hkrow⟩
              · subst h; simp at hlt2
              have hkn2 : bb < wr.heap.size := by have := hvF.size; omega
              have HD2 := hid (Bl.tycL_drop p.mons blocks k hlt2)
              have hkr := hkrow.below (hvF.mono hn) hkn
              have hq : ∀ W, Below wr.heap.size wr W → _ := fun W hW => hT _ (List.getElem_mem hlt2) W (hvF.tr le_rfl' hW)
              obtain ⟨u, hu⟩ : ∃ u, blocks[k].tyc p.mons = u := ⟨_, rfl⟩
              simp only [hu] at hq
              rw [hu] at HD2
              clear hu
              rcases he' : blocks[k] with ⟨bad, bcap, bbody⟩
              have c0 := hkr k hlt2 0 (by omega)
              simp only [he', Bl.cells, Bl.slice, Nat.mul_one, Nat.add_zero, List.getElem?_cons_zero] at hq c0
              clear he' hT
              have HK2 : Hid (∀ W, Below wr.heap.size wr W → W.cell? ⟨w.heap.size, 0, none⟩ = some (.slice pad pml pmc) ∧ W.cell? ⟨w.heap.size, 1, none⟩ = some (.slice prd prl prc) ∧ W.cell? ⟨sB, 10, none⟩ = some (.slice (some ⟨bb, boff, none⟩) blocks.length bcp) ∧ W.cell? ⟨bb, boff + k, none⟩ = some (.slice bad bbody.length bcap)) := fun W hW => ⟨(hW.cell (p := ⟨w.heap.size, 0, none⟩) (by show w.heap.size < _; omega)).trans z0, (hW.cell (p := ⟨w.heap.size, 1, none⟩) (by show w.heap.size < _; omega)).trans z1, (hW.cell (p := ⟨sB, 10, none⟩) (by show sB < _; omega)).trans z10, (hW.cell (p := ⟨bb, _, none⟩) hkn2).trans c0⟩
              have D := below_drewV (Below.refl wr.heap.size wr)
              clear c0 z0 z1
              rcases u with _ | ⟨c, a⟩
              · have hq := fun W hW => RoleBack.no (hq W hW) rfl
                go_wp2
                go_region_held3 (fun W => W.cell? ⟨w.heap.size, 0, none⟩ = some (.slice pad pml pmc) ∧ W.cell? ⟨w.heap.size, 1, none⟩ = some (.slice prd prl prc) ∧ W.cell? ⟨sB, 10, none⟩ = some (.slice (some ⟨bb, boff, none⟩) blocks.length bcp) ∧ W.cell? ⟨bb, boff + k, none⟩ = some (.slice bad bbody.length bcap)) (exact HK2.out _ D) (first | (go_at_call 29; (with_reducible refine (hq _ D).mono ?_); rintro r w1 ⟨rfl, bb⟩; have D := D.tr le_rfl' bb))
                all_goals go_wp2
                all_goals go_roundw
                all_goals first
                  | exact ⟨k + 1, by omega, by go_num, by show _ = _; rw [HQ2.out, HD2.out]; rfl, hbv.tr le_rfl' D⟩
                  | (simp [intOf]; omega)
              · have hq := fun W hW => RoleBack.yes2 (hq W hW) rfl
                go_wp2
                go_region_held3 (fun W => W.cell? ⟨w.heap.size, 0, none⟩ = some (.slice pad pml pmc) ∧ W.cell? ⟨w.heap.size, 1, none⟩ = some (.slice prd prl prc) ∧ W.cell? ⟨sB, 10, none⟩ = some (.slice (some ⟨bb, boff, none⟩) blocks.length bcp) ∧ W.cell? ⟨bb, boff + k, none⟩ = some (.slice bad bbody.length bcap)) (exact HK2.out _ D) (first | (go_at_call 29; (with_reducible refine (hq _ D).mono ?_); rintro r w1 ⟨rfl, hcb, bb⟩; have D := D.tr le_rfl' bb))
                all_goals go_wp2
                all_goals go_ret2
                all_goals exact roleBack_yes hcb (by rw [HU.out, HQ.out, HD.out, HSU.out, HOWN.out, HQ2.out, HD2.out]; rfl) (hvF.tr le_rfl' D)
            · have hjd2 : decide ((k : Int) < (blocks.length : Int)) = false := by simp; omega
              go_wp2
              all_goals go_roundw
              all_goals first
                | exact ⟨j + 1, by omega, by go_num, by show _ = _; rw [HQ.out, HD.out, HSU.out, HOWN.out, HQ2.out, Bl.tycL_end _ _ _ (by omega)]; rfl, (hbw.tr le_rfl' hB1).trans (hbv.mono (by omega))⟩
                | (simp [intOf]; omega)
        · have hib : (is != 1) = true := by rw [bne_iff_ne]; exact hit
          have HOWN : Hid (stOwn p.mons 4 mon name (.mk eop emon ename en ead ecap ekids epos) = some (70, epos)) := by
            show _ = _
            rw [HOW.out]; simp [hit]
          clear hit HOW
          go_upto_region 15 with (first
            | (go_at_call 23; (with_reducible refine (hE1 _ (hbG.tr le_rfl' C)).mono ?_); rintro r u1 ⟨rfl, bb⟩; have C := C.tr le_rfl' bb; obtain ⟨e1, e2⟩ := HK.out _ C; have x0 := cellOf e1 0; have x1 := cellOf e1 1; have y0 := cellOf e2 0; have y1 := cellOf e2 1; have y2 := cellOf e2 2; have y3 := cellOf e2 3; have y4 := cellOf e2 4; have y5 := cellOf e2 5; have y6 := cellOf e2 6; have y7 := cellOf e2 7; have y8 := cellOf e2 8; have y9 := cellOf e2 9; have y10 := cellOf e2 10; have y11 := cellOf e2 11; simp at x0 x1 y0 y1 y2 y3 y4 y5 y6 y7 y8 y9 y10 y11; clear e1 e2))
          go_quiet (fail)
          go_wp2
          go_ret2
          have hbf := hbG.tr le_rfl' C
          exact roleBack_yes rfl (by rw [HU.out, HQ.out, HD.out, HSU.out, HOWN.out]; rfl) ⟨hbf.os, hbf.tape, hbf.output, hbf.size, hbf.block⟩
      · have k2' : (kind == 2) = false := by rw [beq_eq_false_iff_ne]; intro h; exact kk (.inl h)
        have k3' : (kind == 3) = false := by rw [beq_eq_false_iff_ne]; intro h; exact kk (.inr (.inl h))
        have k4' : (kind == 4) = false := by rw [beq_eq_false_iff_ne]; intro h; exact kk (.inr (.inr h))
        have HOWN : Hid (stOwn p.mons kind mon name (.mk eop emon ename en ead ecap ekids epos) = none) := by
          show _ = _
          rw [HOW0.out, stWant, if_neg (fun h => kk (.inl h)), if_neg (fun h => kk (.inr h))]
        clear HOW0 kk hEE h38 h28 HPO
        go_wp2
        clear x0 x1 y0 y1 y2 y3 y4 y5 y6 y7 y8 y9 y10 y11
        go_loopw [14] (fun i wr => ∃ k : Nat, k ≤ blocks.length ∧ i = .int .i64 k ∧ Hid (Bl.tycL p.mons blocks = Bl.tycL p.mons (blocks.drop k)) ∧ Below W1.heap.size W1 wr)
          (fun i _ => blocks.length - (intOf i).toNat)
        case atStart => exact ⟨0, by omega, rfl, rfl, C⟩
        case round =>
          obtain ⟨k, hk, rfl, HQ2, hbv⟩ := hrel
          have hzv := hbv.size
          have hvF := hbG.tr le_rfl' hbv
          obtain ⟨e1, e2⟩ := HK.out _ hbv
          have z0 := cellOf e1 0
          have z1 := cellOf e1 1
          have z10 := cellOf e2 10
          simp at z0 z1 z10
          clear e1 e2
          by_cases hlt2 : k < blocks.length
          · have hki : (k : Int) < (blocks.length : Int) := by omega
            rcases hslb.2.2 with h | ⟨bb, boff, rfl, hkn, hkrow⟩
            · subst h; simp at hlt2
            have hkn2 : bb < wr.heap.size := by have := hvF.size; omega
            have HD2 := hid (Bl.tycL_drop p.mons blocks k hlt2)
            have hkr := hkrow.below (hvF.mono hn) hkn
            have hq : ∀ W, Below wr.heap.size wr W → _ := fun W hW => hT _ (List.getElem_mem hlt2) W (hvF.tr le_rfl' hW)
            obtain ⟨u, hu⟩ : ∃ u, blocks[k].tyc p.mons = u := ⟨_, rfl⟩
            simp only [hu] at hq
            rw [hu] at HD2
            clear hu
            rcases he' : blocks[k] with ⟨bad, bcap, bbody⟩
            have c0 := hkr k hlt2 0 (by omega)
            simp only [he', Bl.cells, Bl.slice, Nat.mul_one, Nat.add_zero, List.getElem?_cons_zero] at hq c0
            clear he' hT
            have HK2 : Hid (∀ W, Below wr.heap.size wr W → W.cell? ⟨w.heap.size, 0, none⟩ = some (.slice pad pml pmc) ∧ W.cell? ⟨w.heap.size, 1, none⟩ = some (.slice prd prl prc) ∧ W.cell? ⟨sB, 10, none⟩ = some (.slice (some ⟨bb, boff, none⟩) blocks.length bcp) ∧ W.cell? ⟨bb, boff + k, none⟩ = some (.slice bad bbody.length bcap)) := fun W hW => ⟨(hW.cell (p := ⟨w.heap.size, 0, none⟩) (by show w.heap.size < _; omega)).trans z0, (hW.cell (p := ⟨w.heap.size, 1, none⟩) (by show w.heap.size < _; omega)).trans z1, (hW.cell (p := ⟨sB, 10, none⟩) (by show sB < _; omega)).trans z10, (hW.cell (p := ⟨bb, _, none⟩) hkn2).trans c0⟩
            have D := below_drewV (Below.refl wr.heap.size wr)
            clear c0 z0 z1
            rcases u with _ | ⟨c, a⟩
            · have hq := fun W hW => RoleBack.no (hq W hW) rfl
              go_wp2
              go_region_held3 (fun W => W.cell? ⟨w.heap.size, 0, none⟩ = some (.slice pad pml pmc) ∧ W.cell? ⟨w.heap.size, 1, none⟩ = some (.slice prd prl prc) ∧ W.cell? ⟨sB, 10, none⟩ = some (.slice (some ⟨bb, boff, none⟩) blocks.length bcp) ∧ W.cell? ⟨bb, boff + k, none⟩ = some (.slice bad bbody.length bcap)) (exact HK2.out _ D) (first | (go_at_call 29; (with_reducible refine (hq _ D).mono ?_); rintro r w1 ⟨rfl, bb⟩; have D := D.tr le_rfl' bb))
              all_goals go_wp2
              all_goals go_roundw
              all_goals first
                | exact ⟨k + 1, by omega, by go_num, by show _ = _; rw [HQ2.out, HD2.out]; rfl, hbv.tr le_rfl' D⟩
                | (simp [intOf]; omega)
            · have hq := fun W hW => RoleBack.yes2 (hq W hW) rfl
              go_wp2
              go_region_held3 (fun W => W.cell? ⟨w.heap.size, 0, none⟩ = some (.slice pad pml pmc) ∧ W.cell? ⟨w.heap.size, 1, none⟩ = some (.slice prd prl prc) ∧ W.cell? ⟨sB, 10, none⟩ = some (.slice (some ⟨bb, boff, none⟩) blocks.length bcp) ∧ W.cell? ⟨bb, boff + k, none⟩ = some (.slice bad bbody.length bcap)) (exact HK2.out _ D) (first | (go_at_call 29; (with_reducible refine (hq _ D).mono ?_); rintro r w1 ⟨rfl, hcb, bb⟩; have D := D.tr le_rfl' bb))
              all_goals go_wp2
              all_goals go_ret2
              all_goals exact roleBack_yes hcb (by rw [HU.out, HQ.out, HD.out, HSU.out, HOWN.out, HQ2.out, HD2.out]; rfl) (hvF.tr le_rfl' D)
          · have hjd2 : decide ((k : Int) < (blocks.length : Int)) = false := by simp; omega
            go_wp2
            all_goals go_roundw
            all_goals first
              | exact ⟨j + 1, by omega, by go_num, by show _ = _; rw [HQ.out, HD.out, HSU.out, HOWN.out, HQ2.out, Bl.tycL_end _ _ _ (by omega)]; rfl, (hbw.tr le_rfl' hB1).trans (hbv.mono (by omega))⟩
              | (simp [intOf]; omega)
    · have hjd : decide ((j : Int) < (body.length : Int)) = false := by simp; omega
      go_wp2
      go_ret2
      exact roleBack_no (by rw [HU.out, HQ.out, St.tycL_end _ _ _ (by omega)]) hbF
theorem refStmts7_any (p : Pr) (hvs : vsum p.mons ≤ 1000000) (hgv : GoodV p.mons) (x : Bl) : BlRf p x :=
  Bl.ind (P := fun s => ∀ b ∈ s.blocks, BlRf p b) (Q := BlRf p) (fun _ _ _ _ _ _ _ _ _ ih => ih) (fun ad cap body ih => refStmts7_step p hvs hgv ad cap body ih) x
end Go.Proofs.YtgfdegogknoknaaDoor
