/-
  reckon of package value: what an expression that has a type comes to.
-/
import Derived.Test.YtopiceoofdlkbaaDoorVlA
import Derived.Deep.RegionHeld3
import Derived.Deep.Cut
namespace Go.Proofs.YtopiceoofdlkbaaDoor
open Go.RowKit
theorem below_drewV {B : Nat} {w w' : World} (h : Below B w w') : Below B w w'.drew := ⟨h.os, h.tape, h.output, h.size, h.block⟩
/-- A number's one cell. -/
def iv (x : Int) : List Value := [.int .i64 x]
theorem slotIx_lt {l : List Mo} {mon name : ByteArray} {s : Nat} (h : slotIx l mon name = some s) : s < vsum l := by
  obtain ⟨i, hi, k, hk, rfl, -, -⟩ := slotIx_parts h
  have h1 := allV_at l i hi k hk
  obtain ⟨h2, -⟩ := List.getElem?_eq_some_iff.1 h1
  rw [allV_len] at h2
  exact h2
set_option maxRecDepth 100000 in
set_option maxHeartbeats 8000000 in
theorem clos42_any (pad : Option Addr) (pml pmc : Nat) (prd : Option Addr) (prl prc : Nat) (vad : Option Addr) (vs : List Int) (vcap : Nat) (kb koff cap : Nat) (kids : List Ex) (B C : Nat) (o : Option Int) (w : World) (hlt : 1 < kids.length) (hB : B < w.heap.size) (hC : C < w.heap.size) (hkb : kb < w.heap.size)
    (m0 : w.cell? ⟨B, 0, none⟩ = some (.slice pad pml pmc)) (m1 : w.cell? ⟨B, 1, none⟩ = some (.slice prd prl prc)) (m2 : w.cell? ⟨B, 2, none⟩ = some (.slice vad vs.length vcap)) (s4 : w.cell? ⟨C, 4, none⟩ = some (.slice (some ⟨kb, koff, none⟩) kids.length cap)) (hrow : RowAt 6 Ex.cells w kb koff kids)
    (hq : ∀ W, Below w.heap.size w W → Calls Tryd.prog 26 #[.agg #[.slice pad pml pmc, .slice prd prl prc, .slice vad vs.length vcap], kids[1].val] W fun r w' => RkBack o W w' r) :
    Calls Tryd.prog 42 #[.pointer (some ⟨B, 0, none⟩), .pointer (some ⟨C, 0, none⟩)] w fun r w' => RkBack o w w' r := by
  have hki : (1 : Int) < (kids.length : Int) := by omega
  rcases he' : kids[1] with ⟨op1, mon1, name1, n1, ad1, cap1, kids1, pos1⟩
  obtain ⟨c0, c1, c2, c3, c4, c5⟩ := row6 hrow 1 hlt (by rw [he']; rfl)
  simp only [he', Ex.val, Ex.cells] at hq
  simp only [Nat.one_mul, Nat.add_assoc, Nat.reduceAdd] at c0 c1 c2 c3 c4 c5
  clear he' hrow
  have HK : Hid (∀ W, Below w.heap.size w W → W.cell? ⟨B, 0, none⟩ = some (.slice pad pml pmc) ∧ W.cell? ⟨B, 1, none⟩ = some (.slice prd prl prc) ∧ W.cell? ⟨B, 2, none⟩ = some (.slice vad vs.length vcap) ∧ W.cell? ⟨C, 4, none⟩ = some (.slice (some ⟨kb, koff, none⟩) kids.length cap) ∧ W.cell? ⟨kb, koff + 6, none⟩ = some (.int .i64 op1) ∧ W.cell? ⟨kb, koff + 7, none⟩ = some (.string mon1) ∧ W.cell? ⟨kb, koff + 8, none⟩ = some (.string name1) ∧ W.cell? ⟨kb, koff + 9, none⟩ = some (.int .i64 n1) ∧ W.cell? ⟨kb, koff + 10, none⟩ = some (.slice ad1 kids1.length cap1) ∧ W.cell? ⟨kb, koff + 11, none⟩ = some (.int .i64 pos1)) := fun W hW => ⟨(hW.cell (p := ⟨B, 0, none⟩) hB).trans m0, (hW.cell (p := ⟨B, 1, none⟩) hB).trans m1, (hW.cell (p := ⟨B, 2, none⟩) hB).trans m2, (hW.cell (p := ⟨C, 4, none⟩) hC).trans s4, (hW.cell (p := ⟨kb, _, none⟩) hkb).trans c0, (hW.cell (p := ⟨kb, _, none⟩) hkb).trans c1, (hW.cell (p := ⟨kb, _, none⟩) hkb).trans c2, (hW.cell (p := ⟨kb, _, none⟩) hkb).trans c3, (hW.cell (p := ⟨kb, _, none⟩) hkb).trans c4, (hW.cell (p := ⟨kb, _, none⟩) hkb).trans c5⟩
  have D := below_drewV (Below.refl w.heap.size w)
  clear m0 m1 m2 s4 c0 c1 c2 c3 c4 c5
  rcases o with _ | x
  · have hq := fun W hW => RkBack.no (hq W hW) rfl
    go_enter Tryd.func42, Tryd.ntmps42
    go_wp2
    go_region_held3 (fun W => W.cell? ⟨B, 0, none⟩ = some (.slice pad pml pmc) ∧ W.cell? ⟨B, 1, none⟩ = some (.slice prd prl prc) ∧ W.cell? ⟨B, 2, none⟩ = some (.slice vad vs.length vcap) ∧ W.cell? ⟨C, 4, none⟩ = some (.slice (some ⟨kb, koff, none⟩) kids.length cap) ∧ W.cell? ⟨kb, koff + 6, none⟩ = some (.int .i64 op1) ∧ W.cell? ⟨kb, koff + 7, none⟩ = some (.string mon1) ∧ W.cell? ⟨kb, koff + 8, none⟩ = some (.string name1) ∧ W.cell? ⟨kb, koff + 9, none⟩ = some (.int .i64 n1) ∧ W.cell? ⟨kb, koff + 10, none⟩ = some (.slice ad1 kids1.length cap1) ∧ W.cell? ⟨kb, koff + 11, none⟩ = some (.int .i64 pos1)) (exact HK.out _ D) (first | (go_at_call 26; (with_reducible refine (hq _ D).mono ?_); rintro r w1 ⟨rfl, bb⟩; have D := D.tr le_rfl' bb))
    all_goals go_wp2
    all_goals go_ret2
    all_goals exact rkBack_no rfl D
  · have hq := fun W hW => RkBack.yes (hq W hW) rfl
    go_enter Tryd.func42, Tryd.ntmps42
    go_wp2
    go_region_held3 (fun W => W.cell? ⟨B, 0, none⟩ = some (.slice pad pml pmc) ∧ W.cell? ⟨B, 1, none⟩ = some (.slice prd prl prc) ∧ W.cell? ⟨B, 2, none⟩ = some (.slice vad vs.length vcap) ∧ W.cell? ⟨C, 4, none⟩ = some (.slice (some ⟨kb, koff, none⟩) kids.length cap) ∧ W.cell? ⟨kb, koff + 6, none⟩ = some (.int .i64 op1) ∧ W.cell? ⟨kb, koff + 7, none⟩ = some (.string mon1) ∧ W.cell? ⟨kb, koff + 8, none⟩ = some (.string name1) ∧ W.cell? ⟨kb, koff + 9, none⟩ = some (.int .i64 n1) ∧ W.cell? ⟨kb, koff + 10, none⟩ = some (.slice ad1 kids1.length cap1) ∧ W.cell? ⟨kb, koff + 11, none⟩ = some (.int .i64 pos1)) (exact HK.out _ D) (first | (go_at_call 26; (with_reducible refine (hq _ D).mono ?_); rintro r w1 ⟨rfl, hx, bb⟩; have D := D.tr le_rfl' bb))
    all_goals go_wp2
    all_goals go_ret2
    all_goals exact rkBack_yes hx rfl D
set_option maxRecDepth 100000 in
set_option maxHeartbeats 16000000 in
theorem reckon_any (p : Pr) (hvs : vsum p.mons ≤ 1000000) (vs : List Int) (hvl : vs.length = vsum p.mons) (hvi : ∀ x ∈ vs, I64 x) (vad : Option Addr) (vcap : Nat) (e : Ex) : ∀ (n₀ : Nat) (w : World), n₀ ≤ w.heap.size → p.Is n₀ w → SlAt 1 iv n₀ w vad vcap vs → e.Is n₀ w → e.ok = true → e.ter p.mons = none →
    Calls Tryd.prog 26 #[.agg #[.slice p.mad p.mons.length p.mcap, .slice p.rad p.roles.length p.rcap, .slice vad vs.length vcap], e.val] w fun r w' => RkBack (e.rk p.mons vs) w w' r := by
  induction e using Ex.ind with
  | h op mon name n ad cap kids pos ih =>
  intro n₀ w hn hp hV hI hok hter
  have HU := hid (Ex.rk_mk p.mons vs op mon name n ad cap kids pos)
  obtain ⟨hok1, hokk⟩ := ok_kids hok
  obtain ⟨ho1, ho2, hkl⟩ := ok1_parts hok1
  have HN := hid hI.down.1.2.1
  have hsl := hI.down.2.1
  have hIk := hI.down.2.2
  have hl1 := hsl.1; have hl2 := hsl.2.1
  unfold maxLen at hl2
  rw [Ex.ter_mk] at hter
  have h29 : ∀ W, Below w.heap.size w W → Calls Tryd.prog 29 #[p.val, .string mon, .string name] W fun r w' => FirstBack (slotIx p.mons mon name) W w' r := fun W hW => slot_any p mon name n₀ W (by have := hW.size; omega) (hp.below (hW.mono hn)) hvs
  have h26 : ∀ x ∈ kids, x.ter p.mons = none → ∀ W, Below w.heap.size w W → Calls Tryd.prog 26 #[.agg #[.slice p.mad p.mons.length p.mcap, .slice p.rad p.roles.length p.rcap, .slice vad vs.length vcap], x.val] W fun r w' => RkBack (x.rk p.mons vs) W w' r := fun x hx ht W hW => ih x hx n₀ W (by have := hW.size; omega) (hp.below (hW.mono hn)) (hV.below (hW.mono hn)) ((hIk x hx).below (hW.mono hn)) (hokk x hx) ht
  have HVL := hid hvl
  have HKL := hid hkl
  clear ih hIk hokk hI hok hok1 hvl hkl
  obtain ⟨pad, hpad⟩ : ∃ a, p.mad = a := ⟨_, rfl⟩
  obtain ⟨pml, hpml⟩ : ∃ a, p.mons.length = a := ⟨_, rfl⟩
  obtain ⟨pmc, hpmc⟩ : ∃ a, p.mcap = a := ⟨_, rfl⟩
  obtain ⟨prd, hprd⟩ : ∃ a, p.rad = a := ⟨_, rfl⟩
  obtain ⟨prl, hprl⟩ : ∃ a, p.roles.length = a := ⟨_, rfl⟩
  obtain ⟨prc, hprc⟩ : ∃ a, p.rcap = a := ⟨_, rfl⟩
  simp only [Pr.val, Ex.val, hpad, hpml, hpmc, hprd, hprl, hprc] at h29 h26 ⊢
  clear hpad hpml hpmc hprd hprl hprc hp
  simp only [Ex.cells] at ⊢
  go_enter Tryd.func26, Tryd.ntmps26
  go_upto_region 1 with fail
  obtain ⟨bP, bE, hB, hz⟩ := two_box w #[.slice pad pml pmc, .slice prd prl prc, .slice vad vs.length vcap] #[.int .i64 op, .string mon, .string name, .int .i64 n, .slice ad kids.length cap, .int .i64 pos] 70 28
  obtain ⟨W0, hW0⟩ : ∃ W0, (w.alloc (.cells #[.slice pad pml pmc, .slice prd prl prc, .slice vad vs.length vcap] 70)).alloc (.cells #[.int .i64 op, .string mon, .string name, .int .i64 n, .slice ad kids.length cap, .int .i64 pos] 28) = W0 := ⟨_, rfl⟩
  rw [hW0] at bP bE hB hz ⊢
  clear hW0
  have m0 := cellOf bP 0
  have m1 := cellOf bP 1
  have m2 := cellOf bP 2
  have s0 := cellOf bE 0
  have s1 := cellOf bE 1
  have s2 := cellOf bE 2
  have s3 := cellOf bE 3
  have s4 := cellOf bE 4
  simp at m0 m1 m2 s0 s1 s2 s3 s4
  have HZ := hid hz
  clear hz bP bE
  by_cases h1 : op = 1
  · subst h1
    have HR : Hid (Ex.rk p.mons vs (.mk 1 mon name n ad cap kids pos) = some n) := HU.out
    clear HU h26 h29 hter HKL hV HVL hvi
    go_wp2
    go_ret2
    exact rkBack_yes HN.out HR.out hB
  by_cases h2 : op = 2
  · subst h2
    have HR : Hid (Ex.rk p.mons vs (.mk 2 mon name n ad cap kids pos) = some 1) := HU.out
    have hq := bit_any true W0
    clear HU h26 h29 hter HKL hV HVL hvi
    go_wp2_with (go_at_call 38; (with_reducible refine hq.mono ?_); rintro r w1 ⟨rfl, hw'⟩; have hw2 := hw'.symm; subst hw2)
    go_ret2
    exact rkBack_yes (bitF_in true) HR.out hB
  by_cases h3 : op = 3
  · subst h3
    have HR : Hid (Ex.rk p.mons vs (.mk 3 mon name n ad cap kids pos) = some 0) := HU.out
    have hq := bit_any false W0
    clear HU h26 h29 hter HKL hV HVL hvi
    go_wp2_with (go_at_call 38; (with_reducible refine hq.mono ?_); rintro r w1 ⟨rfl, hw'⟩; have hw2 := hw'.symm; subst hw2)
    go_ret2
    exact rkBack_yes (bitF_in false) HR.out hB
  by_cases h4 : op = 4
  · subst h4
    rw [if_pos rfl] at hter
    obtain ⟨s, hs⟩ : ∃ s, slotIx p.mons mon name = some s := by
      rcases h : slotIx p.mons mon name with _ | s
      · rw [varTy_none h] at hter; simp at hter
      · exact ⟨s, rfl⟩
    have hslt := slotIx_lt hs
    have hsv : s < vs.length := by have := HVL.out; omega
    have HR : Hid (Ex.rk p.mons vs (.mk 4 mon name n ad cap kids pos) = some vs[s]) := by
      show _ = _
      rw [HU.out]
      show some (slotV p.mons vs mon name) = _
      rw [slotV, hs]; simp [hsv]
    have hq := FirstBack.yes (h29 W0 hB) hs
    have HX := hid (hvi _ (List.getElem_mem hsv))
    clear h26 h29 hter HKL HVL hvi HU
    rcases hV.2.2 with h | ⟨vb, voff, rfl, hvb, hvrow⟩
    · subst h; simp at hsv
    have hv2 := hV.2.1
    unfold maxLen at hv2
    have hv1 := hV.1
    have c0 := (hvrow.below (hB.mono hn) hvb) s hsv 0 (by omega)
    have hsi : (s : Int) < (vs.length : Int) := by omega
    obtain ⟨x, hx⟩ : ∃ x, vs[s] = x := ⟨_, rfl⟩
    simp only [hx, iv, Nat.mul_one, Nat.add_zero, List.getElem?_cons_zero] at c0 HR HX
    clear hx hs hslt hvrow
    go_wp2_with (go_at_call 29; (with_reducible refine hq.mono ?_); rintro r u1 ⟨rfl, bb1⟩; have hz0 := HZ.out; have hz1 := bb1.size; have x2 := (bb1.cell (p := ⟨w.heap.size, 2, none⟩) (by show w.heap.size < _; omega)).trans m2; have d0 := (bb1.cell (p := ⟨vb, _, none⟩) (by show vb < _; omega)).trans c0)
    go_ret2
    exact rkBack_yes HX.out HR.out (hB.tr le_rfl' bb1)
  rw [if_neg h4] at hter
  have hterk := (Ex.terL_none p.mons kids).1 (Option.or_eq_none_iff.1 hter).1
  clear hter h29 hV hvi
  have e1 : (op == 1) = false := by rw [beq_eq_false_iff_ne]; exact h1
  have e2 : (op == 2) = false := by rw [beq_eq_false_iff_ne]; exact h2
  have e3 : (op == 3) = false := by rw [beq_eq_false_iff_ne]; exact h3
  have e4 : (op == 4) = false := by rw [beq_eq_false_iff_ne]; exact h4
  have hk0 : 0 < kids.length := by
    rw [HKL.out, exKids, if_neg (by omega)]; split <;> omega
  have HU1 : Hid (Ex.rk p.mons vs (.mk op mon name n ad cap kids pos) = (kids[0].rk p.mons vs).bind fun a => unF op n a (kidO (Ex.rkL p.mons vs kids) 1)) := by
    show _ = _
    rw [HU.out, rkOp, if_neg h1, if_neg h2, if_neg h3, if_neg h4, kidO_rk p.mons vs kids 0 hk0]
  clear HU
  rcases hsl.2.2 with h | ⟨kb, koff, rfl, hbn, hrow⟩
  · subst h; simp at hk0
  have hz0 := HZ.out
  have hkb : kb < W0.heap.size := by omega
  have hki : (0 : Int) < (kids.length : Int) := by omega
  have hrw := hrow.below (hB.mono hn) hbn
  have hq : ∀ W, Below W0.heap.size W0 W → _ := fun W hW => h26 kids[0] (List.getElem_mem hk0) (hterk _ (List.getElem_mem hk0)) W (hB.tr le_rfl' hW)
  have hq1 : ∀ (h : 1 < kids.length), ∀ W, Below W0.heap.size W0 W → _ := fun h W hW => h26 kids[1] (List.getElem_mem h) (hterk _ (List.getElem_mem h)) W (hB.tr le_rfl' hW)
  have HQ1 := hid hq1
  clear hq1 h26 hterk hsl
  obtain ⟨o0, ho0⟩ : ∃ o0, kids[0].rk p.mons vs = o0 := ⟨_, rfl⟩
  simp only [ho0] at hq HU1
  clear ho0
  rcases he' : kids[0] with ⟨op1, mon1, name1, n1, ad1, cap1, kids1, pos1⟩
  obtain ⟨c0, c1, c2, c3, c4, c5⟩ := row6 hrw 0 hk0 (by rw [he']; rfl)
  simp only [he', Ex.cells] at hq
  simp only [Nat.zero_mul, Nat.add_zero] at c0 c1 c2 c3 c4 c5
  clear he'
  have HRW := hid hrw
  have HK : Hid (∀ W, Below W0.heap.size W0 W → W.cell? ⟨w.heap.size, 0, none⟩ = some (.slice pad pml pmc) ∧ W.cell? ⟨w.heap.size, 1, none⟩ = some (.slice prd prl prc) ∧ W.cell? ⟨w.heap.size, 2, none⟩ = some (.slice vad vs.length vcap) ∧ W.cell? ⟨w.heap.size + 1, 4, none⟩ = some (.slice (some ⟨kb, koff, none⟩) kids.length cap) ∧ W.cell? ⟨kb, koff, none⟩ = some (.int .i64 op1) ∧ W.cell? ⟨kb, koff + 1, none⟩ = some (.string mon1) ∧ W.cell? ⟨kb, koff + 2, none⟩ = some (.string name1) ∧ W.cell? ⟨kb, koff + 3, none⟩ = some (.int .i64 n1) ∧ W.cell? ⟨kb, koff + 4, none⟩ = some (.slice ad1 kids1.length cap1) ∧ W.cell? ⟨kb, koff + 5, none⟩ = some (.int .i64 pos1)) := fun W hW => ⟨(hW.cell (p := ⟨w.heap.size, 0, none⟩) (by show w.heap.size < _; omega)).trans m0, (hW.cell (p := ⟨w.heap.size, 1, none⟩) (by show w.heap.size < _; omega)).trans m1, (hW.cell (p := ⟨w.heap.size, 2, none⟩) (by show w.heap.size < _; omega)).trans m2, (hW.cell (p := ⟨w.heap.size + 1, 4, none⟩) (by show w.heap.size + 1 < _; omega)).trans s4, (hW.cell (p := ⟨kb, _, none⟩) hkb).trans c0, (hW.cell (p := ⟨kb, _, none⟩) hkb).trans c1, (hW.cell (p := ⟨kb, _, none⟩) hkb).trans c2, (hW.cell (p := ⟨kb, _, none⟩) hkb).trans c3, (hW.cell (p := ⟨kb, _, none⟩) hkb).trans c4, (hW.cell (p := ⟨kb, _, none⟩) hkb).trans c5⟩
  have HS0 : Hid (∀ W, Below W0.heap.size W0 W → W.cell? ⟨w.heap.size + 1, 0, none⟩ = some (.int .i64 op) ∧ W.cell? ⟨w.heap.size + 1, 3, none⟩ = some (.int .i64 n)) := fun W hW => ⟨(hW.cell (p := ⟨w.heap.size + 1, 0, none⟩) (by show w.heap.size + 1 < _; omega)).trans s0, (hW.cell (p := ⟨w.heap.size + 1, 3, none⟩) (by show w.heap.size + 1 < _; omega)).trans s3⟩
  have D := below_drewV (Below.refl W0.heap.size W0)
  clear c0 c1 c2 c3 c4 c5 hrw hrow m1 s1 s2
  rcases o0 with _ | a
  · have hq := fun W hW => RkBack.no (hq W hW) rfl
    go_wp2
    go_region_held3 (fun W => W.cell? ⟨w.heap.size, 0, none⟩ = some (.slice pad pml pmc) ∧ W.cell? ⟨w.heap.size, 1, none⟩ = some (.slice prd prl prc) ∧ W.cell? ⟨w.heap.size, 2, none⟩ = some (.slice vad vs.length vcap) ∧ W.cell? ⟨w.heap.size + 1, 4, none⟩ = some (.slice (some ⟨kb, koff, none⟩) kids.length cap) ∧ W.cell? ⟨kb, koff, none⟩ = some (.int .i64 op1) ∧ W.cell? ⟨kb, koff + 1, none⟩ = some (.string mon1) ∧ W.cell? ⟨kb, koff + 2, none⟩ = some (.string name1) ∧ W.cell? ⟨kb, koff + 3, none⟩ = some (.int .i64 n1) ∧ W.cell? ⟨kb, koff + 4, none⟩ = some (.slice ad1 kids1.length cap1) ∧ W.cell? ⟨kb, koff + 5, none⟩ = some (.int .i64 pos1)) (exact HK.out _ D) (first | (go_at_call 26; (with_reducible refine (hq _ D).mono ?_); rintro r w1 ⟨rfl, bb⟩; have D := D.tr le_rfl' bb))
    all_goals go_wp2
    all_goals go_ret2
    all_goals exact rkBack_no HU1.out (hB.tr le_rfl' D)
  have hq := fun W hW => RkBack.yes (hq W hW) rfl
  have HU2 : Hid (Ex.rk p.mons vs (.mk op mon name n (some ⟨kb, koff, none⟩) cap kids pos) = unF op n a (kidO (Ex.rkL p.mons vs kids) 1)) := HU1.out
  clear HU1
  by_cases h5 : op = 5
  · subst h5
    have HR : Hid (Ex.rk p.mons vs (.mk 5 mon name n (some ⟨kb, koff, none⟩) cap kids pos) = some (bitF (a == 0))) := HU2.out
    clear HU2 HQ1
    cases ht : (a == 0)
    all_goals rw [ht] at HR
    · go_wp2
      go_region_held3 (fun W => W.cell? ⟨w.heap.size, 0, none⟩ = some (.slice pad pml pmc) ∧ W.cell? ⟨w.heap.size, 1, none⟩ = some (.slice prd prl prc) ∧ W.cell? ⟨w.heap.size, 2, none⟩ = some (.slice vad vs.length vcap) ∧ W.cell? ⟨w.heap.size + 1, 4, none⟩ = some (.slice (some ⟨kb, koff, none⟩) kids.length cap) ∧ W.cell? ⟨kb, koff, none⟩ = some (.int .i64 op1) ∧ W.cell? ⟨kb, koff + 1, none⟩ = some (.string mon1) ∧ W.cell? ⟨kb, koff + 2, none⟩ = some (.string name1) ∧ W.cell? ⟨kb, koff + 3, none⟩ = some (.int .i64 n1) ∧ W.cell? ⟨kb, koff + 4, none⟩ = some (.slice ad1 kids1.length cap1) ∧ W.cell? ⟨kb, koff + 5, none⟩ = some (.int .i64 pos1)) (exact HK.out _ D) (first | (go_at_call 26; (with_reducible refine (hq _ D).mono ?_); rintro r w1 ⟨rfl, ha, bb⟩; have D := D.tr le_rfl' bb; obtain ⟨y0, y3⟩ := HS0.out _ D))
      all_goals go_wp2_with (go_at_call 38; (with_reducible refine (bit_any false _).mono ?_); rintro r w2 ⟨rfl, hw'⟩; have hw2 := hw'.symm; subst hw2)
      all_goals go_ret2
      all_goals exact rkBack_yes (bitF_in _) HR.out (hB.tr le_rfl' D)
    · go_wp2
      go_region_held3 (fun W => W.cell? ⟨w.heap.size, 0, none⟩ = some (.slice pad pml pmc) ∧ W.cell? ⟨w.heap.size, 1, none⟩ = some (.slice prd prl prc) ∧ W.cell? ⟨w.heap.size, 2, none⟩ = some (.slice vad vs.length vcap) ∧ W.cell? ⟨w.heap.size + 1, 4, none⟩ = some (.slice (some ⟨kb, koff, none⟩) kids.length cap) ∧ W.cell? ⟨kb, koff, none⟩ = some (.int .i64 op1) ∧ W.cell? ⟨kb, koff + 1, none⟩ = some (.string mon1) ∧ W.cell? ⟨kb, koff + 2, none⟩ = some (.string name1) ∧ W.cell? ⟨kb, koff + 3, none⟩ = some (.int .i64 n1) ∧ W.cell? ⟨kb, koff + 4, none⟩ = some (.slice ad1 kids1.length cap1) ∧ W.cell? ⟨kb, koff + 5, none⟩ = some (.int .i64 pos1)) (exact HK.out _ D) (first | (go_at_call 26; (with_reducible refine (hq _ D).mono ?_); rintro r w1 ⟨rfl, ha, bb⟩; have D := D.tr le_rfl' bb; obtain ⟨y0, y3⟩ := HS0.out _ D))
      all_goals go_wp2_with (go_at_call 38; (with_reducible refine (bit_any true _).mono ?_); rintro r w2 ⟨rfl, hw'⟩; have hw2 := hw'.symm; subst hw2)
      all_goals go_ret2
      all_goals exact rkBack_yes (bitF_in _) HR.out (hB.tr le_rfl' D)
  by_cases h6 : op = 6
  · subst h6
    have HR : Hid (Ex.rk p.mons vs (.mk 6 mon name n (some ⟨kb, koff, none⟩) cap kids pos) = inO (-a)) := HU2.out
    have HC : Hid (I64 a → ∀ w, Calls Tryd.prog 39 #[.int .i64 a] w fun r w' => r = .returned (.tuple #[.int .i64 (fv (-a)), .bool (fb (-a))]) ∧ w' = w) := fun ha w => neg_any ha w
    have HF : Hid (∀ w w' : World, Below w.heap.size w w' → RkBack (Ex.rk p.mons vs (.mk 6 mon name n (some ⟨kb, koff, none⟩) cap kids pos)) w w' (.returned (.tuple #[.int .i64 (fv (-a)), .bool (fb (-a))]))) := fun _ _ hb => rkBack_two (-a) HR.out hb
    generalize fv (-a) = x at *
    generalize fb (-a) = y at *
    clear HU2 HQ1 HR
    go_wp2
    go_region_held3 (fun W => W.cell? ⟨w.heap.size, 0, none⟩ = some (.slice pad pml pmc) ∧ W.cell? ⟨w.heap.size, 1, none⟩ = some (.slice prd prl prc) ∧ W.cell? ⟨w.heap.size, 2, none⟩ = some (.slice vad vs.length vcap) ∧ W.cell? ⟨w.heap.size + 1, 4, none⟩ = some (.slice (some ⟨kb, koff, none⟩) kids.length cap) ∧ W.cell? ⟨kb, koff, none⟩ = some (.int .i64 op1) ∧ W.cell? ⟨kb, koff + 1, none⟩ = some (.string mon1) ∧ W.cell? ⟨kb, koff + 2, none⟩ = some (.string name1) ∧ W.cell? ⟨kb, koff + 3, none⟩ = some (.int .i64 n1) ∧ W.cell? ⟨kb, koff + 4, none⟩ = some (.slice ad1 kids1.length cap1) ∧ W.cell? ⟨kb, koff + 5, none⟩ = some (.int .i64 pos1)) (exact HK.out _ D) (first | (go_at_call 26; (with_reducible refine (hq _ D).mono ?_); rintro r w1 ⟨rfl, ha, bb⟩; have D := D.tr le_rfl' bb; obtain ⟨y0, y3⟩ := HS0.out _ D))
    all_goals go_wp2_with (go_at_call 39; (with_reducible refine (HC.out ha _).mono ?_); rintro r w2 ⟨rfl, hw'⟩; have hw2 := hw'.symm; subst hw2)
    all_goals go_ret2
    all_goals exact HF.out _ _ (hB.tr le_rfl' D)
  by_cases h7 : op = 7
  · subst h7
    have HR : Hid (Ex.rk p.mons vs (.mk 7 mon name n (some ⟨kb, koff, none⟩) cap kids pos) = inO (n * a)) := HU2.out
    have HC : Hid (I64 a → ∀ w, Calls Tryd.prog 40 #[.int .i64 n, .int .i64 a] w fun r w' => r = .returned (.tuple #[.int .i64 (fv (n * a)), .bool (fb (n * a))]) ∧ w' = w) := fun ha w => mul_any HN.out ha w
    have HF : Hid (∀ w w' : World, Below w.heap.size w w' → RkBack (Ex.rk p.mons vs (.mk 7 mon name n (some ⟨kb, koff, none⟩) cap kids pos)) w w' (.returned (.tuple #[.int .i64 (fv (n * a)), .bool (fb (n * a))]))) := fun _ _ hb => rkBack_two (n * a) HR.out hb
    generalize fv (n * a) = x at *
    generalize fb (n * a) = y at *
    clear HU2 HQ1 HR
    go_wp2
    go_region_held3 (fun W => W.cell? ⟨w.heap.size, 0, none⟩ = some (.slice pad pml pmc) ∧ W.cell? ⟨w.heap.size, 1, none⟩ = some (.slice prd prl prc) ∧ W.cell? ⟨w.heap.size, 2, none⟩ = some (.slice vad vs.length vcap) ∧ W.cell? ⟨w.heap.size + 1, 4, none⟩ = some (.slice (some ⟨kb, koff, none⟩) kids.length cap) ∧ W.cell? ⟨kb, koff, none⟩ = some (.int .i64 op1) ∧ W.cell? ⟨kb, koff + 1, none⟩ = some (.string mon1) ∧ W.cell? ⟨kb, koff + 2, none⟩ = some (.string name1) ∧ W.cell? ⟨kb, koff + 3, none⟩ = some (.int .i64 n1) ∧ W.cell? ⟨kb, koff + 4, none⟩ = some (.slice ad1 kids1.length cap1) ∧ W.cell? ⟨kb, koff + 5, none⟩ = some (.int .i64 pos1)) (exact HK.out _ D) (first | (go_at_call 26; (with_reducible refine (hq _ D).mono ?_); rintro r w1 ⟨rfl, ha, bb⟩; have D := D.tr le_rfl' bb; obtain ⟨y0, y3⟩ := HS0.out _ D))
    all_goals go_wp2_with (go_at_call 40; (with_reducible refine (HC.out ha _).mono ?_); rintro r w2 ⟨rfl, hw'⟩; have hw2 := hw'.symm; subst hw2)
    all_goals go_ret2
    all_goals exact HF.out _ _ (hB.tr le_rfl' D)
  have e5 : (op == 5) = false := by rw [beq_eq_false_iff_ne]; exact h5
  have e6 : (op == 6) = false := by rw [beq_eq_false_iff_ne]; exact h6
  have e7 : (op == 7) = false := by rw [beq_eq_false_iff_ne]; exact h7
  have hk1 : 1 < kids.length := by
    rw [HKL.out, exKids, if_neg (by omega), if_neg (by omega)]; omega
  have HR : Hid (Ex.rk p.mons vs (.mk op mon name n (some ⟨kb, koff, none⟩) cap kids pos) = perF op a (kids[1].rk p.mons vs)) := by
    show _ = _
    rw [HU2.out, unF, if_neg h5, if_neg h6, if_neg h7, kidO_rk p.mons vs kids 1 hk1]
  clear HU2
  have h8 : 8 ≤ op := by omega
  have HC : Hid (I64 a → ∀ W, Below W0.heap.size W0 W → Calls Tryd.prog 41 #[.int .i64 op, .int .i64 a, .func (.func 42) #[] #[.pointer (some ⟨w.heap.size, 0, none⟩), .pointer (some ⟨w.heap.size + 1, 0, none⟩)]] W fun r w' => RkBack (perF op a (kids[1].rk p.mons vs)) W w' r) := fun ha W hW => by
    have hws := hW.size
    obtain ⟨k0, k1, k2, k4, -⟩ := HK.out W hW
    exact perhaps_any op a h8 ho2 ha _ _ _ W (clos42_any pad pml pmc prd prl prc vad vs vcap kb koff cap kids w.heap.size (w.heap.size + 1) _ W hk1 (by omega) (by omega) (by omega) k0 k1 k2 k4 (HRW.out.below hW hkb) (fun V hV => HQ1.out hk1 V (hW.tr le_rfl' hV)))
  clear HQ1 HRW h8 h1 h2 h3 h4 h5 h6 h7 ho1 ho2 HKL
  obtain ⟨o, ho⟩ : ∃ o, perF op a (kids[1].rk p.mons vs) = o := ⟨_, rfl⟩
  simp only [ho] at HR HC
  clear ho
  rcases o with _ | x
  · have HC := hid (fun ha W hW => RkBack.no (HC.out ha W hW) rfl)
    go_wp2
    go_region_held3 (fun W => W.cell? ⟨w.heap.size, 0, none⟩ = some (.slice pad pml pmc) ∧ W.cell? ⟨w.heap.size, 1, none⟩ = some (.slice prd prl prc) ∧ W.cell? ⟨w.heap.size, 2, none⟩ = some (.slice vad vs.length vcap) ∧ W.cell? ⟨w.heap.size + 1, 4, none⟩ = some (.slice (some ⟨kb, koff, none⟩) kids.length cap) ∧ W.cell? ⟨kb, koff, none⟩ = some (.int .i64 op1) ∧ W.cell? ⟨kb, koff + 1, none⟩ = some (.string mon1) ∧ W.cell? ⟨kb, koff + 2, none⟩ = some (.string name1) ∧ W.cell? ⟨kb, koff + 3, none⟩ = some (.int .i64 n1) ∧ W.cell? ⟨kb, koff + 4, none⟩ = some (.slice ad1 kids1.length cap1) ∧ W.cell? ⟨kb, koff + 5, none⟩ = some (.int .i64 pos1)) (exact HK.out _ D) (first | (go_at_call 26; (with_reducible refine (hq _ D).mono ?_); rintro r w1 ⟨rfl, ha, bb⟩; have D := D.tr le_rfl' bb; obtain ⟨y0, y3⟩ := HS0.out _ D))
    all_goals go_wp2_with (go_at_call 41; (with_reducible refine (HC.out ha _ D).mono ?_); rintro r w2 ⟨rfl, bb2⟩)
    all_goals go_ret2
    all_goals exact rkBack_no HR.out ((hB.tr le_rfl' D).tr le_rfl' bb2)
  · have HC := hid (fun ha W hW => RkBack.yes (HC.out ha W hW) rfl)
    go_wp2
    go_region_held3 (fun W => W.cell? ⟨w.heap.size, 0, none⟩ = some (.slice pad pml pmc) ∧ W.cell? ⟨w.heap.size, 1, none⟩ = some (.slice prd prl prc) ∧ W.cell? ⟨w.heap.size, 2, none⟩ = some (.slice vad vs.length vcap) ∧ W.cell? ⟨w.heap.size + 1, 4, none⟩ = some (.slice (some ⟨kb, koff, none⟩) kids.length cap) ∧ W.cell? ⟨kb, koff, none⟩ = some (.int .i64 op1) ∧ W.cell? ⟨kb, koff + 1, none⟩ = some (.string mon1) ∧ W.cell? ⟨kb, koff + 2, none⟩ = some (.string name1) ∧ W.cell? ⟨kb, koff + 3, none⟩ = some (.int .i64 n1) ∧ W.cell? ⟨kb, koff + 4, none⟩ = some (.slice ad1 kids1.length cap1) ∧ W.cell? ⟨kb, koff + 5, none⟩ = some (.int .i64 pos1)) (exact HK.out _ D) (first | (go_at_call 26; (with_reducible refine (hq _ D).mono ?_); rintro r w1 ⟨rfl, ha, bb⟩; have D := D.tr le_rfl' bb; obtain ⟨y0, y3⟩ := HS0.out _ D))
    all_goals go_wp2_with (go_at_call 41; (with_reducible refine (HC.out ha _ D).mono ?_); rintro r w2 ⟨rfl, hx, bb2⟩)
    all_goals go_ret2
    all_goals exact rkBack_yes hx HR.out ((hB.tr le_rfl' D).tr le_rfl' bb2)
end Go.Proofs.YtopiceoofdlkbaaDoor
