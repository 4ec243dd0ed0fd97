/-
  program of package parse.
-/
import Derived.Test.YtaekbgljbgmchaaGreatDoorPzPg
namespace Go.Proofs.YtaekbgljbgmchaaGreatDoor
open Go.RowKit
open Lx (Out)
open Pz
theorem two {w : World} {k : Nat} {a b : Value} {T : TypeId} (h : w.heap[k]? = some (.cells #[a, b] T (0, 0))) :
    w.cell? ⟨k, 0, none⟩ = some a ∧ w.cell? ⟨k, 1, none⟩ = some b ∧ (∀ i, w.frozen? ⟨k, i, none⟩ = false) ∧ k < w.heap.size := ⟨by rw [cellB h]; rfl, by rw [cellB h]; rfl, frozB h, ltB h⟩
def Pr.By (Q : Nat → Bool) (w : World) (p : Pr) : Prop := p.Is w.heap.size (only Q w)
theorem Pr.Is.carry {n₀ : Nat} {W W' : World} (hc : ∀ k o v, W.cell? ⟨k, o, none⟩ = some v → W'.cell? ⟨k, o, none⟩ = some v) {p : Pr} (h : p.Is n₀ W) : p.Is n₀ W' := ⟨⟨h.1.1.carry Mo.cells_len hc, fun m hm => (h.1.2 m hm).carry hc⟩, h.2.1.carry Ro.cells_len hc, fun r hr => (h.2.2 r hr).carry hc⟩
theorem Pr.By.kq {Q : Nat → Bool} {w w' : World} {m : Pr} (h : m.By Q w) (k : Kq Q w w') : m.By Q w' := (Pr.Is.carry (only_step k.block) h).mono k.size
theorem Pr.By.weak {Q Q' : Nat → Bool} {w : World} {m : Pr} (h : m.By Q w) (k : ∀ k, Q k = true → k < w.heap.size → Q' k = true) : m.By Q' w := Pr.Is.carry (only_weak k) h
theorem Pr.By.mono {m n : Nat} {w : World} {x : Pr} (h : x.By (from_ n) w) (k : m ≤ n) : x.By (from_ m) w := h.weak fun _ hk _ => from_iff.2 (Nat.le_trans k (from_iff.1 hk))
def PrBk (b g cap : Nat) (toks : List Out) (x : Pr × S) (w : World) (r : Ending) (w' : World) : Prop :=
  ∃ mad mcp lm rad rcp lr, r = .returned (.agg #[.slice mad (lm : List Mo).length mcp, .slice rad (lr : List Ro).length rcp]) ∧ (Pr.mk mad mcp lm rad rcp lr).clr = x.1 ∧ (Pr.mk mad mcp lm rad rcp lr).By (from_ w.heap.size) w' ∧ At b g cap toks x.2 w' ∧ Kp b w w'
theorem PrBy.own {base : Nat} {w : World} {mad rad : Option Addr} {mcp rcp : Nat} {lm : List Mo} {lr : List Ro} {u u' : Value} (hm : L2Mo base (.slice mad lm.length mcp) u lm w) (hr : L2Ro base (.slice rad lr.length rcp) u' lr w) : (Pr.mk mad mcp lm rad rcp lr).By (from_ base) w := by
  obtain ⟨ad', cp', h1, hsl⟩ := sl_of_own Mo.cells_len hm.1
  obtain ⟨ad2, cp2, h2, hsl2⟩ := sl_of_own Ro.cells_len hr.1
  cases h1
  cases h2
  exact ⟨⟨hsl, fun m hx => Mo.By.weak (hm.2 m hx) (fun k hk _ => from_iff.2 (by2_iff.1 hk).1)⟩, hsl2, fun r hx => Ro.By.weak (hr.2 r hx) (fun k hk _ => from_iff.2 (by2_iff.1 hk).1)⟩
theorem prog_unfold (g f : Nat) (m : List Mo) (r : List Ro) (s : S) (h : 1 ≤ f) : progF g f m r s = (if s.sees k_monitor then progF g (f - 1) (oneMore m 8 (Pz.monitor g) s).1 r (oneMore m 8 (Pz.monitor g) s).2
    else if s.sees k_thread then progF g (f - 1) m (oneMore r 8 (Pz.role g) s).1 (oneMore r 8 (Pz.role g) s).2 else (pr m r, s)) := by
  obtain ⟨f, rfl⟩ : ∃ k, f = k + 1 := ⟨f - 1, by omega⟩
  rw [progF]; rfl
theorem L2Mo.set {base : Nat} {v u : Value} {l : List Mo} {w : World} (h : L2Mo base v u l w) {p : Addr} (hp : p.block < base) (x : Value) : L2Mo base v u l (w.setCell p x) := h.kp ((Kp.refl p.block w).set (.inl rfl) x) hp
theorem L2Ro.set {base : Nat} {v u : Value} {l : List Ro} {w : World} (h : L2Ro base v u l w) {p : Addr} (hp : p.block < base) (x : Value) : L2Ro base v u l (w.setCell p x) := h.kp ((Kp.refl p.block w).set (.inl rfl) x) hp
theorem Kg.to {b base : Nat} {v : Value} {u w w' : World} {T size m : Nat} {xs : List Value} (h : Kp b u w) (k : Kg b v w w') (ho : w.ownsRow base T size v m xs) (hb : u.heap.size ≤ base) : Kp b u w' :=
  ⟨k.os.trans h.os, k.tape.trans h.tape, k.output.trans h.output, Nat.le_trans h.size k.size, fun i hi hne => (k.block i (Nat.lt_of_lt_of_le hi h.size) hne (fun e => by have := (ho.lt i e).1; omega)).trans (h.block i hi hne)⟩
theorem Kg.box {b base : Nat} {v : Value} {w w' : World} {T size m : Nat} {xs : List Value} (k : Kg b v w w') (ho : w.ownsRow base T size v m xs) {i : Nat} {o : Obj} (hk : w.heap[i]? = some o) (hb : i ≠ b) (hl : i < base) : w'.heap[i]? = some o := by
  rw [k.block i (ltB hk) hb (fun e => by have := (ho.lt i e).1; omega)]; exact hk
set_option maxRecDepth 100000 in
set_option maxHeartbeats 6000000 in
theorem program_any (gf : Nat) (b g cap : Nat) (toks : List Out) (s : S) (w : World) (h : At b g cap toks s w)
    (hleM : ∀ s, Le s (Pz.monitor gf s).2) (hleR : ∀ s, Le s (Pz.role gf s).2)
    (hM : ∀ s' W, Le s s' → s'.rest.length + 1 ≤ s.rest.length → At b g cap toks s' W → Kp b w W → Calls Tryz.prog 71 #[.pointer (some ⟨b, 0, none⟩)] W (MoBk b g cap toks (Pz.monitor gf s') W))
    (hRo : ∀ s' W, Le s s' → s'.rest.length + 1 ≤ s.rest.length → At b g cap toks s' W → Kp b w W → Calls Tryz.prog 73 #[.pointer (some ⟨b, 0, none⟩)] W (RoBk b g cap toks (Pz.role gf s') W)) :
    Calls Tryz.prog 36 #[.pointer (some ⟨b, 0, none⟩)] w (PrBk b g cap toks (progF gf s.rest.length [] [] s) w) := by
  have hb := h.lt
  have hgl := h.glt
  have A := h.al (.cells #[.slice none 0 0, .slice none 0 0] 37)
  have bR := newB w #[.slice none 0 0, .slice none 0 0] 37
  have hne : w.heap.size ≠ b := by omega
  have hng : w.heap.size ≠ g := by omega
  have K : Kp b w (w.alloc (.cells #[.slice none 0 0, .slice none 0 0] 37)) := (Kp.refl b w).al _
  have hlR := ltB bR
  have bS := newB' (w.alloc (.cells #[.slice none 0 0, .slice none 0 0] 37)) #[.slice none 0 0, .slice none 0 0] 37 (w.heap.size + 1) (by simp)
  have A := A.al (.cells #[.slice none 0 0, .slice none 0 0] 37)
  have K := K.al (.cells #[.slice none 0 0, .slice none 0 0] 37)
  have bR := bel_box bR (bel_al _ (.cells #[.slice none 0 0, .slice none 0 0] 37))
  have hnS : w.heap.size + 1 ≠ b := by omega
  have hnS2 : w.heap.size + 1 ≠ g := by omega
  have hnR : w.heap.size ≠ w.heap.size + 1 := by omega
  have hSw : w.heap.size ≤ w.heap.size + 1 := by omega
  have hRb : w.heap.size < w.heap.size + 2 := by omega
  have hSb : w.heap.size + 1 < w.heap.size + 2 := by omega
  have hsm := h.small
  have hsl := h.ok.len.2
  have hzz : w.heap.size + 2 ≤ ((w.alloc (.cells #[.slice none 0 0, .slice none 0 0] 37)).alloc (.cells #[.slice none 0 0, .slice none 0 0] 37)).heap.size := by simp
  obtain ⟨R, hR⟩ : ∃ R, progF gf s.rest.length [] [] s = R := ⟨_, rfl⟩
  rw [hR]
  have HR := hid hR
  clear hR h
  go_enter Tryz.func36, Tryz.ntmps36
  go_wp2
  go_loopg [] s.rest.length (fun gn wr => ∃ (mad : Option Addr) (mcp : Nat) (lm : List Mo) (rad : Option Addr) (rcp : Nat) (lr : List Ro) (fi : Nat) (s' : S), gn = s'.rest.length ∧ wr.heap[w.heap.size + 1]? = some (.cells #[.slice mad lm.length mcp, .slice rad lr.length rcp] 37 (0, 0)) ∧ wr.heap[w.heap.size]? = some (.cells #[.slice none 0 0, .slice none 0 0] 37 (0, 0)) ∧ L2Mo (w.heap.size + 2) (.slice mad lm.length mcp) (.slice rad lr.length rcp) lm wr ∧ L2Ro (w.heap.size + 2) (.slice rad lr.length rcp) (.slice mad lm.length mcp) lr wr ∧ At b g cap toks s' wr ∧ Kp b w wr ∧ w.heap.size + 2 ≤ wr.heap.size ∧ Hid (progF gf fi (lm.map Mo.clr) (lr.map Ro.clr) s' = R) ∧ Hid (s'.rest.length ≤ fi ∧ Le s s' ∧ lm.length + lr.length + s'.rest.length ≤ s.rest.length))
  case atStart => exact ⟨none, 0, [], none, 0, [], s.rest.length, s, rfl, bS, bR, ⟨World.ownsRow_nil _ _ _ _, by simp⟩, ⟨World.ownsRow_nil _ _ _ _, by simp⟩, A, K, hzz, HR, Nat.le_refl _, Le.refl _, by simp⟩
  case round =>
    obtain ⟨mad, mcp, lm, rad, rcp, lr, fi, s', hgn, bS, bR, LM, LR, A, K, hzw, HS, HF⟩ := hrel
    have HG := hid hgn
    clear hgn
    have hl1 := A.ok.len.1
    have HU := hid (prog_unfold gf fi (lm.map Mo.clr) (lr.map Ro.clr) s' (by have := HF.out.1; omega))
    have hbb : b < w.heap.size + 2 := by omega
    have hgb : g < w.heap.size + 2 := by omega
    have hcnt := HF.out.2.2
    have h69m : ∀ W, At b g cap toks s' W → Calls Tryz.prog 69 #[.pointer (some ⟨b, 0, none⟩), .string ⟨#[109, 111, 110, 105, 116, 111, 114]⟩] W (fun e w' => e = .returned (.bool (s'.sees k_monitor)) ∧ Below W.heap.size W w') := fun W hA => sees_any k_monitor b g cap toks s' W hA
    have h69t : ∀ W, At b g cap toks s' W → Calls Tryz.prog 69 #[.pointer (some ⟨b, 0, none⟩), .string ⟨#[116, 104, 114, 101, 97, 100]⟩] W (fun e w' => e = .returned (.bool (s'.sees k_thread)) ∧ Below W.heap.size W w') := fun W hA => sees_any k_thread b g cap toks s' W hA
    obtain ⟨y0, y1, yf, yl⟩ := two bS
    cases q : s'.sees k_monitor
    · simp only [q] at h69m
      cases q2 : s'.sees k_thread
      · simp only [q2] at h69t
        have HX : Hid (R = (pr (lm.map Mo.clr) (lr.map Ro.clr), s')) := by show _ = _; rw [← HS.out, HU.out, q, q2]; rfl
        clear HU HS hM hRo
        go_wp2_with (first
      | (go_at_call 69; (with_reducible refine (h69m _ A).mono ?_); rintro r u1 ⟨rfl, b1⟩; have A := A.below b1; have K := K.tr b1; have bR := bel_box bR b1; have bS := bel_box bS b1; have LM := LM.bel b1; have LR := LR.bel b1; have hzw := Nat.le_trans hzw b1.size; obtain ⟨y0, y1, yf, yl⟩ := two bS)
      | (go_at_call 69; (with_reducible refine (h69t _ A).mono ?_); rintro r u2 ⟨rfl, b1⟩; have A := A.below b1; have K := K.tr b1; have bR := bel_box bR b1; have bS := bel_box bS b1; have LM := LM.bel b1; have LR := LR.bel b1; have hzw := Nat.le_trans hzw b1.size; obtain ⟨y0, y1, yf, yl⟩ := two bS; obtain ⟨x0, x1, xf, xl⟩ := two bR))
        rw [HX.out]
        refine bodyPost_ret (v := .agg #[.slice mad lm.length mcp, .slice rad lr.length rcp]) ?_ rfl ⟨mad, mcp, lm, rad, rcp, lr, rfl, ?_, ?_, ?_, ?_⟩
        · simp [results, Tryz.results36, go_sem, x0, x1]
        · rfl
        · have hby := PrBy.own LM LR
          have hpR := from_not hRb
          have hpS := from_not hSb
          refine (Pr.By.kq hby ?_).mono (by omega)
          repeat (first | with_reducible refine Kq.set ?_ (.inl hpR) _ | with_reducible refine Kq.set ?_ (.inl hpS) _ | with_reducible refine Kq.al ?_ _)
          with_reducible exact Kq.refl _ _
        · repeat (first | with_reducible refine Pz.At.put ?_ hne hng _ | with_reducible refine Pz.At.put ?_ hnS hnS2 _ | with_reducible refine Pz.At.al ?_ _)
          exact A
        · repeat (first | with_reducible refine Kp.set ?_ (.inr (Nat.le_refl _)) _ | with_reducible refine Kp.set ?_ (.inr hSw) _ | with_reducible refine Kp.al ?_ _)
          with_reducible exact K
      · simp only [q2] at h69t
        have hk5 := sees_kind A.ok q2 (by decide)
        have hfu : (s'.full (decide (8 ≤ lr.length))).rest.length + 1 ≤ s'.rest.length := full_lt A.ok hk5 _
        have hom : ∀ W, At b g cap toks s' W → L2Ro (w.heap.size + 2) (.slice rad lr.length rcp) (.slice mad lm.length mcp) lr W → L2Mo (w.heap.size + 2) (.slice mad lm.length mcp) (.slice rad lr.length rcp) lm W → Kp b w W → w.heap.size + 2 ≤ W.heap.size → Calls Tryz.prog 72 #[.pointer (some ⟨b, 0, none⟩), .slice rad lr.length rcp, .int .i64 8, .func (.func 73) #[.pointer (some ⟨b, 0, none⟩)] #[]] W (Bk2Ro b g cap (w.heap.size + 2) toks (.slice rad lr.length rcp) (.slice mad lm.length mcp) (oneMore (lr.map Ro.clr) 8 (Pz.role gf) s') W) := fun W hA hL hO hK hz =>
          oneMore2_Ro (Pz.role gf) 8 (.slice mad lm.length mcp) rad rcp lr (w.heap.size + 2) b g cap toks s' W hA hL (fun k e => (hO.1.lt k e).2) hz hbb hgb (by omega) (fun V hV kV => hRo _ V (HF.out.2.1.trans (le_full s' _)) (by have := HF.out.2.1.2; omega) hV (hK.trans kV))
        have HO : Hid (Le s' (oneMore (lr.map Ro.clr) 8 (Pz.role gf) s').2 ∧ (oneMore (lr.map Ro.clr) 8 (Pz.role gf) s').2.rest.length + 1 ≤ s'.rest.length) := by
          refine ⟨le_oneMore _ _ _ hleR s', ?_⟩
          have h1 := (hleR (s'.full (decide (8 ≤ (lr.map Ro.clr).length)))).2
          rw [List.length_map] at h1
          have h2 : (oneMore (lr.map Ro.clr) 8 (Pz.role gf) s').2 = (Pz.role gf (s'.full (decide (8 ≤ lr.length)))).2 := by unfold oneMore; rw [List.length_map]
          rw [h2]; omega
        have HX : Hid (R = progF gf (fi - 1) (lm.map Mo.clr) (oneMore (lr.map Ro.clr) 8 (Pz.role gf) s').1 (oneMore (lr.map Ro.clr) 8 (Pz.role gf) s').2) := by show _ = _; rw [← HS.out, HU.out, q, q2]; rfl
        have HL1 : Hid ((oneMore (lr.map Ro.clr) 8 (Pz.role gf) s').1.length = lr.length + 1) := by show _ = _; unfold oneMore; simp
        obtain ⟨om, hom2⟩ : ∃ om, oneMore (lr.map Ro.clr) 8 (Pz.role gf) s' = om := ⟨_, rfl⟩
        rw [hom2] at HO HX HL1
        simp only [hom2] at hom
        clear hom2 hM hRo HU HS hfu hk5
        go_wp2_with (first
              | (go_at_call 69; (with_reducible refine (h69m _ A).mono ?_); rintro r u1 ⟨rfl, b1⟩; have A := A.below b1; have K := K.tr b1; have bR := bel_box bR b1; have bS := bel_box bS b1; have LM := LM.bel b1; have LR := LR.bel b1; have hzw := Nat.le_trans hzw b1.size; obtain ⟨y0, y1, yf, yl⟩ := two bS)
              | (go_at_call 69; (with_reducible refine (h69t _ A).mono ?_); rintro r u2 ⟨rfl, b1⟩; have A := A.below b1; have K := K.tr b1; have bR := bel_box bR b1; have bS := bel_box bS b1; have LM := LM.bel b1; have LR := LR.bel b1; have hzw := Nat.le_trans hzw b1.size; obtain ⟨y0, y1, yf, yl⟩ := two bS)
              | (go_at_call 72; (with_reducible refine (hom _ A LR LM K hzw).mono ?_); rintro r u6 ⟨v6, l6, rfl, hl6, L6, A, k6, hw6⟩; obtain ⟨ad6, cp6, rfl, -⟩ := sl_of_own Ro.cells_len L6.1; have O6 := LM.other LR.1 (by decide) k6 hbb hw6; have K := Kg.to K k6 LR.1 (by omega); have bR := k6.box LR.1 bR hne hRb; have bS := k6.box LR.1 bS hnS hSb; have hz6 := Nat.le_trans hzw k6.size; obtain ⟨y0, y1, yf, yl⟩ := two bS; have A := A.put (p := ⟨w.heap.size + 1, 1, none⟩) hnS hnS2 (.slice ad6 l6.length cp6); have K := K.set (p := ⟨w.heap.size + 1, 1, none⟩) (.inr hSw) (.slice ad6 l6.length cp6); have L6 := L6.set (p := ⟨w.heap.size + 1, 1, none⟩) hSb (.slice ad6 l6.length cp6); have O6 := O6.set (p := ⟨w.heap.size + 1, 1, none⟩) hSb (.slice ad6 l6.length cp6); have bR := set_box (j := w.heap.size + 1) (i := 1) bR hnR (.slice ad6 l6.length cp6); have bS := setBx (i := 1) (c2 := #[.slice mad lm.length mcp, .slice ad6 l6.length cp6]) bS (.slice ad6 l6.length cp6) rfl))
        go_roundg om.2.rest.length
        case measure => have := HG.out; have := HO.out.2; omega
        case rel =>
          refine ⟨mad, mcp, lm, ad6, cp6, l6, fi - 1, om.2, rfl, bS, bR, O6, L6, A, K, ?_, ?_, ?_, ?_, ?_⟩
          · simpa using hz6
          · show _ = _; rw [hl6]; exact HX.out.symm
          · have := HF.out.1; have := HO.out.2; omega
          · exact HF.out.2.1.trans HO.out.1
          · have h1 := HL1.out
            rw [← hl6, List.length_map] at h1
            have := HO.out.2; omega
    · simp only [q] at h69m
      have hk5 := sees_kind A.ok q (by decide)
      have hfu : (s'.full (decide (8 ≤ lm.length))).rest.length + 1 ≤ s'.rest.length := full_lt A.ok hk5 _
      have hom : ∀ W, At b g cap toks s' W → L2Mo (w.heap.size + 2) (.slice mad lm.length mcp) (.slice rad lr.length rcp) lm W → L2Ro (w.heap.size + 2) (.slice rad lr.length rcp) (.slice mad lm.length mcp) lr W → Kp b w W → w.heap.size + 2 ≤ W.heap.size → Calls Tryz.prog 70 #[.pointer (some ⟨b, 0, none⟩), .slice mad lm.length mcp, .int .i64 8, .func (.func 71) #[.pointer (some ⟨b, 0, none⟩)] #[]] W (Bk2Mo b g cap (w.heap.size + 2) toks (.slice mad lm.length mcp) (.slice rad lr.length rcp) (oneMore (lm.map Mo.clr) 8 (Pz.monitor gf) s') W) := fun W hA hL hO hK hz =>
        oneMore2_Mo (Pz.monitor gf) 8 (.slice rad lr.length rcp) mad mcp lm (w.heap.size + 2) b g cap toks s' W hA hL (fun k e => (hO.1.lt k e).2) hz hbb hgb (by omega) (fun V hV kV => hM _ V (HF.out.2.1.trans (le_full s' _)) (by have := HF.out.2.1.2; omega) hV (hK.trans kV))
      have HO : Hid (Le s' (oneMore (lm.map Mo.clr) 8 (Pz.monitor gf) s').2 ∧ (oneMore (lm.map Mo.clr) 8 (Pz.monitor gf) s').2.rest.length + 1 ≤ s'.rest.length) := by
        refine ⟨le_oneMore _ _ _ hleM s', ?_⟩
        have h1 := (hleM (s'.full (decide (8 ≤ (lm.map Mo.clr).length)))).2
        rw [List.length_map] at h1
        have h2 : (oneMore (lm.map Mo.clr) 8 (Pz.monitor gf) s').2 = (Pz.monitor gf (s'.full (decide (8 ≤ lm.length)))).2 := by unfold oneMore; rw [List.length_map]
        rw [h2]; omega
      have HX : Hid (R = progF gf (fi - 1) (oneMore (lm.map Mo.clr) 8 (Pz.monitor gf) s').1 (lr.map Ro.clr) (oneMore (lm.map Mo.clr) 8 (Pz.monitor gf) s').2) := by show _ = _; rw [← HS.out, HU.out, q]; rfl
      have HL1 : Hid ((oneMore (lm.map Mo.clr) 8 (Pz.monitor gf) s').1.length = lm.length + 1) := by show _ = _; unfold oneMore; simp
      obtain ⟨om, hom2⟩ : ∃ om, oneMore (lm.map Mo.clr) 8 (Pz.monitor gf) s' = om := ⟨_, rfl⟩
      rw [hom2] at HO HX HL1
      simp only [hom2] at hom
      clear hom2 hM hRo HU HS hfu hk5
      go_wp2_with (first
            | (go_at_call 69; (with_reducible refine (h69m _ A).mono ?_); rintro r u1 ⟨rfl, b1⟩; have A := A.below b1; have K := K.tr b1; have bR := bel_box bR b1; have bS := bel_box bS b1; have LM := LM.bel b1; have LR := LR.bel b1; have hzw := Nat.le_trans hzw b1.size; obtain ⟨y0, y1, yf, yl⟩ := two bS)
            | (go_at_call 70; (with_reducible refine (hom _ A LM LR K hzw).mono ?_); rintro r u6 ⟨v6, l6, rfl, hl6, L6, A, k6, hw6⟩; obtain ⟨ad6, cp6, rfl, -⟩ := sl_of_own Mo.cells_len L6.1; have O6 := LR.other LM.1 (by decide) k6 hbb hw6; have K := Kg.to K k6 LM.1 (by omega); have bR := k6.box LM.1 bR hne hRb; have bS := k6.box LM.1 bS hnS hSb; have hz6 := Nat.le_trans hzw k6.size; obtain ⟨y0, y1, yf, yl⟩ := two bS; have A := A.put (p := ⟨w.heap.size + 1, 0, none⟩) hnS hnS2 (.slice ad6 l6.length cp6); have K := K.set (p := ⟨w.heap.size + 1, 0, none⟩) (.inr hSw) (.slice ad6 l6.length cp6); have L6 := L6.set (p := ⟨w.heap.size + 1, 0, none⟩) hSb (.slice ad6 l6.length cp6); have O6 := O6.set (p := ⟨w.heap.size + 1, 0, none⟩) hSb (.slice ad6 l6.length cp6); have bR := set_box (j := w.heap.size + 1) (i := 0) bR hnR (.slice ad6 l6.length cp6); have bS := setBx (i := 0) (c2 := #[.slice ad6 l6.length cp6, .slice rad lr.length rcp]) bS (.slice ad6 l6.length cp6) rfl))
      go_roundg om.2.rest.length
      case measure => have := HG.out; have := HO.out.2; omega
      case rel =>
        refine ⟨ad6, cp6, l6, rad, rcp, lr, fi - 1, om.2, rfl, bS, bR, L6, O6, A, K, ?_, ?_, ?_, ?_, ?_⟩
        · simpa using hz6
        · show _ = _; rw [hl6]; exact HX.out.symm
        · have := HF.out.1; have := HO.out.2; omega
        · exact HF.out.2.1.trans HO.out.1
        · have h1 := HL1.out
          rw [← hl6, List.length_map] at h1
          have := HO.out.2; omega
end Go.Proofs.YtaekbgljbgmchaaGreatDoor
