/-
  The statement ValueFaults: its walk.
-/
import Derived.Test.YtopiceoofdlkbaaDoorWF
import Derived.Test.YtopiceoofdlkbaaDoorWS
namespace Go.Proofs.YtopiceoofdlkbaaDoor
open Go.RowKit
theorem vsum_small (l : List Mo) (h1 : l.length ≤ 20) (h2 : ∀ m ∈ l, m.vars.length ≤ 40) : vsum l ≤ 1000000 := by
  have h : vsum l ≤ 40 * l.length := by
    clear h1
    induction l with
    | nil => exact Nat.le_refl _
    | cons m r ih =>
      have h3 := ih (fun x hx => h2 x (List.mem_cons_of_mem _ hx))
      have h4 := h2 m (List.mem_cons_self ..)
      rw [vsum, List.map_cons, List.sum_cons, List.length_cons]
      unfold vsum at h3
      omega
  omega
/-- Small, as a choice. -/
theorem small_or (n₀ : Nat) (p : Pr) (w : World) (hn : n₀ ≤ w.heap.size) (hp : p.Is n₀ w) :
    Calls Tryd.prog 8 #[p.val, .int .i64 300] w fun r w' => (r = .returned (.bool false) ∧ Below w.heap.size w w') ∨ (r = .returned (.bool true) ∧ vsum p.mons ≤ 1000000 ∧ Below w.heap.size w w') :=
  (small_any n₀ p w hn hp).mono fun r w' ⟨c, h1, h2, h3⟩ => by
    cases c
    · exact .inl ⟨h1, h3⟩
    · exact .inr ⟨h1, vsum_small _ (h2 rfl).2.1 (h2 rfl).2.2, h3⟩
theorem tero_none {l : List Mo} {e : Ex} : e.tero l = none ↔ e.ok = true ∧ e.ter l = none := by
  rw [Ex.tero]
  split
  · rename_i h; simp [h]
  · rename_i h; simp [h]
theorem evF_cases (p : Pr) (e : Ex) (vs : List Int) :
    (∃ c a, e.tero p.mons = some (c, a) ∧ evF p e vs = (0, c) ∧ (c = 20 ∨ c = 61 ∨ c = 70)) ∨ (e.tero p.mons = none ∧ vs.length ≠ vsum p.mons ∧ evF p e vs = (0, 2)) ∨ (e.tero p.mons = none ∧ vs.length = vsum p.mons ∧ ∃ x, e.rk p.mons vs = some x ∧ evF p e vs = (x, 0)) ∨ (e.tero p.mons = none ∧ vs.length = vsum p.mons ∧ e.rk p.mons vs = none ∧ evF p e vs = (0, 110)) := by
  unfold evF
  rcases ht : e.tero p.mons with _ | ⟨c, a⟩
  · right
    by_cases hl : vs.length = vsum p.mons
    · right
      rcases hr : e.rk p.mons vs with _ | x
      · right; exact ⟨rfl, hl, rfl, by simp [hl]⟩
      · left; exact ⟨rfl, hl, x, rfl, by simp [hl]⟩
    · left; exact ⟨rfl, hl, by simp [hl]⟩
  · left
    refine ⟨c, a, rfl, rfl, ?_⟩
    rw [Ex.tero] at ht
    split at ht
    · rcases Ex.ter_pos p.mons e c a ht with h | h
      · exact .inr (.inl h)
      · exact .inr (.inr h)
    · cases ht; exact .inl rfl
theorem varTy_two {l : List Mo} {mon name : ByteArray} {t : Int} (h : varTy l mon name = some t) : t = 1 ∨ t = 2 := by
  rcases hs : slotIx l mon name with _ | s
  · rw [varTy_none hs] at h; cases h
  · obtain ⟨t', h1, h2⟩ := varTy_some hs
    rw [h] at h1; cases h1; exact h2
theorem is_two {l : List Mo} {e : Ex} (h : e.tero l = none) : e.is l = 1 ∨ e.is l = 2 := by
  rcases e with ⟨op, mon, name, n, ad, cap, kids, pos⟩
  rw [tero_none] at h
  have h2 := h.2
  rw [Ex.ter_mk] at h2
  rw [Ex.is]
  split
  · rename_i h4
    rw [if_pos h4] at h2
    cases hv : varTy l mon name with
    | none => rw [hv] at h2; cases h2
    | some t => exact varTy_two hv
  · unfold opIs
    split
    · exact .inr rfl
    · exact .inl rfl
/-- Two expressions joined; their row lies in block q. -/
def pairE (op : Int) (q : Nat) (a b : Ex) : Ex := .mk op ⟨#[]⟩ ⟨#[]⟩ 0 (some ⟨q, 0, none⟩) 2 [a, b] 0
theorem pair_ok1 (op : Int) (q : Nat) (a b : Ex) (h1 : 8 ≤ op) (h2 : op ≤ 17) : (pairE op q a b).ok1 = true := by
  have hc : op = 8 ∨ op = 9 ∨ op = 10 ∨ op = 11 ∨ op = 12 ∨ op = 13 ∨ op = 14 ∨ op = 15 ∨ op = 16 ∨ op = 17 := by omega
  rcases hc with rfl | rfl | rfl | rfl | rfl | rfl | rfl | rfl | rfl | rfl <;> rfl
theorem pair_ok (op : Int) (q : Nat) (a b : Ex) (h1 : 8 ≤ op) (h2 : op ≤ 17) : (pairE op q a b).ok = (a.ok && b.ok) := by
  have h1 := pair_ok1 op q a b h1 h2
  unfold pairE at h1 ⊢
  rw [Ex.ok, Ex.subs_mk, List.all_cons, h1, Bool.true_and, Ex.subsL_eq, List.all_flatMap]
  simp [Ex.ok]
theorem pair_tero (l : List Mo) (op : Int) (q : Nat) (a b : Ex) (h1 : 8 ≤ op) (h2 : op ≤ 17) (ha : a.tero l = none) (hb : b.tero l = none) (hw : a.is l = wantOf l op [a, b] ∧ b.is l = wantOf l op [a, b]) : (pairE op q a b).tero l = none := by
  rw [tero_none] at ha hb ⊢
  refine ⟨by rw [pair_ok op q a b h1 h2, ha.1, hb.1]; rfl, ?_⟩
  unfold pairE
  rw [Ex.ter_mk, if_neg (by omega), Ex.terL, Ex.terL, Ex.terL, Option.or_none, ha.2, hb.2]
  simp only [Option.none_or]
  rw [misfit_none]
  intro k hk
  simp only [List.mem_cons, List.not_mem_nil, or_false] at hk
  rcases hk with rfl | rfl
  · exact hw.1
  · exact hw.2
theorem pair_rk (l : List Mo) (vs : List Int) (op : Int) (q : Nat) (a b : Ex) (h1 : 8 ≤ op) (h2 : op ≤ 17) : (pairE op q a b).rk l vs = (a.rk l vs).bind fun x => perF op x (b.rk l vs) := by
  unfold pairE
  rw [Ex.rk_mk, rkOp, if_neg (by omega), if_neg (by omega), if_neg (by omega), if_neg (by omega), kidO_rk l vs [a, b] 0 (by simp), kidO_rk l vs [a, b] 1 (by simp)]
  congr 1
  funext x
  rw [unF, if_neg (by omega), if_neg (by omega), if_neg (by omega)]
  rfl
/-- The opposite of an expression; its row lies in block q. -/
def notE (q : Nat) (a : Ex) : Ex := .mk 5 ⟨#[]⟩ ⟨#[]⟩ 0 (some ⟨q, 0, none⟩) 1 [a] 0
theorem not_ok (q : Nat) (a : Ex) : (notE q a).ok = a.ok := by
  have h1 : (notE q a).ok1 = true := rfl
  unfold notE at h1 ⊢
  rw [Ex.ok, Ex.subs_mk, List.all_cons, h1, Bool.true_and, Ex.subsL_eq, List.all_flatMap]
  simp [Ex.ok]
theorem not_tero (l : List Mo) (q : Nat) (a : Ex) (ha : a.tero l = none) (hw : a.is l = 1) : (notE q a).tero l = none := by
  rw [tero_none] at ha ⊢
  refine ⟨by rw [not_ok, ha.1], ?_⟩
  unfold notE
  rw [Ex.ter_mk, if_neg (by omega), Ex.terL, Ex.terL, Option.or_none, ha.2]
  simp only [Option.none_or]
  rw [misfit_none]
  intro k hk
  simp only [List.mem_cons, List.not_mem_nil, or_false] at hk
  subst hk
  exact hw
theorem not_rk (l : List Mo) (vs : List Int) (q : Nat) (a : Ex) : (notE q a).rk l vs = (a.rk l vs).bind fun x => some (bitF (x == 0)) := by
  unfold notE
  rw [Ex.rk_mk, rkOp, if_neg (by omega), if_neg (by omega), if_neg (by omega), if_neg (by omega), kidO_rk l vs [a] 0 (by simp)]
  rfl
theorem not_is {W : World} {n b : Nat} {a : Ex} (h : W.heap[b]? = some (.cells a.cells.toArray 28 (0, 0))) (hb : b < n) (h1 : a.Is n W) : (notE b a).Is n W := Ex.Is.up ⟨⟨⟨by decide, by decide⟩, i64_zero, i64_zero, len0, len0⟩, ⟨by simp, by unfold maxLen; simp, .inr ⟨b, 0, rfl, hb, fun j hj i hi => by
    rw [Nat.zero_add, cellOf h]
    have hj2 : j < 1 := by simpa using hj
    rcases a with ⟨a1, a2, a3, a4, a5, a6, a7, a8⟩
    rcases j with _ | j
    · rcases i with _ | _ | _ | _ | _ | _ | i <;> first | rfl | omega
    · omega⟩⟩, fun x hx => by
      simp only [List.mem_cons, List.not_mem_nil, or_false] at hx
      subst hx
      exact h1⟩
theorem pairE_is {W : World} {n b : Nat} {op : Int} {k1 k2 : Ex} (ho : I64 op) (h : W.heap[b]? = some (.cells (k1.cells ++ k2.cells).toArray 28 (0, 0))) (hb : b < n) (h1 : k1.Is n W) (h2 : k2.Is n W) : (pairE op b k1 k2).Is n W := two_is ho h hb h1 h2
def zeroE : Ex := .mk 1 ⟨#[]⟩ ⟨#[]⟩ 0 none 0 [] 0
theorem zeroE_is (n : Nat) (W : World) : zeroE.Is n W := Ex.Is.up ⟨⟨⟨by decide, by decide⟩, i64_zero, i64_zero, len0, len0⟩, ⟨by simp, by unfold maxLen; simp, .inl rfl⟩, fun x hx => by cases hx⟩
theorem zeroE_tero (l : List Mo) : zeroE.tero l = none := by kernel_rfl
theorem zeroE_of (l : List Mo) : zeroE.is l = 2 := by kernel_rfl
/-- What is around a fault is one. -/
theorem not_fault {p : Pr} {vs : List Int} {q : Nat} {e : Ex} (h1 : e.tero p.mons = none) (h2 : vs.length = vsum p.mons) (h3 : e.rk p.mons vs = none) (h4 : e.is p.mons = 1) : evF p (notE q e) vs = (0, 110) ∧ trF p (notE q e) vs = false := by
  have h : evF p (notE q e) vs = (0, 110) := by
    rw [evF, not_tero p.mons q e h1 h4]
    simp only [if_pos h2]
    rw [not_rk, h3]; rfl
  exact ⟨h, by rw [trF, h]; rfl⟩
theorem eq_fault {p : Pr} {vs : List Int} {q : Nat} {e : Ex} (h1 : e.tero p.mons = none) (h2 : vs.length = vsum p.mons) (h3 : e.rk p.mons vs = none) (h4 : e.is p.mons = 2) : evF p (pairE 10 q e zeroE) vs = (0, 110) ∧ trF p (pairE 10 q e zeroE) vs = false := by
  have h : evF p (pairE 10 q e zeroE) vs = (0, 110) := by
    rw [evF, pair_tero p.mons 10 q e zeroE (by omega) (by omega) h1 (zeroE_tero _) ⟨by simp [wantOf, opWant], by rw [zeroE_of]; simp [wantOf, opWant, h4]⟩]
    simp only [if_pos h2]
    rw [pair_rk _ _ _ _ _ _ (by omega) (by omega), h3]; rfl
  exact ⟨h, by rw [trF, h]; rfl⟩
end Go.Proofs.YtopiceoofdlkbaaDoor
namespace Go.Proofs.YtopiceoofdlkbaaDoor
open Go.RowKit
set_option maxRecDepth 100000 in
set_option maxHeartbeats 16000000 in
theorem valueFaults_walk (p : Pr) (e : Ex) (vs : List Int) (vad : Option Addr) (vcap : Nat) (w : World) (hS : Shapes w) (hp : p.Is w.heap.size w) (he : e.Is w.heap.size w) (hV : SlAt 1 iv w.heap.size w vad vcap vs) (hvi : ∀ x ∈ vs, I64 x) :
    Calls Tryd.prog 7 #[p.val, e.val, .slice vad vs.length vcap] w fun r w' => r = .returned (.bool true) ∧ Below w.heap.size w w' := by
  have hs3 := hS.size
  have hv1 := hV.1; have hv2 := hV.2.1
  unfold maxLen at hv2
  have h8 : ∀ W, Below w.heap.size w W → Calls Tryd.prog 8 #[p.val, .int .i64 300] W fun r w' => (r = .returned (.bool false) ∧ Below W.heap.size W w') ∨ (r = .returned (.bool true) ∧ vsum p.mons ≤ 1000000 ∧ Below W.heap.size W w') := fun W hW => small_or w.heap.size p W hW.size (hp.below hW)
  have h9 : ∀ W, Below w.heap.size w W → Calls Tryd.prog 9 #[e.val, .int .i64 20] W fun r w' => r = .returned (.int .i64 (restE e 20)) ∧ Below W.heap.size W w' := fun W hW => restExpr_any w.heap.size e 20 W (by omega) (by omega) hW.size (he.below hW)
  have h10 : ∀ W, Below w.heap.size w W → Calls Tryd.prog 10 #[] W fun r w' => r = .returned (.bool true) ∧ Below W.heap.size W w' := fun W hW => live_any W (hS.below hW hs3)
  have h13 := num_any
  have h11 : vsum p.mons ≤ 1000000 → ∀ W, Below w.heap.size w W → Calls Tryd.prog 11 #[p.val, e.val, .slice vad vs.length vcap] W fun r w' => EvBack (evF p e vs) W w' r := fun hv W hW => eval_any p hv e vs hvi vad vcap w.heap.size W hW.size (hp.below hW) (he.below hW) (hV.below hW) (hS.below hW hs3)
  have h21 : vsum p.mons ≤ 1000000 → ∀ W, Below w.heap.size w W → Calls Tryd.prog 21 #[p.val, e.val] W fun r w' => TyBack (e.is p.mons) (e.tero p.mons) W w' r := fun hv W hW => type_any p hv e w.heap.size W hW.size (hp.below hW) (he.below hW) (hS.below hW hs3)
  have hN : vsum p.mons ≤ 1000000 → ∀ (x : Ex) (V : World), Below w.heap.size w V → x.Is V.heap.size V → (Calls Tryd.prog 11 #[p.val, x.val, .slice vad vs.length vcap] V fun r w' => EvBack (evF p x vs) V w' r) ∧ (∀ V', Below V.heap.size V V' → Calls Tryd.prog 14 #[p.val, x.val, .slice vad vs.length vcap] V' fun r w' => r = .returned (.bool (trF p x vs)) ∧ Below V'.heap.size V' w') := fun hv x V hV0 hx => ⟨eval_any p hv x vs hvi vad vcap V.heap.size V (Nat.le_refl _) ((hp.below hV0).mono hV0.size) hx ((hV.below hV0).mono hV0.size) (hS.below hV0 hs3), fun V' hV' => true_any p hv x vs hvi vad vcap V.heap.size V' hV'.size (((hp.below hV0).mono hV0.size).below hV') (hx.below hV') (((hV.below hV0).mono hV0.size).below hV') (hS.below (hV0.tr le_rfl' hV') hs3)⟩
  have HI : Hid (∀ W, Below w.heap.size w W → e.Is w.heap.size W) := fun W hW => he.below hW
  have HNF : Hid (∀ q, e.tero p.mons = none → vs.length = vsum p.mons → e.rk p.mons vs = none → e.is p.mons = 1 → evF p (notE q e) vs = (0, 110) ∧ trF p (notE q e) vs = false) := fun q a b c d => not_fault a b c d
  have HEF : Hid (∀ q, e.tero p.mons = none → vs.length = vsum p.mons → e.rk p.mons vs = none → e.is p.mons = 2 → evF p (pairE 10 q e zeroE) vs = (0, 110) ∧ trF p (pairE 10 q e zeroE) vs = false) := fun q a b c d => eq_fault a b c d
  have HIT : Hid (e.tero p.mons = none → e.is p.mons = 1 ∨ e.is p.mons = 2) := fun h => is_two h
  have HC := hid (evF_cases p e vs)
  obtain ⟨rs, hrs⟩ : ∃ rs, restE e 20 = rs := ⟨_, rfl⟩
  simp only [hrs] at h9
  clear hrs hS hp he hV hvi
  have HNI : Hid (∀ (V : World) (q : Nat), Below w.heap.size w V → V.heap[q]? = some (.cells e.cells.toArray 28 (0, 0)) → q < V.heap.size → (notE q e).Is V.heap.size V) := fun V q hV0 hq hlt => not_is hq hlt ((HI.out V hV0).mono hV0.size)
  have HEI : Hid (∀ (V : World) (q : Nat), Below w.heap.size w V → V.heap[q]? = some (.cells (e.cells ++ zeroE.cells).toArray 28 (0, 0)) → q < V.heap.size → (pairE 10 q e zeroE).Is V.heap.size V) := fun V q hV0 hq hlt => pairE_is ⟨by decide, by decide⟩ hq hlt ((HI.out V hV0).mono hV0.size) (zeroE_is _ _)
  have HNV : Hid (∀ q, (notE q e).val = .agg #[.int .i64 5, .string ⟨#[]⟩, .string ⟨#[]⟩, .int .i64 0, .slice (some ⟨q, 0, none⟩) 1 1, .int .i64 0]) := fun _ => rfl
  have HEV : Hid (∀ q, (pairE 10 q e zeroE).val = .agg #[.int .i64 10, .string ⟨#[]⟩, .string ⟨#[]⟩, .int .i64 0, .slice (some ⟨q, 0, none⟩) 2 2, .int .i64 0]) := fun _ => rfl
  obtain ⟨pad, hpad⟩ : ∃ a, p.mad = a := ⟨_, rfl⟩
  obtain ⟨pml, hpml⟩ : ∃ a, p.mons.length = a := ⟨_, rfl⟩
  obtain ⟨pmc, hpmc⟩ : ∃ a, p.mcap = a := ⟨_, rfl⟩
  obtain ⟨prd, hprd⟩ : ∃ a, p.rad = a := ⟨_, rfl⟩
  obtain ⟨prl, hprl⟩ : ∃ a, p.roles.length = a := ⟨_, rfl⟩
  obtain ⟨prc, hprc⟩ : ∃ a, p.rcap = a := ⟨_, rfl⟩
  obtain ⟨ti, hti⟩ : ∃ a, e.is p.mons = a := ⟨_, rfl⟩
  obtain ⟨tt, htt⟩ : ∃ a, e.tero p.mons = a := ⟨_, rfl⟩
  obtain ⟨EV, hEV⟩ : ∃ a, evF p e vs = a := ⟨_, rfl⟩
  have HN := hid hN
  simp only [hti, htt] at h21 HNF HEF HIT
  simp only [htt, hEV] at HC
  simp only [hEV] at h11
  clear hti htt hEV hN
  have HEX := hid (rfl : e = e)
  obtain ⟨e0, he0⟩ : ∃ e0, e = e0 := ⟨_, rfl⟩
  simp only [he0] at HI HNI HEI HNV HEV HNF HEF
  rw [he0] at HC
  rcases e with ⟨op, mon, name, n, ad, cap, kids, pos⟩
  have HE0 := hid he0.symm
  have HPV : Hid (p.val = .agg #[.slice pad pml pmc, .slice prd prl prc]) := by show _ = _; simp only [Pr.val, hpad, hpml, hpmc, hprd, hprl, hprc]
  simp only [Pr.val, Ex.val, Ex.cells, hpad, hpml, hpmc, hprd, hprl, hprc] at h8 h9 h11 h21 ⊢
  clear hpad hpml hpmc hprd hprl hprc HEX he0
  go_enter Tryd.func7, Tryd.ntmps7
  go_upto_region 1 with fail
  obtain ⟨bP, bE, B, hz⟩ := two_box w #[.slice pad pml pmc, .slice prd prl prc] #[.int .i64 op, .string mon, .string name, .int .i64 n, .slice ad kids.length cap, .int .i64 pos] 25 28
  obtain ⟨W0, hW0⟩ : ∃ W0, (w.alloc (.cells #[.slice pad pml pmc, .slice prd prl prc] 25)).alloc (.cells #[.int .i64 op, .string mon, .string name, .int .i64 n, .slice ad kids.length cap, .int .i64 pos] 28) = W0 := ⟨_, rfl⟩
  rw [hW0] at bP bE B hz ⊢
  clear hW0
  have HK : Hid (∀ W, Below w.heap.size w W → True) := fun _ _ => trivial
  have HZ := hid hz
  have HK : Hid (∀ W, Below W0.heap.size W0 W → W.heap[w.heap.size]? = some (.cells #[.slice pad pml pmc, .slice prd prl prc] 25 (0, 0)) ∧ W.heap[w.heap.size + 1]? = some (.cells #[.int .i64 op, .string mon, .string name, .int .i64 n, .slice ad kids.length cap, .int .i64 pos] 28 (0, 0))) := fun W hW => ⟨(hW.block _ (by omega)).trans bP, (hW.block _ (by omega)).trans bE⟩
  have HB := hid B
  clear B
  have h8 : ∀ W, Below W0.heap.size W0 W → _ := fun W hW => h8 W (HB.out.tr le_rfl' hW)
  have h9 : ∀ W, Below W0.heap.size W0 W → _ := fun W hW => h9 W (HB.out.tr le_rfl' hW)
  have h10 : ∀ W, Below W0.heap.size W0 W → _ := fun W hW => h10 W (HB.out.tr le_rfl' hW)
  have h11 : _ → ∀ W, Below W0.heap.size W0 W → _ := fun hv W hW => h11 hv W (HB.out.tr le_rfl' hW)
  have h21 : _ → ∀ W, Below W0.heap.size W0 W → _ := fun hv W hW => h21 hv W (HB.out.tr le_rfl' hW)
  have B := Below.refl W0.heap.size W0
  obtain ⟨e1, e2⟩ := HK.out _ B
  have m0 := cellOf e1 0
  have m1 := cellOf e1 1
  have s0 := cellOf e2 0
  have s1 := cellOf e2 1
  have s2 := cellOf e2 2
  have s3 := cellOf e2 3
  have s4 := cellOf e2 4
  have s5 := cellOf e2 5
  simp at m0 m1 s0 s1 s2 s3 s4 s5
  clear e1 e2
  clear hz bP bE
  by_cases hr : rs < 0
  · clear HC HN HNF HEF h11 h21
    have hrd : decide (rs < 0) = true := decide_eq_true hr
    go_wp2_with (first | (go_at_call 8; (with_reducible refine (h8 _ B).mono ?_); rintro r w1 (⟨rfl, bb⟩ | ⟨rfl, hsm, bb⟩) <;> (have B := B.tr le_rfl' bb; clear m0 m1 s0 s1 s2 s3 s4 s5; obtain ⟨e1, e2⟩ := HK.out _ B; have m0 := cellOf e1 0; have m1 := cellOf e1 1; have s0 := cellOf e2 0; have s1 := cellOf e2 1; have s2 := cellOf e2 2; have s3 := cellOf e2 3; have s4 := cellOf e2 4; have s5 := cellOf e2 5; simp at m0 m1 s0 s1 s2 s3 s4 s5; clear e1 e2)) | (go_at_call 9; (with_reducible refine (h9 _ B).mono ?_); rintro r w2 ⟨rfl, bb⟩; have B := B.tr le_rfl' bb; clear m0 m1 s0 s1 s2 s3 s4 s5; obtain ⟨e1, e2⟩ := HK.out _ B; have m0 := cellOf e1 0; have m1 := cellOf e1 1; have s0 := cellOf e2 0; have s1 := cellOf e2 1; have s2 := cellOf e2 2; have s3 := cellOf e2 3; have s4 := cellOf e2 4; have s5 := cellOf e2 5; simp at m0 m1 s0 s1 s2 s3 s4 s5; clear e1 e2) | (go_at_call 10; (with_reducible refine (h10 _ B).mono ?_); rintro r u3 ⟨rfl, bb⟩; have B := B.tr le_rfl' bb))
    all_goals go_ret
    all_goals exact ⟨rfl, HB.out.tr le_rfl' B⟩
  have hrd : decide (rs < 0) = false := decide_eq_false hr
  by_cases hl : 400 < vs.length
  · clear HC HN HNF HEF h11 h21
    have hld : decide ((400 : Int) < (vs.length : Int)) = true := by simp; omega
    go_wp2_with (first | (go_at_call 8; (with_reducible refine (h8 _ B).mono ?_); rintro r w1 (⟨rfl, bb⟩ | ⟨rfl, hsm, bb⟩) <;> (have B := B.tr le_rfl' bb; clear m0 m1 s0 s1 s2 s3 s4 s5; obtain ⟨e1, e2⟩ := HK.out _ B; have m0 := cellOf e1 0; have m1 := cellOf e1 1; have s0 := cellOf e2 0; have s1 := cellOf e2 1; have s2 := cellOf e2 2; have s3 := cellOf e2 3; have s4 := cellOf e2 4; have s5 := cellOf e2 5; simp at m0 m1 s0 s1 s2 s3 s4 s5; clear e1 e2)) | (go_at_call 9; (with_reducible refine (h9 _ B).mono ?_); rintro r w2 ⟨rfl, bb⟩; have B := B.tr le_rfl' bb; clear m0 m1 s0 s1 s2 s3 s4 s5; obtain ⟨e1, e2⟩ := HK.out _ B; have m0 := cellOf e1 0; have m1 := cellOf e1 1; have s0 := cellOf e2 0; have s1 := cellOf e2 1; have s2 := cellOf e2 2; have s3 := cellOf e2 3; have s4 := cellOf e2 4; have s5 := cellOf e2 5; simp at m0 m1 s0 s1 s2 s3 s4 s5; clear e1 e2) | (go_at_call 10; (with_reducible refine (h10 _ B).mono ?_); rintro r u3 ⟨rfl, bb⟩; have B := B.tr le_rfl' bb))
    all_goals go_ret
    all_goals exact ⟨rfl, HB.out.tr le_rfl' B⟩
  have hld : decide ((400 : Int) < (vs.length : Int)) = false := by simp; omega
  clear hr hl
  rcases HC.out with ⟨c, a, h1, h2, h3⟩ | ⟨h1, h2, h3⟩ | ⟨h1, h2, x, h3, h4⟩ | ⟨h1, h2, h3, h4⟩
  · have h11 := fun hv W hW => EvBack.at (h11 hv W hW) h2
    have h21 := fun hv W hW => TyBack.yes (h21 hv W hW) h1
    have hc : (c == 110) = false := by rw [beq_eq_false_iff_ne]; omega
    clear h1 h2 h3
    clear HC HN HNF HEF
    go_wp2_with (first | (go_at_call 8; (with_reducible refine (h8 _ B).mono ?_); rintro r w1 (⟨rfl, bb⟩ | ⟨rfl, hsm, bb⟩) <;> (have B := B.tr le_rfl' bb; clear m0 m1 s0 s1 s2 s3 s4 s5; obtain ⟨e1, e2⟩ := HK.out _ B; have m0 := cellOf e1 0; have m1 := cellOf e1 1; have s0 := cellOf e2 0; have s1 := cellOf e2 1; have s2 := cellOf e2 2; have s3 := cellOf e2 3; have s4 := cellOf e2 4; have s5 := cellOf e2 5; simp at m0 m1 s0 s1 s2 s3 s4 s5; clear e1 e2)) | (go_at_call 9; (with_reducible refine (h9 _ B).mono ?_); rintro r w2 ⟨rfl, bb⟩; have B := B.tr le_rfl' bb; clear m0 m1 s0 s1 s2 s3 s4 s5; obtain ⟨e1, e2⟩ := HK.out _ B; have m0 := cellOf e1 0; have m1 := cellOf e1 1; have s0 := cellOf e2 0; have s1 := cellOf e2 1; have s2 := cellOf e2 2; have s3 := cellOf e2 3; have s4 := cellOf e2 4; have s5 := cellOf e2 5; simp at m0 m1 s0 s1 s2 s3 s4 s5; clear e1 e2) | (go_at_call 10; (with_reducible refine (h10 _ B).mono ?_); rintro r u3 ⟨rfl, bb⟩; have B := B.tr le_rfl' bb) | (go_at_call 11; (with_reducible refine (h11 hsm _ B).mono ?_); rintro r u4 ⟨rfl, hx, bb⟩; have B := B.tr le_rfl' bb; clear m0 m1 s0 s1 s2 s3 s4 s5; obtain ⟨e1, e2⟩ := HK.out _ B; have m0 := cellOf e1 0; have m1 := cellOf e1 1; have s0 := cellOf e2 0; have s1 := cellOf e2 1; have s2 := cellOf e2 2; have s3 := cellOf e2 3; have s4 := cellOf e2 4; have s5 := cellOf e2 5; simp at m0 m1 s0 s1 s2 s3 s4 s5; clear e1 e2) | (go_at_call 21; (with_reducible refine (h21 hsm _ B).mono ?_); rintro r u5 ⟨rfl, bb⟩; have B := B.tr le_rfl' bb; clear m0 m1 s0 s1 s2 s3 s4 s5; obtain ⟨e1, e2⟩ := HK.out _ B; have m0 := cellOf e1 0; have m1 := cellOf e1 1; have s0 := cellOf e2 0; have s1 := cellOf e2 1; have s2 := cellOf e2 2; have s3 := cellOf e2 3; have s4 := cellOf e2 4; have s5 := cellOf e2 5; simp at m0 m1 s0 s1 s2 s3 s4 s5; clear e1 e2) | (go_at_call 13; (with_reducible refine (h13 _ _).mono ?_); rintro r w' ⟨rfl, hw'⟩; have hw2 := hw'.symm; subst hw2))
    all_goals go_ret
    all_goals exact ⟨rfl, HB.out.tr le_rfl' B⟩
  · have h11 := fun hv W hW => EvBack.at (h11 hv W hW) h3
    have h21 := fun hv W hW => TyBack.no (h21 hv W hW) h1
    clear h1 h2 h3
    clear HC HN HNF HEF
    go_wp2_with (first | (go_at_call 8; (with_reducible refine (h8 _ B).mono ?_); rintro r w1 (⟨rfl, bb⟩ | ⟨rfl, hsm, bb⟩) <;> (have B := B.tr le_rfl' bb; clear m0 m1 s0 s1 s2 s3 s4 s5; obtain ⟨e1, e2⟩ := HK.out _ B; have m0 := cellOf e1 0; have m1 := cellOf e1 1; have s0 := cellOf e2 0; have s1 := cellOf e2 1; have s2 := cellOf e2 2; have s3 := cellOf e2 3; have s4 := cellOf e2 4; have s5 := cellOf e2 5; simp at m0 m1 s0 s1 s2 s3 s4 s5; clear e1 e2)) | (go_at_call 9; (with_reducible refine (h9 _ B).mono ?_); rintro r w2 ⟨rfl, bb⟩; have B := B.tr le_rfl' bb; clear m0 m1 s0 s1 s2 s3 s4 s5; obtain ⟨e1, e2⟩ := HK.out _ B; have m0 := cellOf e1 0; have m1 := cellOf e1 1; have s0 := cellOf e2 0; have s1 := cellOf e2 1; have s2 := cellOf e2 2; have s3 := cellOf e2 3; have s4 := cellOf e2 4; have s5 := cellOf e2 5; simp at m0 m1 s0 s1 s2 s3 s4 s5; clear e1 e2) | (go_at_call 10; (with_reducible refine (h10 _ B).mono ?_); rintro r u3 ⟨rfl, bb⟩; have B := B.tr le_rfl' bb) | (go_at_call 11; (with_reducible refine (h11 hsm _ B).mono ?_); rintro r u4 ⟨rfl, hx, bb⟩; have B := B.tr le_rfl' bb; clear m0 m1 s0 s1 s2 s3 s4 s5; obtain ⟨e1, e2⟩ := HK.out _ B; have m0 := cellOf e1 0; have m1 := cellOf e1 1; have s0 := cellOf e2 0; have s1 := cellOf e2 1; have s2 := cellOf e2 2; have s3 := cellOf e2 3; have s4 := cellOf e2 4; have s5 := cellOf e2 5; simp at m0 m1 s0 s1 s2 s3 s4 s5; clear e1 e2) | (go_at_call 21; (with_reducible refine (h21 hsm _ B).mono ?_); rintro r u5 ⟨rfl, bb⟩; have B := B.tr le_rfl' bb; clear m0 m1 s0 s1 s2 s3 s4 s5; obtain ⟨e1, e2⟩ := HK.out _ B; have m0 := cellOf e1 0; have m1 := cellOf e1 1; have s0 := cellOf e2 0; have s1 := cellOf e2 1; have s2 := cellOf e2 2; have s3 := cellOf e2 3; have s4 := cellOf e2 4; have s5 := cellOf e2 5; simp at m0 m1 s0 s1 s2 s3 s4 s5; clear e1 e2) | (go_at_call 13; (with_reducible refine (h13 _ _).mono ?_); rintro r w' ⟨rfl, hw'⟩; have hw2 := hw'.symm; subst hw2))
    all_goals go_ret
    all_goals exact ⟨rfl, HB.out.tr le_rfl' B⟩
  · have h11 := fun hv W hW => EvBack.at (h11 hv W hW) h4
    have h21 := fun hv W hW => TyBack.no (h21 hv W hW) h1
    clear h1 h2 h3 h4
    clear HC HN HNF HEF
    go_wp2_with (first | (go_at_call 8; (with_reducible refine (h8 _ B).mono ?_); rintro r w1 (⟨rfl, bb⟩ | ⟨rfl, hsm, bb⟩) <;> (have B := B.tr le_rfl' bb; clear m0 m1 s0 s1 s2 s3 s4 s5; obtain ⟨e1, e2⟩ := HK.out _ B; have m0 := cellOf e1 0; have m1 := cellOf e1 1; have s0 := cellOf e2 0; have s1 := cellOf e2 1; have s2 := cellOf e2 2; have s3 := cellOf e2 3; have s4 := cellOf e2 4; have s5 := cellOf e2 5; simp at m0 m1 s0 s1 s2 s3 s4 s5; clear e1 e2)) | (go_at_call 9; (with_reducible refine (h9 _ B).mono ?_); rintro r w2 ⟨rfl, bb⟩; have B := B.tr le_rfl' bb; clear m0 m1 s0 s1 s2 s3 s4 s5; obtain ⟨e1, e2⟩ := HK.out _ B; have m0 := cellOf e1 0; have m1 := cellOf e1 1; have s0 := cellOf e2 0; have s1 := cellOf e2 1; have s2 := cellOf e2 2; have s3 := cellOf e2 3; have s4 := cellOf e2 4; have s5 := cellOf e2 5; simp at m0 m1 s0 s1 s2 s3 s4 s5; clear e1 e2) | (go_at_call 10; (with_reducible refine (h10 _ B).mono ?_); rintro r u3 ⟨rfl, bb⟩; have B := B.tr le_rfl' bb) | (go_at_call 11; (with_reducible refine (h11 hsm _ B).mono ?_); rintro r u4 ⟨rfl, hx, bb⟩; have B := B.tr le_rfl' bb; clear m0 m1 s0 s1 s2 s3 s4 s5; obtain ⟨e1, e2⟩ := HK.out _ B; have m0 := cellOf e1 0; have m1 := cellOf e1 1; have s0 := cellOf e2 0; have s1 := cellOf e2 1; have s2 := cellOf e2 2; have s3 := cellOf e2 3; have s4 := cellOf e2 4; have s5 := cellOf e2 5; simp at m0 m1 s0 s1 s2 s3 s4 s5; clear e1 e2) | (go_at_call 21; (with_reducible refine (h21 hsm _ B).mono ?_); rintro r u5 ⟨rfl, bb⟩; have B := B.tr le_rfl' bb; clear m0 m1 s0 s1 s2 s3 s4 s5; obtain ⟨e1, e2⟩ := HK.out _ B; have m0 := cellOf e1 0; have m1 := cellOf e1 1; have s0 := cellOf e2 0; have s1 := cellOf e2 1; have s2 := cellOf e2 2; have s3 := cellOf e2 3; have s4 := cellOf e2 4; have s5 := cellOf e2 5; simp at m0 m1 s0 s1 s2 s3 s4 s5; clear e1 e2) | (go_at_call 13; (with_reducible refine (h13 _ _).mono ?_); rintro r w' ⟨rfl, hw'⟩; have hw2 := hw'.symm; subst hw2))
    all_goals go_ret
    all_goals exact ⟨rfl, HB.out.tr le_rfl' B⟩
  have h11 := fun hv W hW => EvBack.at (h11 hv W hW) h4
  have h21 := fun hv W hW => TyBack.no (h21 hv W hW) h1
  rcases HIT.out h1 with h5 | h5
  · subst h5
    have HNF2 := hid (fun q => HNF.out q h1 h2 h3 rfl)
    clear HC HNF HEF HIT h1 h2 h3 h4 HEI HEV
    have h11n : ∀ hv (q : Nat) (V : World), Below w.heap.size w V → V.heap[q]? = some (.cells #[.int .i64 op, .string mon, .string name, .int .i64 n, .slice ad kids.length cap, .int .i64 pos] 28 (0, 0)) → (Calls Tryd.prog 11 #[.agg #[.slice pad pml pmc, .slice prd prl prc], .agg #[.int .i64 5, .string ⟨#[]⟩, .string ⟨#[]⟩, .int .i64 0, .slice (some ⟨q, 0, none⟩) 1 1, .int .i64 0], .slice vad vs.length vcap] V fun r w' => r = .returned (.tuple #[.int .i64 0, .int .i64 110]) ∧ Below V.heap.size V w' ∧ Calls Tryd.prog 14 #[.agg #[.slice pad pml pmc, .slice prd prl prc], .agg #[.int .i64 5, .string ⟨#[]⟩, .string ⟨#[]⟩, .int .i64 0, .slice (some ⟨q, 0, none⟩) 1 1, .int .i64 0], .slice vad vs.length vcap] w' fun r w'' => r = .returned (.bool false) ∧ Below w'.heap.size w' w'') := fun hv q V hVb q1 => by
      obtain ⟨c1, c2⟩ := HN.out hv (notE q e0) V hVb (HNI.out V q hVb (by rw [HE0.out]; exact q1) (Array.getElem?_eq_some_iff.1 q1).1)
      rw [HNV.out, HPV.out] at c1 c2
      obtain ⟨f1, f2⟩ := HNF2.out q
      rw [f2] at c2
      refine (EvBack.at c1 f1).mono ?_
      rintro r w' ⟨rfl, _, hb⟩
      exact ⟨rfl, hb, c2 w' hb⟩
    go_upto_region 6 with (first | (go_at_call 8; (with_reducible refine (h8 _ B).mono ?_); rintro r w1 (⟨rfl, bb⟩ | ⟨rfl, hsm, bb⟩) <;> (have B := B.tr le_rfl' bb; clear m0 m1 s0 s1 s2 s3 s4 s5; obtain ⟨e1, e2⟩ := HK.out _ B; have m0 := cellOf e1 0; have m1 := cellOf e1 1; have s0 := cellOf e2 0; have s1 := cellOf e2 1; have s2 := cellOf e2 2; have s3 := cellOf e2 3; have s4 := cellOf e2 4; have s5 := cellOf e2 5; simp at m0 m1 s0 s1 s2 s3 s4 s5; clear e1 e2)) | (go_at_call 9; (with_reducible refine (h9 _ B).mono ?_); rintro r w2 ⟨rfl, bb⟩; have B := B.tr le_rfl' bb; clear m0 m1 s0 s1 s2 s3 s4 s5; obtain ⟨e1, e2⟩ := HK.out _ B; have m0 := cellOf e1 0; have m1 := cellOf e1 1; have s0 := cellOf e2 0; have s1 := cellOf e2 1; have s2 := cellOf e2 2; have s3 := cellOf e2 3; have s4 := cellOf e2 4; have s5 := cellOf e2 5; simp at m0 m1 s0 s1 s2 s3 s4 s5; clear e1 e2) | (go_at_call 10; (with_reducible refine (h10 _ B).mono ?_); rintro r u3 ⟨rfl, bb⟩; have B := B.tr le_rfl' bb) | (go_at_call 11; (with_reducible refine (h11 hsm _ B).mono ?_); rintro r u4 ⟨rfl, hx, bb⟩; have B := B.tr le_rfl' bb; clear m0 m1 s0 s1 s2 s3 s4 s5; obtain ⟨e1, e2⟩ := HK.out _ B; have m0 := cellOf e1 0; have m1 := cellOf e1 1; have s0 := cellOf e2 0; have s1 := cellOf e2 1; have s2 := cellOf e2 2; have s3 := cellOf e2 3; have s4 := cellOf e2 4; have s5 := cellOf e2 5; simp at m0 m1 s0 s1 s2 s3 s4 s5; clear e1 e2) | (go_at_call 21; (with_reducible refine (h21 hsm _ B).mono ?_); rintro r u5 ⟨rfl, bb⟩; have B := B.tr le_rfl' bb; clear m0 m1 s0 s1 s2 s3 s4 s5; obtain ⟨e1, e2⟩ := HK.out _ B; have m0 := cellOf e1 0; have m1 := cellOf e1 1; have s0 := cellOf e2 0; have s1 := cellOf e2 1; have s2 := cellOf e2 2; have s3 := cellOf e2 3; have s4 := cellOf e2 4; have s5 := cellOf e2 5; simp at m0 m1 s0 s1 s2 s3 s4 s5; clear e1 e2) | (go_at_call 13; (with_reducible refine (h13 _ _).mono ?_); rintro r w' ⟨rfl, hw'⟩; have hw2 := hw'.symm; subst hw2))
    · go_ret
      exact ⟨rfl, HB.out.tr le_rfl' B⟩
    go_upto_region 7 with fail
    have hzB := B.size
    have hst := HZ.out
    have q0 : ((u5.alloc (.cells #[.int .i64 op, .string mon, .string name, .int .i64 n, .slice ad kids.length cap, .int .i64 pos] 28)).alloc (.cells #[.int .i64 5, .string ⟨#[]⟩, .string ⟨#[]⟩, .int .i64 0, .slice (some ⟨u5.heap.size, 0, none⟩) 1 1, .int .i64 0] 28)).heap[u5.heap.size]? = some (.cells #[.int .i64 op, .string mon, .string name, .int .i64 n, .slice ad kids.length cap, .int .i64 pos] 28 (0, 0)) := by
      rw [Below.heap_alloc _ _ _ (by simp only [World.size_alloc]; omega)]
      exact heapAt9 _ rfl
    have q1 : ((u5.alloc (.cells #[.int .i64 op, .string mon, .string name, .int .i64 n, .slice ad kids.length cap, .int .i64 pos] 28)).alloc (.cells #[.int .i64 5, .string ⟨#[]⟩, .string ⟨#[]⟩, .int .i64 0, .slice (some ⟨u5.heap.size, 0, none⟩) 1 1, .int .i64 0] 28)).heap[u5.heap.size + 1]? = some (.cells #[.int .i64 5, .string ⟨#[]⟩, .string ⟨#[]⟩, .int .i64 0, .slice (some ⟨u5.heap.size, 0, none⟩) 1 1, .int .i64 0] 28 (0, 0)) := heapAt9 _ (by simp)
    have hzz : ((u5.alloc (.cells #[.int .i64 op, .string mon, .string name, .int .i64 n, .slice ad kids.length cap, .int .i64 pos] 28)).alloc (.cells #[.int .i64 5, .string ⟨#[]⟩, .string ⟨#[]⟩, .int .i64 0, .slice (some ⟨u5.heap.size, 0, none⟩) 1 1, .int .i64 0] 28)).heap.size = u5.heap.size + 2 := by simp
    have B := (B.al le_rfl' (.cells #[.int .i64 op, .string mon, .string name, .int .i64 n, .slice ad kids.length cap, .int .i64 pos] 28)).al le_rfl' (.cells #[.int .i64 5, .string ⟨#[]⟩, .string ⟨#[]⟩, .int .i64 0, .slice (some ⟨u5.heap.size, 0, none⟩) 1 1, .int .i64 0] 28)
    obtain ⟨W2, hW2⟩ : ∃ W2, (u5.alloc (.cells #[.int .i64 op, .string mon, .string name, .int .i64 n, .slice ad kids.length cap, .int .i64 pos] 28)).alloc (.cells #[.int .i64 5, .string ⟨#[]⟩, .string ⟨#[]⟩, .int .i64 0, .slice (some ⟨u5.heap.size, 0, none⟩) 1 1, .int .i64 0] 28) = W2 := ⟨_, rfl⟩
    rw [hW2] at q0 q1 hzz B ⊢
    clear hW2
    obtain ⟨Q, hQ⟩ : ∃ Q, u5.heap.size = Q := ⟨_, rfl⟩
    rw [hQ] at q0 q1 hzz hzB ⊢
    have HZZ := hid hzz
    clear hzz hQ
    clear m0 m1 s0 s1 s2 s3 s4 s5
    obtain ⟨e1, e2⟩ := HK.out _ B
    have m0 := cellOf e1 0
    have m1 := cellOf e1 1
    have s0 := cellOf e2 0
    have s1 := cellOf e2 1
    have s2 := cellOf e2 2
    have s3 := cellOf e2 3
    have s4 := cellOf e2 4
    have s5 := cellOf e2 5
    simp at m0 m1 s0 s1 s2 s3 s4 s5
    clear e1 e2
    have x0 := cellOf q1 0
    have x1 := cellOf q1 1
    have x2 := cellOf q1 2
    have x3 := cellOf q1 3
    have x4 := cellOf q1 4
    have x5 := cellOf q1 5
    simp at x0 x1 x2 x3 x4 x5
    have hQW : Q + 1 < W2.heap.size := by have := HZZ.out; omega
    go_wp2_with (first | (go_at_call 10; (with_reducible refine (h10 _ B).mono ?_); rintro r u3 ⟨rfl, bb⟩; have B := B.tr le_rfl' bb) | (go_at_call 13; (with_reducible refine (h13 _ _).mono ?_); rintro r w' ⟨rfl, hw'⟩; have hw2 := hw'.symm; subst hw2) | (go_at_call 11; (with_reducible refine (h11n hsm _ _ (HB.out.tr le_rfl' B) q0).mono ?_); rintro r u6 ⟨rfl, bb, hTR⟩; have B := B.tr le_rfl' bb; clear m0 m1 s0 s1 s2 s3 s4 s5; obtain ⟨e1, e2⟩ := HK.out _ B; have m0 := cellOf e1 0; have m1 := cellOf e1 1; have s0 := cellOf e2 0; have s1 := cellOf e2 1; have s2 := cellOf e2 2; have s3 := cellOf e2 3; have s4 := cellOf e2 4; have s5 := cellOf e2 5; simp at m0 m1 s0 s1 s2 s3 s4 s5; clear e1 e2; have q1 := (bb.block _ (by omega)).trans q1; have x0 := cellOf q1 0; have x1 := cellOf q1 1; have x2 := cellOf q1 2; have x3 := cellOf q1 3; have x4 := cellOf q1 4; have x5 := cellOf q1 5; simp at x0 x1 x2 x3 x4 x5) | (go_at_call 14; (with_reducible refine hTR.mono ?_); rintro r u7 ⟨rfl, bb⟩; have B := B.tr le_rfl' bb))
    go_ret
    exact ⟨rfl, HB.out.tr le_rfl' B⟩
  · subst h5
    have HEF2 := hid (fun q => HEF.out q h1 h2 h3 rfl)
    clear HC HNF HEF HIT h1 h2 h3 h4 HNI HNV
    have h11n : ∀ hv (q : Nat) (V : World), Below w.heap.size w V → V.heap[q]? = some (.cells #[.int .i64 op, .string mon, .string name, .int .i64 n, .slice ad kids.length cap, .int .i64 pos, .int .i64 1, .string ⟨#[]⟩, .string ⟨#[]⟩, .int .i64 0, .slice none 0 0, .int .i64 0] 28 (0, 0)) → (Calls Tryd.prog 11 #[.agg #[.slice pad pml pmc, .slice prd prl prc], .agg #[.int .i64 10, .string ⟨#[]⟩, .string ⟨#[]⟩, .int .i64 0, .slice (some ⟨q, 0, none⟩) 2 2, .int .i64 0], .slice vad vs.length vcap] V fun r w' => r = .returned (.tuple #[.int .i64 0, .int .i64 110]) ∧ Below V.heap.size V w' ∧ Calls Tryd.prog 14 #[.agg #[.slice pad pml pmc, .slice prd prl prc], .agg #[.int .i64 10, .string ⟨#[]⟩, .string ⟨#[]⟩, .int .i64 0, .slice (some ⟨q, 0, none⟩) 2 2, .int .i64 0], .slice vad vs.length vcap] w' fun r w'' => r = .returned (.bool false) ∧ Below w'.heap.size w' w'') := fun hv q V hVb q1 => by
      obtain ⟨c1, c2⟩ := HN.out hv (pairE 10 q e0 zeroE) V hVb (HEI.out V q hVb (by rw [HE0.out]; exact q1) (Array.getElem?_eq_some_iff.1 q1).1)
      rw [HEV.out, HPV.out] at c1 c2
      obtain ⟨f1, f2⟩ := HEF2.out q
      rw [f2] at c2
      refine (EvBack.at c1 f1).mono ?_
      rintro r w' ⟨rfl, _, hb⟩
      exact ⟨rfl, hb, c2 w' hb⟩
    go_upto_region 6 with (first | (go_at_call 8; (with_reducible refine (h8 _ B).mono ?_); rintro r w1 (⟨rfl, bb⟩ | ⟨rfl, hsm, bb⟩) <;> (have B := B.tr le_rfl' bb; clear m0 m1 s0 s1 s2 s3 s4 s5; obtain ⟨e1, e2⟩ := HK.out _ B; have m0 := cellOf e1 0; have m1 := cellOf e1 1; have s0 := cellOf e2 0; have s1 := cellOf e2 1; have s2 := cellOf e2 2; have s3 := cellOf e2 3; have s4 := cellOf e2 4; have s5 := cellOf e2 5; simp at m0 m1 s0 s1 s2 s3 s4 s5; clear e1 e2)) | (go_at_call 9; (with_reducible refine (h9 _ B).mono ?_); rintro r w2 ⟨rfl, bb⟩; have B := B.tr le_rfl' bb; clear m0 m1 s0 s1 s2 s3 s4 s5; obtain ⟨e1, e2⟩ := HK.out _ B; have m0 := cellOf e1 0; have m1 := cellOf e1 1; have s0 := cellOf e2 0; have s1 := cellOf e2 1; have s2 := cellOf e2 2; have s3 := cellOf e2 3; have s4 := cellOf e2 4; have s5 := cellOf e2 5; simp at m0 m1 s0 s1 s2 s3 s4 s5; clear e1 e2) | (go_at_call 10; (with_reducible refine (h10 _ B).mono ?_); rintro r u3 ⟨rfl, bb⟩; have B := B.tr le_rfl' bb) | (go_at_call 11; (with_reducible refine (h11 hsm _ B).mono ?_); rintro r u4 ⟨rfl, hx, bb⟩; have B := B.tr le_rfl' bb; clear m0 m1 s0 s1 s2 s3 s4 s5; obtain ⟨e1, e2⟩ := HK.out _ B; have m0 := cellOf e1 0; have m1 := cellOf e1 1; have s0 := cellOf e2 0; have s1 := cellOf e2 1; have s2 := cellOf e2 2; have s3 := cellOf e2 3; have s4 := cellOf e2 4; have s5 := cellOf e2 5; simp at m0 m1 s0 s1 s2 s3 s4 s5; clear e1 e2) | (go_at_call 21; (with_reducible refine (h21 hsm _ B).mono ?_); rintro r u5 ⟨rfl, bb⟩; have B := B.tr le_rfl' bb; clear m0 m1 s0 s1 s2 s3 s4 s5; obtain ⟨e1, e2⟩ := HK.out _ B; have m0 := cellOf e1 0; have m1 := cellOf e1 1; have s0 := cellOf e2 0; have s1 := cellOf e2 1; have s2 := cellOf e2 2; have s3 := cellOf e2 3; have s4 := cellOf e2 4; have s5 := cellOf e2 5; simp at m0 m1 s0 s1 s2 s3 s4 s5; clear e1 e2) | (go_at_call 13; (with_reducible refine (h13 _ _).mono ?_); rintro r w' ⟨rfl, hw'⟩; have hw2 := hw'.symm; subst hw2))
    · go_ret
      exact ⟨rfl, HB.out.tr le_rfl' B⟩
    go_upto_region 7 with fail
    have hzB := B.size
    have hst := HZ.out
    have q0 : ((u5.alloc (.cells #[.int .i64 op, .string mon, .string name, .int .i64 n, .slice ad kids.length cap, .int .i64 pos] 28)).alloc (.cells #[.int .i64 5, .string ⟨#[]⟩, .string ⟨#[]⟩, .int .i64 0, .slice (some ⟨u5.heap.size, 0, none⟩) 1 1, .int .i64 0] 28)).heap[u5.heap.size]? = some (.cells #[.int .i64 op, .string mon, .string name, .int .i64 n, .slice ad kids.length cap, .int .i64 pos] 28 (0, 0)) := by
      rw [Below.heap_alloc _ _ _ (by simp only [World.size_alloc]; omega)]
      exact heapAt9 _ rfl
    have q1 : ((u5.alloc (.cells #[.int .i64 op, .string mon, .string name, .int .i64 n, .slice ad kids.length cap, .int .i64 pos] 28)).alloc (.cells #[.int .i64 5, .string ⟨#[]⟩, .string ⟨#[]⟩, .int .i64 0, .slice (some ⟨u5.heap.size, 0, none⟩) 1 1, .int .i64 0] 28)).heap[u5.heap.size + 1]? = some (.cells #[.int .i64 5, .string ⟨#[]⟩, .string ⟨#[]⟩, .int .i64 0, .slice (some ⟨u5.heap.size, 0, none⟩) 1 1, .int .i64 0] 28 (0, 0)) := heapAt9 _ (by simp)
    have hzz : ((u5.alloc (.cells #[.int .i64 op, .string mon, .string name, .int .i64 n, .slice ad kids.length cap, .int .i64 pos] 28)).alloc (.cells #[.int .i64 5, .string ⟨#[]⟩, .string ⟨#[]⟩, .int .i64 0, .slice (some ⟨u5.heap.size, 0, none⟩) 1 1, .int .i64 0] 28)).heap.size = u5.heap.size + 2 := by simp
    have B := (B.al le_rfl' (.cells #[.int .i64 op, .string mon, .string name, .int .i64 n, .slice ad kids.length cap, .int .i64 pos] 28)).al le_rfl' (.cells #[.int .i64 5, .string ⟨#[]⟩, .string ⟨#[]⟩, .int .i64 0, .slice (some ⟨u5.heap.size, 0, none⟩) 1 1, .int .i64 0] 28)
    obtain ⟨W2, hW2⟩ : ∃ W2, (u5.alloc (.cells #[.int .i64 op, .string mon, .string name, .int .i64 n, .slice ad kids.length cap, .int .i64 pos] 28)).alloc (.cells #[.int .i64 5, .string ⟨#[]⟩, .string ⟨#[]⟩, .int .i64 0, .slice (some ⟨u5.heap.size, 0, none⟩) 1 1, .int .i64 0] 28) = W2 := ⟨_, rfl⟩
    rw [hW2] at q0 q1 hzz B ⊢
    clear hW2
    obtain ⟨Q, hQ⟩ : ∃ Q, u5.heap.size = Q := ⟨_, rfl⟩
    rw [hQ] at q0 q1 hzz hzB ⊢
    have HZZ := hid hzz
    clear hzz hQ
    clear m0 m1 s0 s1 s2 s3 s4 s5
    obtain ⟨e1, e2⟩ := HK.out _ B
    have m0 := cellOf e1 0
    have m1 := cellOf e1 1
    have s0 := cellOf e2 0
    have s1 := cellOf e2 1
    have s2 := cellOf e2 2
    have s3 := cellOf e2 3
    have s4 := cellOf e2 4
    have s5 := cellOf e2 5
    simp at m0 m1 s0 s1 s2 s3 s4 s5
    clear e1 e2
    have x0 := cellOf q1 0
    have x1 := cellOf q1 1
    have x2 := cellOf q1 2
    have x3 := cellOf q1 3
    have x4 := cellOf q1 4
    have x5 := cellOf q1 5
    simp at x0 x1 x2 x3 x4 x5
    have hQW : Q + 1 < W2.heap.size := by have := HZZ.out; omega
    have f0 := frozen_of q1 0
    have f1 := frozen_of q1 1
    have f2 := frozen_of q1 2
    have f3 := frozen_of q1 3
    have f4 := frozen_of q1 4
    have f5 := frozen_of q1 5
    go_upto_region 9 with fail
    have hQ0 : W0.heap.size ≤ Q + 1 := by omega
    have k0 := heap_setCell_same W2 (Q + 1) 0 _ 28 (.int .i64 10) q1
    have k1 := heap_setCell_same _ (Q + 1) 1 _ 28 (.string ⟨#[]⟩) k0
    have k2 := heap_setCell_same _ (Q + 1) 2 _ 28 (.string ⟨#[]⟩) k1
    have k3 := heap_setCell_same _ (Q + 1) 3 _ 28 (.int .i64 0) k2
    have k4 := heap_setCell_same _ (Q + 1) 4 _ 28 (.slice (some ⟨W2.heap.size, 0, none⟩) 2 2) k3
    have k5 := heap_setCell_same _ (Q + 1) 5 _ 28 (.int .i64 0) k4
    have B := (((((B.setCell (p := ⟨Q + 1, 0, none⟩) hQ0 (.int .i64 10)).setCell (p := ⟨Q + 1, 1, none⟩) hQ0 (.string ⟨#[]⟩)).setCell (p := ⟨Q + 1, 2, none⟩) hQ0 (.string ⟨#[]⟩)).setCell (p := ⟨Q + 1, 3, none⟩) hQ0 (.int .i64 0)).setCell (p := ⟨Q + 1, 4, none⟩) hQ0 (.slice (some ⟨W2.heap.size, 0, none⟩) 2 2)).setCell (p := ⟨Q + 1, 5, none⟩) hQ0 (.int .i64 0)
    have hzs : ((((((W2.setCell ⟨Q + 1, 0, none⟩ (.int .i64 10)).setCell ⟨Q + 1, 1, none⟩ (.string ⟨#[]⟩)).setCell ⟨Q + 1, 2, none⟩ (.string ⟨#[]⟩)).setCell ⟨Q + 1, 3, none⟩ (.int .i64 0)).setCell ⟨Q + 1, 4, none⟩ (.slice (some ⟨W2.heap.size, 0, none⟩) 2 2)).setCell ⟨Q + 1, 5, none⟩ (.int .i64 0)).heap.size = W2.heap.size := by simp
    obtain ⟨W3, hW3⟩ : ∃ W3, (((((W2.setCell ⟨Q + 1, 0, none⟩ (.int .i64 10)).setCell ⟨Q + 1, 1, none⟩ (.string ⟨#[]⟩)).setCell ⟨Q + 1, 2, none⟩ (.string ⟨#[]⟩)).setCell ⟨Q + 1, 3, none⟩ (.int .i64 0)).setCell ⟨Q + 1, 4, none⟩ (.slice (some ⟨W2.heap.size, 0, none⟩) 2 2)).setCell ⟨Q + 1, 5, none⟩ (.int .i64 0) = W3 := ⟨_, rfl⟩
    rw [hW3] at k5 B hzs ⊢
    clear hW3 k0 k1 k2 k3 k4 f0 f1 f2 f3 f4 f5 q0 q1 x0 x1 x2 x3 x4 x5
    have q0 : (W3.alloc (.cells #[.int .i64 op, .string mon, .string name, .int .i64 n, .slice ad kids.length cap, .int .i64 pos, .int .i64 1, .string ⟨#[]⟩, .string ⟨#[]⟩, .int .i64 0, .slice none 0 0, .int .i64 0] 28)).heap[W2.heap.size]? = some (.cells #[.int .i64 op, .string mon, .string name, .int .i64 n, .slice ad kids.length cap, .int .i64 pos, .int .i64 1, .string ⟨#[]⟩, .string ⟨#[]⟩, .int .i64 0, .slice none 0 0, .int .i64 0] 28 (0, 0)) := heapAt9 _ hzs
    have hzB3 := B.size
    have q1 : (W3.alloc (.cells #[.int .i64 op, .string mon, .string name, .int .i64 n, .slice ad kids.length cap, .int .i64 pos, .int .i64 1, .string ⟨#[]⟩, .string ⟨#[]⟩, .int .i64 0, .slice none 0 0, .int .i64 0] 28)).heap[Q + 1]? = some (.cells #[.int .i64 10, .string ⟨#[]⟩, .string ⟨#[]⟩, .int .i64 0, .slice (some ⟨W2.heap.size, 0, none⟩) 2 2, .int .i64 0] 28 (0, 0)) := by
      rw [Below.heap_alloc _ _ _ (by omega)]
      exact k5
    have hz4 : (W3.alloc (.cells #[.int .i64 op, .string mon, .string name, .int .i64 n, .slice ad kids.length cap, .int .i64 pos, .int .i64 1, .string ⟨#[]⟩, .string ⟨#[]⟩, .int .i64 0, .slice none 0 0, .int .i64 0] 28)).heap.size = W2.heap.size + 1 := by simp [hzs]
    have B := B.al le_rfl' (.cells #[.int .i64 op, .string mon, .string name, .int .i64 n, .slice ad kids.length cap, .int .i64 pos, .int .i64 1, .string ⟨#[]⟩, .string ⟨#[]⟩, .int .i64 0, .slice none 0 0, .int .i64 0] 28)
    obtain ⟨W4, hW4⟩ : ∃ W4, W3.alloc (.cells #[.int .i64 op, .string mon, .string name, .int .i64 n, .slice ad kids.length cap, .int .i64 pos, .int .i64 1, .string ⟨#[]⟩, .string ⟨#[]⟩, .int .i64 0, .slice none 0 0, .int .i64 0] 28) = W4 := ⟨_, rfl⟩
    rw [hW4] at q0 q1 B hz4 ⊢
    clear hW4 k5 hzs
    clear m0 m1 s0 s1 s2 s3 s4 s5
    obtain ⟨e1, e2⟩ := HK.out _ B
    have m0 := cellOf e1 0
    have m1 := cellOf e1 1
    have s0 := cellOf e2 0
    have s1 := cellOf e2 1
    have s2 := cellOf e2 2
    have s3 := cellOf e2 3
    have s4 := cellOf e2 4
    have s5 := cellOf e2 5
    simp at m0 m1 s0 s1 s2 s3 s4 s5
    clear e1 e2
    have x0 := cellOf q1 0
    have x1 := cellOf q1 1
    have x2 := cellOf q1 2
    have x3 := cellOf q1 3
    have x4 := cellOf q1 4
    have x5 := cellOf q1 5
    simp at x0 x1 x2 x3 x4 x5
    have hQW4 : Q + 1 < W4.heap.size := by omega
    have HZ4 := hid hz4
    clear hz4
    go_wp2_with (first | (go_at_call 10; (with_reducible refine (h10 _ B).mono ?_); rintro r u3 ⟨rfl, bb⟩; have B := B.tr le_rfl' bb) | (go_at_call 13; (with_reducible refine (h13 _ _).mono ?_); rintro r w' ⟨rfl, hw'⟩; have hw2 := hw'.symm; subst hw2) | (go_at_call 11; (with_reducible refine (h11n hsm _ _ (HB.out.tr le_rfl' B) q0).mono ?_); rintro r u6 ⟨rfl, bb, hTR⟩; have B := B.tr le_rfl' bb; clear m0 m1 s0 s1 s2 s3 s4 s5; obtain ⟨e1, e2⟩ := HK.out _ B; have m0 := cellOf e1 0; have m1 := cellOf e1 1; have s0 := cellOf e2 0; have s1 := cellOf e2 1; have s2 := cellOf e2 2; have s3 := cellOf e2 3; have s4 := cellOf e2 4; have s5 := cellOf e2 5; simp at m0 m1 s0 s1 s2 s3 s4 s5; clear e1 e2; have q1 := (bb.block _ hQW4).trans q1; have x0 := cellOf q1 0; have x1 := cellOf q1 1; have x2 := cellOf q1 2; have x3 := cellOf q1 3; have x4 := cellOf q1 4; have x5 := cellOf q1 5; simp at x0 x1 x2 x3 x4 x5) | (go_at_call 14; (with_reducible refine hTR.mono ?_); rintro r u7 ⟨rfl, bb⟩; have B := B.tr le_rfl' bb))
    go_ret
    exact ⟨rfl, HB.out.tr le_rfl' B⟩
end Go.Proofs.YtopiceoofdlkbaaDoor
