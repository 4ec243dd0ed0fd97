/-
  The statement ValueSets: its walk.
-/
import Derived.Test.YtopiceoofdlkbaaDoorWF
import Derived.Test.YtopiceoofdlkbaaDoorWS
namespace Go.Proofs.YtopiceoofdlkbaaDoor
open Go.RowKit
theorem vsum_small (l : List Mo) (h1 : l.length ≤ 20) (h2 : ∀ m ∈ l, m.vars.length ≤ 40) : vsum l ≤ 1000000 := by
  have h : vsum l ≤ 40 * l.length := by
    clear h1
    induction l with
    | nil => exact Nat.le_refl _
    | cons m r ih =>
      have h3 := ih (fun x hx => h2 x (List.mem_cons_of_mem _ hx))
      have h4 := h2 m (List.mem_cons_self ..)
      rw [vsum, List.map_cons, List.sum_cons, List.length_cons]
      unfold vsum at h3
      omega
  omega
/-- Small, as a choice. -/
theorem small_or (n₀ : Nat) (p : Pr) (w : World) (hn : n₀ ≤ w.heap.size) (hp : p.Is n₀ w) :
    Calls Tryd.prog 8 #[p.val, .int .i64 300] w fun r w' => (r = .returned (.bool false) ∧ Below w.heap.size w w') ∨ (r = .returned (.bool true) ∧ vsum p.mons ≤ 1000000 ∧ Below w.heap.size w w') :=
  (small_any n₀ p w hn hp).mono fun r w' ⟨c, h1, h2, h3⟩ => by
    cases c
    · exact .inl ⟨h1, h3⟩
    · exact .inr ⟨h1, vsum_small _ (h2 rfl).2.1 (h2 rfl).2.2, h3⟩
theorem tero_none {l : List Mo} {e : Ex} : e.tero l = none ↔ e.ok = true ∧ e.ter l = none := by
  rw [Ex.tero]
  split
  · rename_i h; simp [h]
  · rename_i h; simp [h]
theorem evF_cases (p : Pr) (e : Ex) (vs : List Int) :
    (∃ c a, e.tero p.mons = some (c, a) ∧ evF p e vs = (0, c) ∧ (c = 20 ∨ c = 61 ∨ c = 70)) ∨ (e.tero p.mons = none ∧ vs.length ≠ vsum p.mons ∧ evF p e vs = (0, 2)) ∨ (e.tero p.mons = none ∧ vs.length = vsum p.mons ∧ ∃ x, e.rk p.mons vs = some x ∧ evF p e vs = (x, 0)) ∨ (e.tero p.mons = none ∧ vs.length = vsum p.mons ∧ e.rk p.mons vs = none ∧ evF p e vs = (0, 110)) := by
  unfold evF
  rcases ht : e.tero p.mons with _ | ⟨c, a⟩
  · right
    by_cases hl : vs.length = vsum p.mons
    · right
      rcases hr : e.rk p.mons vs with _ | x
      · right; exact ⟨rfl, hl, rfl, by simp [hl]⟩
      · left; exact ⟨rfl, hl, x, rfl, by simp [hl]⟩
    · left; exact ⟨rfl, hl, by simp [hl]⟩
  · left
    refine ⟨c, a, rfl, rfl, ?_⟩
    rw [Ex.tero] at ht
    split at ht
    · rcases Ex.ter_pos p.mons e c a ht with h | h
      · exact .inr (.inl h)
      · exact .inr (.inr h)
    · cases ht; exact .inl rfl
theorem varTy_two {l : List Mo} {mon name : ByteArray} {t : Int} (h : varTy l mon name = some t) : t = 1 ∨ t = 2 := by
  rcases hs : slotIx l mon name with _ | s
  · rw [varTy_none hs] at h; cases h
  · obtain ⟨t', h1, h2⟩ := varTy_some hs
    rw [h] at h1; cases h1; exact h2
theorem is_two {l : List Mo} {e : Ex} (h : e.tero l = none) : e.is l = 1 ∨ e.is l = 2 := by
  rcases e with ⟨op, mon, name, n, ad, cap, kids, pos⟩
  rw [tero_none] at h
  have h2 := h.2
  rw [Ex.ter_mk] at h2
  rw [Ex.is]
  split
  · rename_i h4
    rw [if_pos h4] at h2
    cases hv : varTy l mon name with
    | none => rw [hv] at h2; cases h2
    | some t => exact varTy_two hv
  · unfold opIs
    split
    · exact .inr rfl
    · exact .inl rfl
/-- Two expressions joined; their row lies in block q. -/
def pairE (op : Int) (q : Nat) (a b : Ex) : Ex := .mk op ⟨#[]⟩ ⟨#[]⟩ 0 (some ⟨q, 0, none⟩) 2 [a, b] 0
theorem pair_ok1 (op : Int) (q : Nat) (a b : Ex) (h1 : 8 ≤ op) (h2 : op ≤ 17) : (pairE op q a b).ok1 = true := by
  have hc : op = 8 ∨ op = 9 ∨ op = 10 ∨ op = 11 ∨ op = 12 ∨ op = 13 ∨ op = 14 ∨ op = 15 ∨ op = 16 ∨ op = 17 := by omega
  rcases hc with rfl | rfl | rfl | rfl | rfl | rfl | rfl | rfl | rfl | rfl <;> rfl
theorem pair_ok (op : Int) (q : Nat) (a b : Ex) (h1 : 8 ≤ op) (h2 : op ≤ 17) : (pairE op q a b).ok = (a.ok && b.ok) := by
  have h1 := pair_ok1 op q a b h1 h2
  unfold pairE at h1 ⊢
  rw [Ex.ok, Ex.subs_mk, List.all_cons, h1, Bool.true_and, Ex.subsL_eq, List.all_flatMap]
  simp [Ex.ok]
theorem pair_tero (l : List Mo) (op : Int) (q : Nat) (a b : Ex) (h1 : 8 ≤ op) (h2 : op ≤ 17) (ha : a.tero l = none) (hb : b.tero l = none) (hw : a.is l = wantOf l op [a, b] ∧ b.is l = wantOf l op [a, b]) : (pairE op q a b).tero l = none := by
  rw [tero_none] at ha hb ⊢
  refine ⟨by rw [pair_ok op q a b h1 h2, ha.1, hb.1]; rfl, ?_⟩
  unfold pairE
  rw [Ex.ter_mk, if_neg (by omega), Ex.terL, Ex.terL, Ex.terL, Option.or_none, ha.2, hb.2]
  simp only [Option.none_or]
  rw [misfit_none]
  intro k hk
  simp only [List.mem_cons, List.not_mem_nil, or_false] at hk
  rcases hk with rfl | rfl
  · exact hw.1
  · exact hw.2
theorem pair_rk (l : List Mo) (vs : List Int) (op : Int) (q : Nat) (a b : Ex) (h1 : 8 ≤ op) (h2 : op ≤ 17) : (pairE op q a b).rk l vs = (a.rk l vs).bind fun x => perF op x (b.rk l vs) := by
  unfold pairE
  rw [Ex.rk_mk, rkOp, if_neg (by omega), if_neg (by omega), if_neg (by omega), if_neg (by omega), kidO_rk l vs [a, b] 0 (by simp), kidO_rk l vs [a, b] 1 (by simp)]
  congr 1
  funext x
  rw [unF, if_neg (by omega), if_neg (by omega), if_neg (by omega)]
  rfl
/-- The opposite of an expression; its row lies in block q. -/
def notE (q : Nat) (a : Ex) : Ex := .mk 5 ⟨#[]⟩ ⟨#[]⟩ 0 (some ⟨q, 0, none⟩) 1 [a] 0
theorem not_ok (q : Nat) (a : Ex) : (notE q a).ok = a.ok := by
  have h1 : (notE q a).ok1 = true := rfl
  unfold notE at h1 ⊢
  rw [Ex.ok, Ex.subs_mk, List.all_cons, h1, Bool.true_and, Ex.subsL_eq, List.all_flatMap]
  simp [Ex.ok]
theorem not_tero (l : List Mo) (q : Nat) (a : Ex) (ha : a.tero l = none) (hw : a.is l = 1) : (notE q a).tero l = none := by
  rw [tero_none] at ha ⊢
  refine ⟨by rw [not_ok, ha.1], ?_⟩
  unfold notE
  rw [Ex.ter_mk, if_neg (by omega), Ex.terL, Ex.terL, Option.or_none, ha.2]
  simp only [Option.none_or]
  rw [misfit_none]
  intro k hk
  simp only [List.mem_cons, List.not_mem_nil, or_false] at hk
  subst hk
  exact hw
theorem not_rk (l : List Mo) (vs : List Int) (q : Nat) (a : Ex) : (notE q a).rk l vs = (a.rk l vs).bind fun x => some (bitF (x == 0)) := by
  unfold notE
  rw [Ex.rk_mk, rkOp, if_neg (by omega), if_neg (by omega), if_neg (by omega), if_neg (by omega), kidO_rk l vs [a] 0 (by simp)]
  rfl
theorem not_is {W : World} {n b : Nat} {a : Ex} (h : W.heap[b]? = some (.cells a.cells.toArray 28 (0, 0))) (hb : b < n) (h1 : a.Is n W) : (notE b a).Is n W := Ex.Is.up ⟨⟨⟨by decide, by decide⟩, i64_zero, i64_zero, len0, len0⟩, ⟨by simp, by unfold maxLen; simp, .inr ⟨b, 0, rfl, hb, fun j hj i hi => by
    rw [Nat.zero_add, cellOf h]
    have hj2 : j < 1 := by simpa using hj
    rcases a with ⟨a1, a2, a3, a4, a5, a6, a7, a8⟩
    rcases j with _ | j
    · rcases i with _ | _ | _ | _ | _ | _ | i <;> first | rfl | omega
    · omega⟩⟩, fun x hx => by
      simp only [List.mem_cons, List.not_mem_nil, or_false] at hx
      subst hx
      exact h1⟩
theorem pairE_is {W : World} {n b : Nat} {op : Int} {k1 k2 : Ex} (ho : I64 op) (h : W.heap[b]? = some (.cells (k1.cells ++ k2.cells).toArray 28 (0, 0))) (hb : b < n) (h1 : k1.Is n W) (h2 : k2.Is n W) : (pairE op b k1 k2).Is n W := two_is ho h hb h1 h2
def zeroE : Ex := .mk 1 ⟨#[]⟩ ⟨#[]⟩ 0 none 0 [] 0
theorem zeroE_is (n : Nat) (W : World) : zeroE.Is n W := Ex.Is.up ⟨⟨⟨by decide, by decide⟩, i64_zero, i64_zero, len0, len0⟩, ⟨by simp, by unfold maxLen; simp, .inl rfl⟩, fun x hx => by cases hx⟩
theorem zeroE_tero (l : List Mo) : zeroE.tero l = none := by kernel_rfl
theorem zeroE_of (l : List Mo) : zeroE.is l = 2 := by kernel_rfl
/-- What is around a fault is one. -/
theorem not_fault {p : Pr} {vs : List Int} {q : Nat} {e : Ex} (h1 : e.tero p.mons = none) (h2 : vs.length = vsum p.mons) (h3 : e.rk p.mons vs = none) (h4 : e.is p.mons = 1) : evF p (notE q e) vs = (0, 110) ∧ trF p (notE q e) vs = false := by
  have h : evF p (notE q e) vs = (0, 110) := by
    rw [evF, not_tero p.mons q e h1 h4]
    simp only [if_pos h2]
    rw [not_rk, h3]; rfl
  exact ⟨h, by rw [trF, h]; rfl⟩
theorem eq_fault {p : Pr} {vs : List Int} {q : Nat} {e : Ex} (h1 : e.tero p.mons = none) (h2 : vs.length = vsum p.mons) (h3 : e.rk p.mons vs = none) (h4 : e.is p.mons = 2) : evF p (pairE 10 q e zeroE) vs = (0, 110) ∧ trF p (pairE 10 q e zeroE) vs = false := by
  have h : evF p (pairE 10 q e zeroE) vs = (0, 110) := by
    rw [evF, pair_tero p.mons 10 q e zeroE (by omega) (by omega) h1 (zeroE_tero _) ⟨by simp [wantOf, opWant], by rw [zeroE_of]; simp [wantOf, opWant, h4]⟩]
    simp only [if_pos h2]
    rw [pair_rk _ _ _ _ _ _ (by omega) (by omega), h3]; rfl
  exact ⟨h, by rw [trF, h]; rfl⟩
end Go.Proofs.YtopiceoofdlkbaaDoor
namespace Go.Proofs.YtopiceoofdlkbaaDoor
open Go.RowKit
theorem SlAt.on {α : Type} {size : Nat} {cells : α → List Value} {W W' : World} {ad : Option Addr} {cap : Nat} {l : List α} (h : SlAt size cells W.heap.size W ad cap l) (hb : Below W.heap.size W W') : SlAt size cells W'.heap.size W' ad cap l := (h.below hb).mono hb.size
/-- What Set hands back, both ways at once. -/
def setR (er : Option Int) (l : List Int) : List Int := match er with
  | some _ => []
  | none => l
theorem SetBack.uni {f : FuncId} {args : Array Value} {er : Option Int} {l : List Int} {w : World} (h : Calls Tryd.prog f args w fun r w' => SetBack er l w w' r) : Calls Tryd.prog f args w fun r w' => ∃ ad cp, r = .returned (.tuple #[.slice ad (setR er l).length cp, .int .i64 (er.getD 0)]) ∧ SlAt 1 iv w'.heap.size w' ad cp (setR er l) ∧ Below w.heap.size w w' :=
  h.mono fun r w' hh => by
    obtain ⟨⟨c, rfl, _, rfl⟩ | ⟨rfl, ad, cp, rfl, h3⟩, h4⟩ := hh
    · exact ⟨none, 0, rfl, ⟨Nat.le_refl _, by unfold maxLen; omega, .inl rfl⟩, h4⟩
    · exact ⟨ad, cp, rfl, h3, h4⟩
theorem OwnBack.uni {f : FuncId} {args : Array Value} {l : List Int} {w : World} (h : Calls Tryd.prog f args w fun r w' => OwnBack l w w' r) : Calls Tryd.prog f args w fun r w' => ∃ ad cp, r = .returned (.slice ad l.length cp) ∧ SlAt 1 iv w'.heap.size w' ad cp l ∧ Below w.heap.size w w' :=
  h.mono fun r w' hh => by
    obtain ⟨v, rfl, h1, h2⟩ := hh
    obtain ⟨ad, cp, rfl, h3⟩ := slOwn iv_len h1
    exact ⟨ad, cp, rfl, h3, h2⟩
theorem values_self (l : List Int) (W : World) (ad : Option Addr) (cp : Nat) (ad' : Option Addr) (cp' : Nat) (h1 : SlAt 1 iv W.heap.size W ad cp l) (h2 : SlAt 1 iv W.heap.size W ad' cp' l) : Calls Tryd.prog 18 #[.slice ad l.length cp, .slice ad' l.length cp'] W fun r w' => r = .returned (.bool true) ∧ Below W.heap.size W w' :=
  (values_any l l ad cp ad' cp' W.heap.size W (Nat.le_refl _) h1 h2).mono fun r w' hh => ⟨by rw [hh.1, decide_eq_true rfl], hh.2⟩
set_option maxRecDepth 100000 in
set_option maxHeartbeats 16000000 in
theorem valueSets_walk (p : Pr) (mon name : ByteArray) (n : Int) (vs : List Int) (vad : Option Addr) (vcap : Nat) (w : World) (hS : Shapes w) (hp : p.Is w.heap.size w) (hlm : Len mon) (hln : Len name) (_hn : I64 n) (hV : SlAt 1 iv w.heap.size w vad vcap vs) (_hvi : ∀ x ∈ vs, I64 x) :
    Calls Tryd.prog 4 #[p.val, .string mon, .string name, .int .i64 n, .slice vad vs.length vcap] w fun r w' => r = .returned (.bool true) ∧ Below w.heap.size w w' := by
  have hs3 := hS.size
  have hv1 := hV.1; have hv2 := hV.2.1
  unfold maxLen at hv2
  have h8 : ∀ W, Below w.heap.size w W → Calls Tryd.prog 8 #[p.val, .int .i64 300] W fun r w' => (r = .returned (.bool false) ∧ Below W.heap.size W w') ∨ (r = .returned (.bool true) ∧ vsum p.mons ≤ 1000000 ∧ Below W.heap.size W w') := fun W hW => small_or w.heap.size p W hW.size (hp.below hW)
  have h10 : ∀ W, Below w.heap.size w W → Calls Tryd.prog 10 #[] W fun r w' => r = .returned (.bool true) ∧ Below W.heap.size W w' := fun W hW => live_any W (hS.below hW hs3)
  have h13 := num_any
  have h16 : vsum p.mons ≤ 1000000 → ∀ W, Below w.heap.size w W → Calls Tryd.prog 16 #[p.val, .string mon, .string name, .int .i64 n, .slice vad vs.length vcap] W _ := fun hv W hW => SetBack.uni (set_any p hv mon name n vs vad vcap w.heap.size W hW.size (hp.below hW) (hV.below hW))
  have h17 : vsum p.mons ≤ 1000000 → ∀ W, Below w.heap.size w W → Calls Tryd.prog 17 #[p.val, .string mon, .string name, .int .i64 n, .slice vad vs.length vcap] W _ := fun hv W hW => SetBack.uni (refSet_any p hv mon name n vs vad vcap w.heap.size W hW.size (hp.below hW) (hV.below hW))
  have h19 : vsum p.mons ≤ 1000000 → ∀ W, Below w.heap.size w W → Calls Tryd.prog 19 #[p.val] W _ := fun hv W hW => OwnBack.uni (first_any p w.heap.size W hW.size (hp.below hW) hv)
  have h20 : vsum p.mons ≤ 1000000 → ∀ W, Below w.heap.size w W → Calls Tryd.prog 20 #[p.val] W _ := fun hv W hW => OwnBack.uni (refFirst_any p w.heap.size W hW.size (hp.below hW) hv)
  have h18 := values_self (setR (setE p mon name n vs) (setL p mon name n vs))
  have h18b := values_self (initsF p.mons)
  obtain ⟨L, hL⟩ : ∃ L, setR (setE p mon name n vs) (setL p mon name n vs) = L := ⟨_, rfl⟩
  obtain ⟨ec, hec⟩ : ∃ ec, (setE p mon name n vs).getD 0 = ec := ⟨_, rfl⟩
  obtain ⟨I, hI⟩ : ∃ I, initsF p.mons = I := ⟨_, rfl⟩
  simp only [hL, hec] at h16 h17 h18
  simp only [hI] at h19 h20 h18b
  clear hL hec hI hS hp hV _hvi
  unfold Len at hlm hln
  obtain ⟨pad, hpad⟩ : ∃ a, p.mad = a := ⟨_, rfl⟩
  obtain ⟨pml, hpml⟩ : ∃ a, p.mons.length = a := ⟨_, rfl⟩
  obtain ⟨pmc, hpmc⟩ : ∃ a, p.mcap = a := ⟨_, rfl⟩
  obtain ⟨prd, hprd⟩ : ∃ a, p.rad = a := ⟨_, rfl⟩
  obtain ⟨prl, hprl⟩ : ∃ a, p.roles.length = a := ⟨_, rfl⟩
  obtain ⟨prc, hprc⟩ : ∃ a, p.rcap = a := ⟨_, rfl⟩
  simp only [Pr.val, hpad, hpml, hpmc, hprd, hprl, hprc] at h8 h16 h17 h19 h20 ⊢
  clear hpad hpml hpmc hprd hprl hprc
  go_enter Tryd.func4, Tryd.ntmps4
  go_upto_region 1 with fail
  obtain ⟨bP, B, hz⟩ := one_box w #[.slice pad pml pmc, .slice prd prl prc] 25
  obtain ⟨W0, hW0⟩ : ∃ W0, w.alloc (.cells #[.slice pad pml pmc, .slice prd prl prc] 25) = W0 := ⟨_, rfl⟩
  rw [hW0] at bP B hz ⊢
  clear hW0
  have s0 := cellOf bP 0
  have s1 := cellOf bP 1
  simp at s0 s1
  have HZ := hid hz
  have HK : Hid (∀ W, Below W0.heap.size W0 W → W.cell? ⟨w.heap.size, 0, none⟩ = some (.slice pad pml pmc) ∧ W.cell? ⟨w.heap.size, 1, none⟩ = some (.slice prd prl prc)) := fun W hW => ⟨(hW.cell (p := ⟨w.heap.size, 0, none⟩) (by show w.heap.size < _; have := HZ.out; omega)).trans s0, (hW.cell (p := ⟨w.heap.size, 1, none⟩) (by show w.heap.size < _; have := HZ.out; omega)).trans s1⟩
  clear s0 s1
  have HB := hid B
  clear B
  have h8 : ∀ W, Below W0.heap.size W0 W → _ := fun W hW => h8 W (HB.out.tr le_rfl' hW)
  have h10 : ∀ W, Below W0.heap.size W0 W → _ := fun W hW => h10 W (HB.out.tr le_rfl' hW)
  have h16 : _ → ∀ W, Below W0.heap.size W0 W → _ := fun hv W hW => h16 hv W (HB.out.tr le_rfl' hW)
  have h17 : _ → ∀ W, Below W0.heap.size W0 W → _ := fun hv W hW => h17 hv W (HB.out.tr le_rfl' hW)
  have h19 : _ → ∀ W, Below W0.heap.size W0 W → _ := fun hv W hW => h19 hv W (HB.out.tr le_rfl' hW)
  have h20 : _ → ∀ W, Below W0.heap.size W0 W → _ := fun hv W hW => h20 hv W (HB.out.tr le_rfl' hW)
  have B := Below.refl W0.heap.size W0
  obtain ⟨m0, m1⟩ := HK.out _ B
  clear hz bP
  have hsum : mon.size + name.size ≤ 281474976702464 := by omega
  by_cases g1 : 300 < mon.size + name.size
  · have g1' : (300 : Int) < (mon.size : Int) + (name.size : Int) := by omega
    clear h16 h17 h18 h18b h19 h20
    go_wp2_with (first | (go_at_call 8; (with_reducible refine (h8 _ B).mono ?_); rintro r w1 (⟨rfl, bb⟩ | ⟨rfl, hsm, bb⟩) <;> (have B := B.tr le_rfl' bb; clear m0 m1; obtain ⟨m0, m1⟩ := HK.out _ B)) | (go_at_call 10; (with_reducible refine (h10 _ B).mono ?_); rintro r u3 ⟨rfl, bb⟩; have B := B.tr le_rfl' bb))
    all_goals go_ret
    all_goals exact ⟨rfl, HB.out.tr le_rfl' B⟩
  have g1' : decide ((300 : Int) < (mon.size : Int) + (name.size : Int)) = false := by simp; omega
  have g1'' : ¬ 300 < mon.size + name.size := g1
  by_cases hl : 400 < vs.length
  · have hld : decide ((400 : Int) < (vs.length : Int)) = true := by simp; omega
    clear h16 h17 h18 h18b h19 h20
    go_wp2_with (first | (go_at_call 8; (with_reducible refine (h8 _ B).mono ?_); rintro r w1 (⟨rfl, bb⟩ | ⟨rfl, hsm, bb⟩) <;> (have B := B.tr le_rfl' bb; clear m0 m1; obtain ⟨m0, m1⟩ := HK.out _ B)) | (go_at_call 10; (with_reducible refine (h10 _ B).mono ?_); rintro r u3 ⟨rfl, bb⟩; have B := B.tr le_rfl' bb))
    all_goals go_ret
    all_goals exact ⟨rfl, HB.out.tr le_rfl' B⟩
  have hld : decide ((400 : Int) < (vs.length : Int)) = false := by simp; omega
  have hl' : ¬ 400 < vs.length := hl
  go_upto_region 5 with (first | (go_at_call 8; (with_reducible refine (h8 _ B).mono ?_); rintro r w1 (⟨rfl, bb⟩ | ⟨rfl, hsm, bb⟩) <;> (have B := B.tr le_rfl' bb; clear m0 m1; obtain ⟨m0, m1⟩ := HK.out _ B)) | (go_at_call 10; (with_reducible refine (h10 _ B).mono ?_); rintro r u3 ⟨rfl, bb⟩; have B := B.tr le_rfl' bb; clear m0 m1; obtain ⟨m0, m1⟩ := HK.out _ B) | (go_at_call 16; (with_reducible refine (h16 hsm _ B).mono ?_); rintro r u4 ⟨ad1, cp1, rfl, hs1, bb⟩; have B := B.tr le_rfl' bb; clear m0 m1; obtain ⟨m0, m1⟩ := HK.out _ B) | (go_at_call 17; (with_reducible refine (h17 hsm _ B).mono ?_); rintro r u5 ⟨ad2, cp2, rfl, hs2, bb⟩; have B := B.tr le_rfl' bb; have hs1 := hs1.on bb; clear m0 m1; obtain ⟨m0, m1⟩ := HK.out _ B))
  · go_ret
    exact ⟨rfl, HB.out.tr le_rfl' B⟩
  have dr : Below u5.heap.size u5 u5.drew := below_drewV (Below.refl _ _)
  have B := B.tr le_rfl' dr
  have hs1 := hs1.on dr
  have hs2 := hs2.on dr
  clear dr
  go_region_held3 (fun W => W.cell? ⟨w.heap.size, 0, none⟩ = some (.slice pad pml pmc) ∧ W.cell? ⟨w.heap.size, 1, none⟩ = some (.slice prd prl prc)) (exact HK.out _ B) (first | (go_at_call 18; (with_reducible refine (h18 _ _ _ _ _ hs1 hs2).mono ?_); rintro r u6 ⟨rfl, bb⟩; have B := B.tr le_rfl' bb) | (go_at_call 18; (with_reducible refine (h18b _ _ _ _ _ hs3 hs4).mono ?_); rintro r u9 ⟨rfl, bb⟩; have B := B.tr le_rfl' bb) | (go_at_call 13; (with_reducible refine (h13 _ _).mono ?_); rintro r w' ⟨rfl, hw'⟩; have hw2 := hw'.symm; subst hw2) | (go_at_call 19; (with_reducible refine (h19 hsm _ B).mono ?_); rintro r u7 ⟨ad3, cp3, rfl, hs3, bb⟩; have B := B.tr le_rfl' bb; try (have hs4 := hs4.on bb)) | (go_at_call 20; (with_reducible refine (h20 hsm _ B).mono ?_); rintro r u8 ⟨ad4, cp4, rfl, hs4, bb⟩; have B := B.tr le_rfl' bb; try (have hs3 := hs3.on bb)) | (go_at_call 10; (with_reducible refine (h10 _ B).mono ?_); rintro r u3 ⟨rfl, bb⟩; have B := B.tr le_rfl' bb))
  all_goals go_wp2
  all_goals go_ret
  all_goals exact ⟨rfl, HB.out.tr le_rfl' B⟩
end Go.Proofs.YtopiceoofdlkbaaDoor
