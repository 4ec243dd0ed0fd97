/-
  The statement ValueLogic: its walk.
-/
import Derived.Test.YtopiceoofdlkbaaDoorWF
import Derived.Test.YtopiceoofdlkbaaDoorWS
namespace Go.Proofs.YtopiceoofdlkbaaDoor
open Go.RowKit
theorem vsum_small (l : List Mo) (h1 : l.length ≤ 20) (h2 : ∀ m ∈ l, m.vars.length ≤ 40) : vsum l ≤ 1000000 := by
  have h : vsum l ≤ 40 * l.length := by
    clear h1
    induction l with
    | nil => exact Nat.le_refl _
    | cons m r ih =>
      have h3 := ih (fun x hx => h2 x (List.mem_cons_of_mem _ hx))
      have h4 := h2 m (List.mem_cons_self ..)
      rw [vsum, List.map_cons, List.sum_cons, List.length_cons]
      unfold vsum at h3
      omega
  omega
/-- Small, as a choice. -/
theorem small_or (n₀ : Nat) (p : Pr) (w : World) (hn : n₀ ≤ w.heap.size) (hp : p.Is n₀ w) :
    Calls Tryd.prog 8 #[p.val, .int .i64 300] w fun r w' => (r = .returned (.bool false) ∧ Below w.heap.size w w') ∨ (r = .returned (.bool true) ∧ vsum p.mons ≤ 1000000 ∧ Below w.heap.size w w') :=
  (small_any n₀ p w hn hp).mono fun r w' ⟨c, h1, h2, h3⟩ => by
    cases c
    · exact .inl ⟨h1, h3⟩
    · exact .inr ⟨h1, vsum_small _ (h2 rfl).2.1 (h2 rfl).2.2, h3⟩
theorem tero_none {l : List Mo} {e : Ex} : e.tero l = none ↔ e.ok = true ∧ e.ter l = none := by
  rw [Ex.tero]
  split
  · rename_i h; simp [h]
  · rename_i h; simp [h]
theorem evF_cases (p : Pr) (e : Ex) (vs : List Int) :
    (∃ c a, e.tero p.mons = some (c, a) ∧ evF p e vs = (0, c) ∧ (c = 20 ∨ c = 61 ∨ c = 70)) ∨ (e.tero p.mons = none ∧ vs.length ≠ vsum p.mons ∧ evF p e vs = (0, 2)) ∨ (e.tero p.mons = none ∧ vs.length = vsum p.mons ∧ ∃ x, e.rk p.mons vs = some x ∧ evF p e vs = (x, 0)) ∨ (e.tero p.mons = none ∧ vs.length = vsum p.mons ∧ e.rk p.mons vs = none ∧ evF p e vs = (0, 110)) := by
  unfold evF
  rcases ht : e.tero p.mons with _ | ⟨c, a⟩
  · right
    by_cases hl : vs.length = vsum p.mons
    · right
      rcases hr : e.rk p.mons vs with _ | x
      · right; exact ⟨rfl, hl, rfl, by simp [hl]⟩
      · left; exact ⟨rfl, hl, x, rfl, by simp [hl]⟩
    · left; exact ⟨rfl, hl, by simp [hl]⟩
  · left
    refine ⟨c, a, rfl, rfl, ?_⟩
    rw [Ex.tero] at ht
    split at ht
    · rcases Ex.ter_pos p.mons e c a ht with h | h
      · exact .inr (.inl h)
      · exact .inr (.inr h)
    · cases ht; exact .inl rfl
theorem varTy_two {l : List Mo} {mon name : ByteArray} {t : Int} (h : varTy l mon name = some t) : t = 1 ∨ t = 2 := by
  rcases hs : slotIx l mon name with _ | s
  · rw [varTy_none hs] at h; cases h
  · obtain ⟨t', h1, h2⟩ := varTy_some hs
    rw [h] at h1; cases h1; exact h2
theorem is_two {l : List Mo} {e : Ex} (h : e.tero l = none) : e.is l = 1 ∨ e.is l = 2 := by
  rcases e with ⟨op, mon, name, n, ad, cap, kids, pos⟩
  rw [tero_none] at h
  have h2 := h.2
  rw [Ex.ter_mk] at h2
  rw [Ex.is]
  split
  · rename_i h4
    rw [if_pos h4] at h2
    cases hv : varTy l mon name with
    | none => rw [hv] at h2; cases h2
    | some t => exact varTy_two hv
  · unfold opIs
    split
    · exact .inr rfl
    · exact .inl rfl
/-- Two expressions joined; their row lies in block q. -/
def pairE (op : Int) (q : Nat) (a b : Ex) : Ex := .mk op ⟨#[]⟩ ⟨#[]⟩ 0 (some ⟨q, 0, none⟩) 2 [a, b] 0
theorem pair_ok1 (op : Int) (q : Nat) (a b : Ex) (h1 : 8 ≤ op) (h2 : op ≤ 17) : (pairE op q a b).ok1 = true := by
  have hc : op = 8 ∨ op = 9 ∨ op = 10 ∨ op = 11 ∨ op = 12 ∨ op = 13 ∨ op = 14 ∨ op = 15 ∨ op = 16 ∨ op = 17 := by omega
  rcases hc with rfl | rfl | rfl | rfl | rfl | rfl | rfl | rfl | rfl | rfl <;> rfl
theorem pair_ok (op : Int) (q : Nat) (a b : Ex) (h1 : 8 ≤ op) (h2 : op ≤ 17) : (pairE op q a b).ok = (a.ok && b.ok) := by
  have h1 := pair_ok1 op q a b h1 h2
  unfold pairE at h1 ⊢
  rw [Ex.ok, Ex.subs_mk, List.all_cons, h1, Bool.true_and, Ex.subsL_eq, List.all_flatMap]
  simp [Ex.ok]
theorem pair_tero (l : List Mo) (op : Int) (q : Nat) (a b : Ex) (h1 : 8 ≤ op) (h2 : op ≤ 17) (ha : a.tero l = none) (hb : b.tero l = none) (hw : a.is l = wantOf l op [a, b] ∧ b.is l = wantOf l op [a, b]) : (pairE op q a b).tero l = none := by
  rw [tero_none] at ha hb ⊢
  refine ⟨by rw [pair_ok op q a b h1 h2, ha.1, hb.1]; rfl, ?_⟩
  unfold pairE
  rw [Ex.ter_mk, if_neg (by omega), Ex.terL, Ex.terL, Ex.terL, Option.or_none, ha.2, hb.2]
  simp only [Option.none_or]
  rw [misfit_none]
  intro k hk
  simp only [List.mem_cons, List.not_mem_nil, or_false] at hk
  rcases hk with rfl | rfl
  · exact hw.1
  · exact hw.2
theorem pair_rk (l : List Mo) (vs : List Int) (op : Int) (q : Nat) (a b : Ex) (h1 : 8 ≤ op) (h2 : op ≤ 17) : (pairE op q a b).rk l vs = (a.rk l vs).bind fun x => perF op x (b.rk l vs) := by
  unfold pairE
  rw [Ex.rk_mk, rkOp, if_neg (by omega), if_neg (by omega), if_neg (by omega), if_neg (by omega), kidO_rk l vs [a, b] 0 (by simp), kidO_rk l vs [a, b] 1 (by simp)]
  congr 1
  funext x
  rw [unF, if_neg (by omega), if_neg (by omega), if_neg (by omega)]
  rfl
/-- The opposite of an expression; its row lies in block q. -/
def notE (q : Nat) (a : Ex) : Ex := .mk 5 ⟨#[]⟩ ⟨#[]⟩ 0 (some ⟨q, 0, none⟩) 1 [a] 0
theorem not_ok (q : Nat) (a : Ex) : (notE q a).ok = a.ok := by
  have h1 : (notE q a).ok1 = true := rfl
  unfold notE at h1 ⊢
  rw [Ex.ok, Ex.subs_mk, List.all_cons, h1, Bool.true_and, Ex.subsL_eq, List.all_flatMap]
  simp [Ex.ok]
theorem not_tero (l : List Mo) (q : Nat) (a : Ex) (ha : a.tero l = none) (hw : a.is l = 1) : (notE q a).tero l = none := by
  rw [tero_none] at ha ⊢
  refine ⟨by rw [not_ok, ha.1], ?_⟩
  unfold notE
  rw [Ex.ter_mk, if_neg (by omega), Ex.terL, Ex.terL, Option.or_none, ha.2]
  simp only [Option.none_or]
  rw [misfit_none]
  intro k hk
  simp only [List.mem_cons, List.not_mem_nil, or_false] at hk
  subst hk
  exact hw
theorem not_rk (l : List Mo) (vs : List Int) (q : Nat) (a : Ex) : (notE q a).rk l vs = (a.rk l vs).bind fun x => some (bitF (x == 0)) := by
  unfold notE
  rw [Ex.rk_mk, rkOp, if_neg (by omega), if_neg (by omega), if_neg (by omega), if_neg (by omega), kidO_rk l vs [a] 0 (by simp)]
  rfl
theorem not_is {W : World} {n b : Nat} {a : Ex} (h : W.heap[b]? = some (.cells a.cells.toArray 28 (0, 0))) (hb : b < n) (h1 : a.Is n W) : (notE b a).Is n W := Ex.Is.up ⟨⟨⟨by decide, by decide⟩, i64_zero, i64_zero, len0, len0⟩, ⟨by simp, by unfold maxLen; simp, .inr ⟨b, 0, rfl, hb, fun j hj i hi => by
    rw [Nat.zero_add, cellOf h]
    have hj2 : j < 1 := by simpa using hj
    rcases a with ⟨a1, a2, a3, a4, a5, a6, a7, a8⟩
    rcases j with _ | j
    · rcases i with _ | _ | _ | _ | _ | _ | i <;> first | rfl | omega
    · omega⟩⟩, fun x hx => by
      simp only [List.mem_cons, List.not_mem_nil, or_false] at hx
      subst hx
      exact h1⟩
theorem pairE_is {W : World} {n b : Nat} {op : Int} {k1 k2 : Ex} (ho : I64 op) (h : W.heap[b]? = some (.cells (k1.cells ++ k2.cells).toArray 28 (0, 0))) (hb : b < n) (h1 : k1.Is n W) (h2 : k2.Is n W) : (pairE op b k1 k2).Is n W := two_is ho h hb h1 h2
def zeroE : Ex := .mk 1 ⟨#[]⟩ ⟨#[]⟩ 0 none 0 [] 0
theorem zeroE_is (n : Nat) (W : World) : zeroE.Is n W := Ex.Is.up ⟨⟨⟨by decide, by decide⟩, i64_zero, i64_zero, len0, len0⟩, ⟨by simp, by unfold maxLen; simp, .inl rfl⟩, fun x hx => by cases hx⟩
theorem zeroE_tero (l : List Mo) : zeroE.tero l = none := by kernel_rfl
theorem zeroE_of (l : List Mo) : zeroE.is l = 2 := by kernel_rfl
/-- What is around a fault is one. -/
theorem not_fault {p : Pr} {vs : List Int} {q : Nat} {e : Ex} (h1 : e.tero p.mons = none) (h2 : vs.length = vsum p.mons) (h3 : e.rk p.mons vs = none) (h4 : e.is p.mons = 1) : evF p (notE q e) vs = (0, 110) ∧ trF p (notE q e) vs = false := by
  have h : evF p (notE q e) vs = (0, 110) := by
    rw [evF, not_tero p.mons q e h1 h4]
    simp only [if_pos h2]
    rw [not_rk, h3]; rfl
  exact ⟨h, by rw [trF, h]; rfl⟩
theorem eq_fault {p : Pr} {vs : List Int} {q : Nat} {e : Ex} (h1 : e.tero p.mons = none) (h2 : vs.length = vsum p.mons) (h3 : e.rk p.mons vs = none) (h4 : e.is p.mons = 2) : evF p (pairE 10 q e zeroE) vs = (0, 110) ∧ trF p (pairE 10 q e zeroE) vs = false := by
  have h : evF p (pairE 10 q e zeroE) vs = (0, 110) := by
    rw [evF, pair_tero p.mons 10 q e zeroE (by omega) (by omega) h1 (zeroE_tero _) ⟨by simp [wantOf, opWant], by rw [zeroE_of]; simp [wantOf, opWant, h4]⟩]
    simp only [if_pos h2]
    rw [pair_rk _ _ _ _ _ _ (by omega) (by omega), h3]; rfl
  exact ⟨h, by rw [trF, h]; rfl⟩
end Go.Proofs.YtopiceoofdlkbaaDoor
namespace Go.Proofs.YtopiceoofdlkbaaDoor
open Go.RowKit
/-- A comparison of two numbers. -/
def cmpF (op x y : Int) : Bool := if op = 10 then x == y else if op = 11 then x != y else if op = 12 then decide (x < y) else if op = 13 then decide (x ≤ y) else if op = 14 then decide (y < x) else decide (y ≤ x)
theorem bit_ne (b : Bool) : (bitF b != 0) = b := by cases b <;> rfl
theorem pair_tr {p : Pr} {vs : List Int} {a b : Ex} {x y : Int} (op : Int) (q : Nat) (ho : 10 ≤ op) (ho2 : op ≤ 15) (ha : a.tero p.mons = none) (hb : b.tero p.mons = none) (hi : a.is p.mons = 2) (hj : b.is p.mons = 2) (hl : vs.length = vsum p.mons) (hx : a.rk p.mons vs = some x) (hy : b.rk p.mons vs = some y) : trF p (pairE op q a b) vs = cmpF op x y := by
  have hw : wantOf p.mons op [a, b] = 2 := by
    unfold wantOf opWant
    have hc : op = 10 ∨ op = 11 ∨ op = 12 ∨ op = 13 ∨ op = 14 ∨ op = 15 := by omega
    rcases hc with rfl | rfl | rfl | rfl | rfl | rfl <;> simp [hi]
  have h : evF p (pairE op q a b) vs = (bitF (cmpF op x y), 0) := by
    rw [evF, pair_tero p.mons op q a b (by omega) (by omega) ha hb ⟨by rw [hw, hi], by rw [hw, hj]⟩]
    simp only [if_pos hl]
    rw [pair_rk _ _ _ _ _ _ (by omega) (by omega), hx, hy]
    have hc : op = 10 ∨ op = 11 ∨ op = 12 ∨ op = 13 ∨ op = 14 ∨ op = 15 := by omega
    rcases hc with rfl | rfl | rfl | rfl | rfl | rfl <;> simp [perF, joinF, cmpF]
  rw [trF, h]
  show (true && (bitF (cmpF op x y) != 0)) = _
  rw [bit_ne, Bool.true_and]
theorem pair_lo {p : Pr} {vs : List Int} {a b : Ex} {x y : Int} (q : Nat) (ha : a.tero p.mons = none) (hb : b.tero p.mons = none) (hi : a.is p.mons = 1) (hj : b.is p.mons = 1) (hl : vs.length = vsum p.mons) (hx : a.rk p.mons vs = some x) (hy : b.rk p.mons vs = some y) : trF p (pairE 16 q a b) vs = ((x != 0) && (y != 0)) ∧ trF p (pairE 17 q a b) vs = ((x != 0) || (y != 0)) := by
  have h1 : evF p (pairE 16 q a b) vs = (if x = 0 then 0 else y, 0) := by
    rw [evF, pair_tero p.mons 16 q a b (by omega) (by omega) ha hb ⟨by rw [hi]; rfl, by rw [hj]; rfl⟩]
    simp only [if_pos hl]
    rw [pair_rk _ _ _ _ _ _ (by omega) (by omega), hx, hy]
    by_cases h0 : x = 0 <;> simp [perF, joinF, h0]
  have h2 : evF p (pairE 17 q a b) vs = (if x = 0 then y else 1, 0) := by
    rw [evF, pair_tero p.mons 17 q a b (by omega) (by omega) ha hb ⟨by rw [hi]; rfl, by rw [hj]; rfl⟩]
    simp only [if_pos hl]
    rw [pair_rk _ _ _ _ _ _ (by omega) (by omega), hx, hy]
    by_cases h0 : x = 0 <;> simp [perF, joinF, h0]
  constructor
  · rw [trF, h1]
    by_cases h0 : x = 0 <;> simp [h0]
  · rw [trF, h2]
    by_cases h0 : x = 0 <;> simp [h0]
theorem not_tr {p : Pr} {vs : List Int} {a : Ex} {x : Int} (q : Nat) (ha : a.tero p.mons = none) (hi : a.is p.mons = 1) (hl : vs.length = vsum p.mons) (hx : a.rk p.mons vs = some x) : trF p (notE q a) vs = (x == 0) := by
  have h : evF p (notE q a) vs = (bitF (x == 0), 0) := by
    rw [evF, not_tero p.mons q a ha hi]
    simp only [if_pos hl]
    rw [not_rk, hx]; rfl
  rw [trF, h]
  show (true && (bitF (x == 0) != 0)) = _
  rw [bit_ne, Bool.true_and]
theorem evF_sum (p : Pr) (e : Ex) (vs : List Int) : 0 ≤ (evF p e vs).2 ∧ (evF p e vs).2 ≤ 110 ∧ ((evF p e vs).2 = 0 → e.tero p.mons = none ∧ vs.length = vsum p.mons ∧ e.rk p.mons vs = some (evF p e vs).1) := by
  rcases evF_cases p e vs with ⟨c, a, _, h2, h3⟩ | ⟨_, _, h3⟩ | ⟨h1, h2, x, h3, h4⟩ | ⟨_, _, _, h4⟩
  · rw [h2]; exact ⟨by show 0 ≤ c; omega, by show c ≤ 110; omega, fun h => by have h' : c = 0 := h; omega⟩
  · rw [h3]; exact ⟨by decide, by decide, fun h => by cases h⟩
  · rw [h4]; exact ⟨Int.le_refl 0, by show (0 : Int) ≤ 110; omega, fun _ => ⟨h1, h2, h3⟩⟩
  · rw [h4]; exact ⟨by decide, by decide, fun h => by cases h⟩
def tyV (is : Int) (o : Option (Int × Int)) : Int := match o with
  | some _ => 0
  | none => is
def tyC (o : Option (Int × Int)) : Int := match o with
  | some x => x.1
  | none => 0
def tyP (o : Option (Int × Int)) : Int := match o with
  | some x => x.2
  | none => 0
theorem TyBack.uni {f : FuncId} {args : Array Value} {is : Int} {o : Option (Int × Int)} {w : World} (h : Calls Tryd.prog f args w fun r w' => TyBack is o w w' r) : Calls Tryd.prog f args w fun r w' => r = .returned (.tuple #[.int .i64 (tyV is o), .int .i64 (tyC o), .int .i64 (tyP o)]) ∧ Below w.heap.size w w' :=
  h.mono fun r w' hh => by
    obtain ⟨⟨rfl, rfl⟩ | ⟨c, a, _, rfl, rfl⟩, h2⟩ := hh
    · exact ⟨rfl, h2⟩
    · exact ⟨rfl, h2⟩
theorem EvBack.uni {f : FuncId} {args : Array Value} {v : Int × Int} {w : World} (h : Calls Tryd.prog f args w fun r w' => EvBack v w w' r) : Calls Tryd.prog f args w fun r w' => r = .returned (.tuple #[.int .i64 v.1, .int .i64 v.2]) ∧ Below w.heap.size w w' :=
  h.mono fun _ _ hh => ⟨hh.1, hh.2.2⟩
set_option maxRecDepth 100000 in
set_option maxHeartbeats 32000000 in
theorem valueLogic_walk (p : Pr) (a b : Ex) (vs : List Int) (vad : Option Addr) (vcap : Nat) (w : World) (hS : Shapes w) (hp : p.Is w.heap.size w) (ha : a.Is w.heap.size w) (hb : b.Is w.heap.size w) (hV : SlAt 1 iv w.heap.size w vad vcap vs) (hvi : ∀ x ∈ vs, I64 x) :
    Calls Tryd.prog 5 #[p.val, a.val, b.val, .slice vad vs.length vcap] w fun r w' => r = .returned (.bool true) ∧ Below w.heap.size w w' := by
  have hs3 := hS.size
  have hv1 := hV.1; have hv2 := hV.2.1
  unfold maxLen at hv2
  have h8 : ∀ W, Below w.heap.size w W → Calls Tryd.prog 8 #[p.val, .int .i64 300] W fun r w' => (r = .returned (.bool false) ∧ Below W.heap.size W w') ∨ (r = .returned (.bool true) ∧ vsum p.mons ≤ 1000000 ∧ Below W.heap.size W w') := fun W hW => small_or w.heap.size p W hW.size (hp.below hW)
  have h9a : ∀ W, Below w.heap.size w W → Calls Tryd.prog 9 #[a.val, .int .i64 300] W fun r w' => r = .returned (.int .i64 (restE a 300)) ∧ Below W.heap.size W w' := fun W hW => restExpr_any w.heap.size a 300 W (by omega) (by omega) hW.size (ha.below hW)
  have h9b : ∀ W, Below w.heap.size w W → Calls Tryd.prog 9 #[b.val, .int .i64 300] W fun r w' => r = .returned (.int .i64 (restE b 300)) ∧ Below W.heap.size W w' := fun W hW => restExpr_any w.heap.size b 300 W (by omega) (by omega) hW.size (hb.below hW)
  have h10 : ∀ W, Below w.heap.size w W → Calls Tryd.prog 10 #[] W fun r w' => r = .returned (.bool true) ∧ Below W.heap.size W w' := fun W hW => live_any W (hS.below hW hs3)
  have h13 := num_any
  have h11a : vsum p.mons ≤ 1000000 → ∀ W, Below w.heap.size w W → Calls Tryd.prog 11 #[p.val, a.val, .slice vad vs.length vcap] W _ := fun hv W hW => EvBack.uni (eval_any p hv a vs hvi vad vcap w.heap.size W hW.size (hp.below hW) (ha.below hW) (hV.below hW) (hS.below hW hs3))
  have h11b : vsum p.mons ≤ 1000000 → ∀ W, Below w.heap.size w W → Calls Tryd.prog 11 #[p.val, b.val, .slice vad vs.length vcap] W _ := fun hv W hW => EvBack.uni (eval_any p hv b vs hvi vad vcap w.heap.size W hW.size (hp.below hW) (hb.below hW) (hV.below hW) (hS.below hW hs3))
  have h21a : vsum p.mons ≤ 1000000 → ∀ W, Below w.heap.size w W → Calls Tryd.prog 21 #[p.val, a.val] W _ := fun hv W hW => TyBack.uni (type_any p hv a w.heap.size W hW.size (hp.below hW) (ha.below hW) (hS.below hW hs3))
  have h21b : vsum p.mons ≤ 1000000 → ∀ W, Below w.heap.size w W → Calls Tryd.prog 21 #[p.val, b.val] W _ := fun hv W hW => TyBack.uni (type_any p hv b w.heap.size W hW.size (hp.below hW) (hb.below hW) (hS.below hW hs3))
  have HN : Hid (vsum p.mons ≤ 1000000 → ∀ (x : Ex) (V : World), Below w.heap.size w V → x.Is V.heap.size V → Calls Tryd.prog 14 #[p.val, x.val, .slice vad vs.length vcap] V fun r w' => r = .returned (.bool (trF p x vs)) ∧ Below V.heap.size V w') := fun hv x V hV0 hx => true_any p hv x vs hvi vad vcap V.heap.size V (Nat.le_refl _) ((hp.below hV0).mono hV0.size) hx ((hV.below hV0).mono hV0.size) (hS.below hV0 hs3)
  have HIa : Hid (∀ W, Below w.heap.size w W → a.Is w.heap.size W) := fun W hW => ha.below hW
  have HIb : Hid (∀ W, Below w.heap.size w W → b.Is w.heap.size W) := fun W hW => hb.below hW
  have HTa := hid (is_two (l := p.mons) (e := a))
  have HTb := hid (is_two (l := p.mons) (e := b))
  have HSa := hid (evF_sum p a vs)
  have HSb := hid (evF_sum p b vs)
  obtain ⟨rs1, hrs1⟩ : ∃ rs, restE a 300 = rs := ⟨_, rfl⟩
  obtain ⟨rs2, hrs2⟩ : ∃ rs, restE b 300 = rs := ⟨_, rfl⟩
  simp only [hrs1] at h9a
  simp only [hrs2] at h9b
  clear hrs1 hrs2 hS hp ha hb hV hvi
  obtain ⟨x, hx⟩ : ∃ x, (evF p a vs).1 = x := ⟨_, rfl⟩
  obtain ⟨y, hy⟩ : ∃ y, (evF p b vs).1 = y := ⟨_, rfl⟩
  obtain ⟨ca, hca⟩ : ∃ c, (evF p a vs).2 = c := ⟨_, rfl⟩
  obtain ⟨cb, hcb⟩ : ∃ c, (evF p b vs).2 = c := ⟨_, rfl⟩
  simp only [hx, hca] at h11a HSa
  simp only [hy, hcb] at h11b HSb
  clear hx hy hca hcb
  obtain ⟨s, hs⟩ : ∃ s, tyV (a.is p.mons) (a.tero p.mons) = s := ⟨_, rfl⟩
  obtain ⟨t, ht⟩ : ∃ t, tyV (b.is p.mons) (b.tero p.mons) = t := ⟨_, rfl⟩
  obtain ⟨k1, hk1⟩ : ∃ s, tyC (a.tero p.mons) = s := ⟨_, rfl⟩
  obtain ⟨k2, hk2⟩ : ∃ t, tyC (b.tero p.mons) = t := ⟨_, rfl⟩
  obtain ⟨k3, hk3⟩ : ∃ s, tyP (a.tero p.mons) = s := ⟨_, rfl⟩
  obtain ⟨k4, hk4⟩ : ∃ t, tyP (b.tero p.mons) = t := ⟨_, rfl⟩
  simp only [hs, hk1, hk3] at h21a
  simp only [ht, hk2, hk4] at h21b
  have HTYa := hid hs
  have HTYb := hid ht
  clear hs ht hk1 hk2 hk3 hk4
  obtain ⟨pad, hpad⟩ : ∃ a, p.mad = a := ⟨_, rfl⟩
  obtain ⟨pml, hpml⟩ : ∃ a, p.mons.length = a := ⟨_, rfl⟩
  obtain ⟨pmc, hpmc⟩ : ∃ a, p.mcap = a := ⟨_, rfl⟩
  obtain ⟨prd, hprd⟩ : ∃ a, p.rad = a := ⟨_, rfl⟩
  obtain ⟨prl, hprl⟩ : ∃ a, p.roles.length = a := ⟨_, rfl⟩
  obtain ⟨prc, hprc⟩ : ∃ a, p.rcap = a := ⟨_, rfl⟩
  have HPV : Hid (p.val = .agg #[.slice pad pml pmc, .slice prd prl prc]) := by show _ = _; simp only [Pr.val, hpad, hpml, hpmc, hprd, hprl, hprc]
  obtain ⟨a0, ha0⟩ : ∃ e0, a = e0 := ⟨_, rfl⟩
  obtain ⟨b0, hb0⟩ : ∃ e0, b = e0 := ⟨_, rfl⟩
  simp only [ha0] at HIa HTa HSa HTYa
  simp only [hb0] at HIb HTb HSb HTYb
  rcases a with ⟨op1, mon1, name1, n1, ad1, cap1, kids1, pos1⟩
  rcases b with ⟨op2, mon2, name2, n2, ad2, cap2, kids2, pos2⟩
  have HA0 := hid ha0.symm
  have HB0 := hid hb0.symm
  simp only [Pr.val, Ex.val, Ex.cells, hpad, hpml, hpmc, hprd, hprl, hprc] at h8 h9a h9b h11a h11b h21a h21b ⊢
  clear hpad hpml hpmc hprd hprl hprc ha0 hb0
  go_enter Tryd.func5, Tryd.ntmps5
  go_upto_region 1 with fail
  obtain ⟨bP, bA, bB, B, hz⟩ := three_box w #[.slice pad pml pmc, .slice prd prl prc] #[.int .i64 op1, .string mon1, .string name1, .int .i64 n1, .slice ad1 kids1.length cap1, .int .i64 pos1] #[.int .i64 op2, .string mon2, .string name2, .int .i64 n2, .slice ad2 kids2.length cap2, .int .i64 pos2] 25 28 28
  obtain ⟨W0, hW0⟩ : ∃ W0, ((w.alloc (.cells #[.slice pad pml pmc, .slice prd prl prc] 25)).alloc (.cells #[.int .i64 op1, .string mon1, .string name1, .int .i64 n1, .slice ad1 kids1.length cap1, .int .i64 pos1] 28)).alloc (.cells #[.int .i64 op2, .string mon2, .string name2, .int .i64 n2, .slice ad2 kids2.length cap2, .int .i64 pos2] 28) = W0 := ⟨_, rfl⟩
  rw [hW0] at bP bA bB B hz ⊢
  clear hW0
  have HZ := hid hz
  have HK : Hid (∀ W, Below W0.heap.size W0 W → W.heap[w.heap.size]? = some (.cells #[.slice pad pml pmc, .slice prd prl prc] 25 (0, 0)) ∧ W.heap[w.heap.size + 1]? = some (.cells #[.int .i64 op1, .string mon1, .string name1, .int .i64 n1, .slice ad1 kids1.length cap1, .int .i64 pos1] 28 (0, 0)) ∧ W.heap[w.heap.size + 2]? = some (.cells #[.int .i64 op2, .string mon2, .string name2, .int .i64 n2, .slice ad2 kids2.length cap2, .int .i64 pos2] 28 (0, 0))) := fun W hW => ⟨(hW.block _ (by omega)).trans bP, (hW.block _ (by omega)).trans bA, (hW.block _ (by omega)).trans bB⟩
  have HB := hid B
  clear B
  have h8 : ∀ W, Below W0.heap.size W0 W → _ := fun W hW => h8 W (HB.out.tr le_rfl' hW)
  have h9a : ∀ W, Below W0.heap.size W0 W → _ := fun W hW => h9a W (HB.out.tr le_rfl' hW)
  have h9b : ∀ W, Below W0.heap.size W0 W → _ := fun W hW => h9b W (HB.out.tr le_rfl' hW)
  have h10 : ∀ W, Below W0.heap.size W0 W → _ := fun W hW => h10 W (HB.out.tr le_rfl' hW)
  have h11a : _ → ∀ W, Below W0.heap.size W0 W → _ := fun hv W hW => h11a hv W (HB.out.tr le_rfl' hW)
  have h11b : _ → ∀ W, Below W0.heap.size W0 W → _ := fun hv W hW => h11b hv W (HB.out.tr le_rfl' hW)
  have h21a : _ → ∀ W, Below W0.heap.size W0 W → _ := fun hv W hW => h21a hv W (HB.out.tr le_rfl' hW)
  have h21b : _ → ∀ W, Below W0.heap.size W0 W → _ := fun hv W hW => h21b hv W (HB.out.tr le_rfl' hW)
  have B := Below.refl W0.heap.size W0
  obtain ⟨e1, e2, e3⟩ := HK.out _ B
  have m0 := cellOf e1 0
  have m1 := cellOf e1 1
  have s0 := cellOf e2 0
  have t0 := cellOf e3 0
  have s1 := cellOf e2 1
  have t1 := cellOf e3 1
  have s2 := cellOf e2 2
  have t2 := cellOf e3 2
  have s3 := cellOf e2 3
  have t3 := cellOf e3 3
  have s4 := cellOf e2 4
  have t4 := cellOf e3 4
  have s5 := cellOf e2 5
  have t5 := cellOf e3 5
  simp at m0 m1 s0 s1 s2 s3 s4 s5 t0 t1 t2 t3 t4 t5
  clear e1 e2 e3
  clear hz bP bA bB
  by_cases hr1 : rs1 < 0
  · have hrd1 : decide (rs1 < 0) = true := decide_eq_true hr1
    clear h11a h11b h21a h21b
    go_wp2_with (first | (go_at_call 8; (with_reducible refine (h8 _ B).mono ?_); rintro r w1 (⟨rfl, bb⟩ | ⟨rfl, hsm, bb⟩) <;> (have B := B.tr le_rfl' bb; clear m0 m1 s0 s1 s2 s3 s4 s5 t0 t1 t2 t3 t4 t5; obtain ⟨e1, e2, e3⟩ := HK.out _ B; have m0 := cellOf e1 0; have m1 := cellOf e1 1; have s0 := cellOf e2 0; have t0 := cellOf e3 0; have s1 := cellOf e2 1; have t1 := cellOf e3 1; have s2 := cellOf e2 2; have t2 := cellOf e3 2; have s3 := cellOf e2 3; have t3 := cellOf e3 3; have s4 := cellOf e2 4; have t4 := cellOf e3 4; have s5 := cellOf e2 5; have t5 := cellOf e3 5; simp at m0 m1 s0 s1 s2 s3 s4 s5 t0 t1 t2 t3 t4 t5; clear e1 e2 e3)) | (go_at_call 9; (with_reducible refine (h9a _ B).mono ?_); rintro r w2 ⟨rfl, bb⟩; have B := B.tr le_rfl' bb; clear m0 m1 s0 s1 s2 s3 s4 s5 t0 t1 t2 t3 t4 t5; obtain ⟨e1, e2, e3⟩ := HK.out _ B; have m0 := cellOf e1 0; have m1 := cellOf e1 1; have s0 := cellOf e2 0; have t0 := cellOf e3 0; have s1 := cellOf e2 1; have t1 := cellOf e3 1; have s2 := cellOf e2 2; have t2 := cellOf e3 2; have s3 := cellOf e2 3; have t3 := cellOf e3 3; have s4 := cellOf e2 4; have t4 := cellOf e3 4; have s5 := cellOf e2 5; have t5 := cellOf e3 5; simp at m0 m1 s0 s1 s2 s3 s4 s5 t0 t1 t2 t3 t4 t5; clear e1 e2 e3) | (go_at_call 9; (with_reducible refine (h9b _ B).mono ?_); rintro r w3 ⟨rfl, bb⟩; have B := B.tr le_rfl' bb; clear m0 m1 s0 s1 s2 s3 s4 s5 t0 t1 t2 t3 t4 t5; obtain ⟨e1, e2, e3⟩ := HK.out _ B; have m0 := cellOf e1 0; have m1 := cellOf e1 1; have s0 := cellOf e2 0; have t0 := cellOf e3 0; have s1 := cellOf e2 1; have t1 := cellOf e3 1; have s2 := cellOf e2 2; have t2 := cellOf e3 2; have s3 := cellOf e2 3; have t3 := cellOf e3 3; have s4 := cellOf e2 4; have t4 := cellOf e3 4; have s5 := cellOf e2 5; have t5 := cellOf e3 5; simp at m0 m1 s0 s1 s2 s3 s4 s5 t0 t1 t2 t3 t4 t5; clear e1 e2 e3) | (go_at_call 10; (with_reducible refine (h10 _ B).mono ?_); rintro r u3 ⟨rfl, bb⟩; have B := B.tr le_rfl' bb))
    all_goals go_ret
    all_goals exact ⟨rfl, HB.out.tr le_rfl' B⟩
  have hrd1 : decide (rs1 < 0) = false := decide_eq_false hr1
  by_cases hr2 : rs2 < 0
  · have hrd2 : decide (rs2 < 0) = true := decide_eq_true hr2
    clear h11a h11b h21a h21b
    go_wp2_with (first | (go_at_call 8; (with_reducible refine (h8 _ B).mono ?_); rintro r w1 (⟨rfl, bb⟩ | ⟨rfl, hsm, bb⟩) <;> (have B := B.tr le_rfl' bb; clear m0 m1 s0 s1 s2 s3 s4 s5 t0 t1 t2 t3 t4 t5; obtain ⟨e1, e2, e3⟩ := HK.out _ B; have m0 := cellOf e1 0; have m1 := cellOf e1 1; have s0 := cellOf e2 0; have t0 := cellOf e3 0; have s1 := cellOf e2 1; have t1 := cellOf e3 1; have s2 := cellOf e2 2; have t2 := cellOf e3 2; have s3 := cellOf e2 3; have t3 := cellOf e3 3; have s4 := cellOf e2 4; have t4 := cellOf e3 4; have s5 := cellOf e2 5; have t5 := cellOf e3 5; simp at m0 m1 s0 s1 s2 s3 s4 s5 t0 t1 t2 t3 t4 t5; clear e1 e2 e3)) | (go_at_call 9; (with_reducible refine (h9a _ B).mono ?_); rintro r w2 ⟨rfl, bb⟩; have B := B.tr le_rfl' bb; clear m0 m1 s0 s1 s2 s3 s4 s5 t0 t1 t2 t3 t4 t5; obtain ⟨e1, e2, e3⟩ := HK.out _ B; have m0 := cellOf e1 0; have m1 := cellOf e1 1; have s0 := cellOf e2 0; have t0 := cellOf e3 0; have s1 := cellOf e2 1; have t1 := cellOf e3 1; have s2 := cellOf e2 2; have t2 := cellOf e3 2; have s3 := cellOf e2 3; have t3 := cellOf e3 3; have s4 := cellOf e2 4; have t4 := cellOf e3 4; have s5 := cellOf e2 5; have t5 := cellOf e3 5; simp at m0 m1 s0 s1 s2 s3 s4 s5 t0 t1 t2 t3 t4 t5; clear e1 e2 e3) | (go_at_call 9; (with_reducible refine (h9b _ B).mono ?_); rintro r w3 ⟨rfl, bb⟩; have B := B.tr le_rfl' bb; clear m0 m1 s0 s1 s2 s3 s4 s5 t0 t1 t2 t3 t4 t5; obtain ⟨e1, e2, e3⟩ := HK.out _ B; have m0 := cellOf e1 0; have m1 := cellOf e1 1; have s0 := cellOf e2 0; have t0 := cellOf e3 0; have s1 := cellOf e2 1; have t1 := cellOf e3 1; have s2 := cellOf e2 2; have t2 := cellOf e3 2; have s3 := cellOf e2 3; have t3 := cellOf e3 3; have s4 := cellOf e2 4; have t4 := cellOf e3 4; have s5 := cellOf e2 5; have t5 := cellOf e3 5; simp at m0 m1 s0 s1 s2 s3 s4 s5 t0 t1 t2 t3 t4 t5; clear e1 e2 e3) | (go_at_call 10; (with_reducible refine (h10 _ B).mono ?_); rintro r u3 ⟨rfl, bb⟩; have B := B.tr le_rfl' bb))
    all_goals go_ret
    all_goals exact ⟨rfl, HB.out.tr le_rfl' B⟩
  have hrd2 : decide (rs2 < 0) = false := decide_eq_false hr2
  by_cases hl : 400 < vs.length
  · have hld : decide ((400 : Int) < (vs.length : Int)) = true := by simp; omega
    clear h11a h11b h21a h21b
    go_wp2_with (first | (go_at_call 8; (with_reducible refine (h8 _ B).mono ?_); rintro r w1 (⟨rfl, bb⟩ | ⟨rfl, hsm, bb⟩) <;> (have B := B.tr le_rfl' bb; clear m0 m1 s0 s1 s2 s3 s4 s5 t0 t1 t2 t3 t4 t5; obtain ⟨e1, e2, e3⟩ := HK.out _ B; have m0 := cellOf e1 0; have m1 := cellOf e1 1; have s0 := cellOf e2 0; have t0 := cellOf e3 0; have s1 := cellOf e2 1; have t1 := cellOf e3 1; have s2 := cellOf e2 2; have t2 := cellOf e3 2; have s3 := cellOf e2 3; have t3 := cellOf e3 3; have s4 := cellOf e2 4; have t4 := cellOf e3 4; have s5 := cellOf e2 5; have t5 := cellOf e3 5; simp at m0 m1 s0 s1 s2 s3 s4 s5 t0 t1 t2 t3 t4 t5; clear e1 e2 e3)) | (go_at_call 9; (with_reducible refine (h9a _ B).mono ?_); rintro r w2 ⟨rfl, bb⟩; have B := B.tr le_rfl' bb; clear m0 m1 s0 s1 s2 s3 s4 s5 t0 t1 t2 t3 t4 t5; obtain ⟨e1, e2, e3⟩ := HK.out _ B; have m0 := cellOf e1 0; have m1 := cellOf e1 1; have s0 := cellOf e2 0; have t0 := cellOf e3 0; have s1 := cellOf e2 1; have t1 := cellOf e3 1; have s2 := cellOf e2 2; have t2 := cellOf e3 2; have s3 := cellOf e2 3; have t3 := cellOf e3 3; have s4 := cellOf e2 4; have t4 := cellOf e3 4; have s5 := cellOf e2 5; have t5 := cellOf e3 5; simp at m0 m1 s0 s1 s2 s3 s4 s5 t0 t1 t2 t3 t4 t5; clear e1 e2 e3) | (go_at_call 9; (with_reducible refine (h9b _ B).mono ?_); rintro r w3 ⟨rfl, bb⟩; have B := B.tr le_rfl' bb; clear m0 m1 s0 s1 s2 s3 s4 s5 t0 t1 t2 t3 t4 t5; obtain ⟨e1, e2, e3⟩ := HK.out _ B; have m0 := cellOf e1 0; have m1 := cellOf e1 1; have s0 := cellOf e2 0; have t0 := cellOf e3 0; have s1 := cellOf e2 1; have t1 := cellOf e3 1; have s2 := cellOf e2 2; have t2 := cellOf e3 2; have s3 := cellOf e2 3; have t3 := cellOf e3 3; have s4 := cellOf e2 4; have t4 := cellOf e3 4; have s5 := cellOf e2 5; have t5 := cellOf e3 5; simp at m0 m1 s0 s1 s2 s3 s4 s5 t0 t1 t2 t3 t4 t5; clear e1 e2 e3) | (go_at_call 10; (with_reducible refine (h10 _ B).mono ?_); rintro r u3 ⟨rfl, bb⟩; have B := B.tr le_rfl' bb))
    all_goals go_ret
    all_goals exact ⟨rfl, HB.out.tr le_rfl' B⟩
  have hld : decide ((400 : Int) < (vs.length : Int)) = false := by simp; omega
  have hl' : ¬ 400 < vs.length := hl
  clear hr1 hr2 hl
  have hb1 := HSa.out.1
  have hb2 := HSa.out.2.1
  have hb3 := HSb.out.1
  have hb4 := HSb.out.2.1
  by_cases hc : ¬ ca + cb = 0
  · have hcd : (ca + cb != 0) = true := by simpa using hc
    go_wp2_with (first | (go_at_call 8; (with_reducible refine (h8 _ B).mono ?_); rintro r w1 (⟨rfl, bb⟩ | ⟨rfl, hsm, bb⟩) <;> (have B := B.tr le_rfl' bb; clear m0 m1 s0 s1 s2 s3 s4 s5 t0 t1 t2 t3 t4 t5; obtain ⟨e1, e2, e3⟩ := HK.out _ B; have m0 := cellOf e1 0; have m1 := cellOf e1 1; have s0 := cellOf e2 0; have t0 := cellOf e3 0; have s1 := cellOf e2 1; have t1 := cellOf e3 1; have s2 := cellOf e2 2; have t2 := cellOf e3 2; have s3 := cellOf e2 3; have t3 := cellOf e3 3; have s4 := cellOf e2 4; have t4 := cellOf e3 4; have s5 := cellOf e2 5; have t5 := cellOf e3 5; simp at m0 m1 s0 s1 s2 s3 s4 s5 t0 t1 t2 t3 t4 t5; clear e1 e2 e3)) | (go_at_call 9; (with_reducible refine (h9a _ B).mono ?_); rintro r w2 ⟨rfl, bb⟩; have B := B.tr le_rfl' bb; clear m0 m1 s0 s1 s2 s3 s4 s5 t0 t1 t2 t3 t4 t5; obtain ⟨e1, e2, e3⟩ := HK.out _ B; have m0 := cellOf e1 0; have m1 := cellOf e1 1; have s0 := cellOf e2 0; have t0 := cellOf e3 0; have s1 := cellOf e2 1; have t1 := cellOf e3 1; have s2 := cellOf e2 2; have t2 := cellOf e3 2; have s3 := cellOf e2 3; have t3 := cellOf e3 3; have s4 := cellOf e2 4; have t4 := cellOf e3 4; have s5 := cellOf e2 5; have t5 := cellOf e3 5; simp at m0 m1 s0 s1 s2 s3 s4 s5 t0 t1 t2 t3 t4 t5; clear e1 e2 e3) | (go_at_call 9; (with_reducible refine (h9b _ B).mono ?_); rintro r w3 ⟨rfl, bb⟩; have B := B.tr le_rfl' bb; clear m0 m1 s0 s1 s2 s3 s4 s5 t0 t1 t2 t3 t4 t5; obtain ⟨e1, e2, e3⟩ := HK.out _ B; have m0 := cellOf e1 0; have m1 := cellOf e1 1; have s0 := cellOf e2 0; have t0 := cellOf e3 0; have s1 := cellOf e2 1; have t1 := cellOf e3 1; have s2 := cellOf e2 2; have t2 := cellOf e3 2; have s3 := cellOf e2 3; have t3 := cellOf e3 3; have s4 := cellOf e2 4; have t4 := cellOf e3 4; have s5 := cellOf e2 5; have t5 := cellOf e3 5; simp at m0 m1 s0 s1 s2 s3 s4 s5 t0 t1 t2 t3 t4 t5; clear e1 e2 e3) | (go_at_call 10; (with_reducible refine (h10 _ B).mono ?_); rintro r u3 ⟨rfl, bb⟩; have B := B.tr le_rfl' bb) | (go_at_call 11; (with_reducible refine (h11a hsm _ B).mono ?_); rintro r u4 ⟨rfl, bb⟩; have B := B.tr le_rfl' bb; clear m0 m1 s0 s1 s2 s3 s4 s5 t0 t1 t2 t3 t4 t5; obtain ⟨e1, e2, e3⟩ := HK.out _ B; have m0 := cellOf e1 0; have m1 := cellOf e1 1; have s0 := cellOf e2 0; have t0 := cellOf e3 0; have s1 := cellOf e2 1; have t1 := cellOf e3 1; have s2 := cellOf e2 2; have t2 := cellOf e3 2; have s3 := cellOf e2 3; have t3 := cellOf e3 3; have s4 := cellOf e2 4; have t4 := cellOf e3 4; have s5 := cellOf e2 5; have t5 := cellOf e3 5; simp at m0 m1 s0 s1 s2 s3 s4 s5 t0 t1 t2 t3 t4 t5; clear e1 e2 e3) | (go_at_call 11; (with_reducible refine (h11b hsm _ B).mono ?_); rintro r u5 ⟨rfl, bb⟩; have B := B.tr le_rfl' bb; clear m0 m1 s0 s1 s2 s3 s4 s5 t0 t1 t2 t3 t4 t5; obtain ⟨e1, e2, e3⟩ := HK.out _ B; have m0 := cellOf e1 0; have m1 := cellOf e1 1; have s0 := cellOf e2 0; have t0 := cellOf e3 0; have s1 := cellOf e2 1; have t1 := cellOf e3 1; have s2 := cellOf e2 2; have t2 := cellOf e3 2; have s3 := cellOf e2 3; have t3 := cellOf e3 3; have s4 := cellOf e2 4; have t4 := cellOf e3 4; have s5 := cellOf e2 5; have t5 := cellOf e3 5; simp at m0 m1 s0 s1 s2 s3 s4 s5 t0 t1 t2 t3 t4 t5; clear e1 e2 e3) | (go_at_call 21; (with_reducible refine (h21a hsm _ B).mono ?_); rintro r u6 ⟨rfl, bb⟩; have B := B.tr le_rfl' bb; clear m0 m1 s0 s1 s2 s3 s4 s5 t0 t1 t2 t3 t4 t5; obtain ⟨e1, e2, e3⟩ := HK.out _ B; have m0 := cellOf e1 0; have m1 := cellOf e1 1; have s0 := cellOf e2 0; have t0 := cellOf e3 0; have s1 := cellOf e2 1; have t1 := cellOf e3 1; have s2 := cellOf e2 2; have t2 := cellOf e3 2; have s3 := cellOf e2 3; have t3 := cellOf e3 3; have s4 := cellOf e2 4; have t4 := cellOf e3 4; have s5 := cellOf e2 5; have t5 := cellOf e3 5; simp at m0 m1 s0 s1 s2 s3 s4 s5 t0 t1 t2 t3 t4 t5; clear e1 e2 e3) | (go_at_call 21; (with_reducible refine (h21b hsm _ B).mono ?_); rintro r u7 ⟨rfl, bb⟩; have B := B.tr le_rfl' bb; clear m0 m1 s0 s1 s2 s3 s4 s5 t0 t1 t2 t3 t4 t5; obtain ⟨e1, e2, e3⟩ := HK.out _ B; have m0 := cellOf e1 0; have m1 := cellOf e1 1; have s0 := cellOf e2 0; have t0 := cellOf e3 0; have s1 := cellOf e2 1; have t1 := cellOf e3 1; have s2 := cellOf e2 2; have t2 := cellOf e3 2; have s3 := cellOf e2 3; have t3 := cellOf e3 3; have s4 := cellOf e2 4; have t4 := cellOf e3 4; have s5 := cellOf e2 5; have t5 := cellOf e3 5; simp at m0 m1 s0 s1 s2 s3 s4 s5 t0 t1 t2 t3 t4 t5; clear e1 e2 e3) | (go_at_call 13; (with_reducible refine (h13 _ _).mono ?_); rintro r w' ⟨rfl, hw'⟩; have hw2 := hw'.symm; subst hw2))
    all_goals go_ret
    all_goals exact ⟨rfl, HB.out.tr le_rfl' B⟩
  have hc : ca + cb = 0 := Decidable.not_not.1 hc
  obtain rfl : ca = 0 := by omega
  obtain rfl : cb = 0 := by omega
  obtain ⟨f1, f2, f3⟩ := HSa.out.2.2 rfl
  obtain ⟨g1, -, g3⟩ := HSb.out.2.2 rfl
  have hsA := HTYa.out
  rw [f1] at hsA
  have hsB := HTYb.out
  rw [g1] at hsB
  change Ex.is p.mons a0 = s at hsA
  change Ex.is p.mons b0 = t at hsB
  have hTA := HTa.out f1
  have hTB := HTb.out g1
  rw [hsA] at hTA
  rw [hsB] at hTB
  clear HSa HSb HTa HTb HTYa HTYb hc hb1 hb2 hb3 hb4
  have HTR : Hid (s = t → s = 2 → ∀ op q, 10 ≤ op → op ≤ 15 → trF p (pairE op q a0 b0) vs = cmpF op x y) := fun e h op q h1 h2 => pair_tr op q h1 h2 f1 g1 (hsA.trans h) (hsB.trans (e.symm.trans h)) f2 f3 g3
  have HLO : Hid (s = t → s = 1 → ∀ q, trF p (pairE 16 q a0 b0) vs = ((x != 0) && (y != 0)) ∧ trF p (pairE 17 q a0 b0) vs = ((x != 0) || (y != 0))) := fun e h q => pair_lo q f1 g1 (hsA.trans h) (hsB.trans (e.symm.trans h)) f2 f3 g3
  have HNO : Hid (s = 1 → ∀ q, trF p (notE q a0) vs = (x == 0)) := fun h q => not_tr q f1 (hsA.trans h) f2 f3
  clear f1 f2 f3 g1 g3 hsA hsB hTB
  by_cases hst : ¬ s = t
  · have hsd : (s != t) = true := by simpa using hst
    go_wp2_with (first | (go_at_call 8; (with_reducible refine (h8 _ B).mono ?_); rintro r w1 (⟨rfl, bb⟩ | ⟨rfl, hsm, bb⟩) <;> (have B := B.tr le_rfl' bb; clear m0 m1 s0 s1 s2 s3 s4 s5 t0 t1 t2 t3 t4 t5; obtain ⟨e1, e2, e3⟩ := HK.out _ B; have m0 := cellOf e1 0; have m1 := cellOf e1 1; have s0 := cellOf e2 0; have t0 := cellOf e3 0; have s1 := cellOf e2 1; have t1 := cellOf e3 1; have s2 := cellOf e2 2; have t2 := cellOf e3 2; have s3 := cellOf e2 3; have t3 := cellOf e3 3; have s4 := cellOf e2 4; have t4 := cellOf e3 4; have s5 := cellOf e2 5; have t5 := cellOf e3 5; simp at m0 m1 s0 s1 s2 s3 s4 s5 t0 t1 t2 t3 t4 t5; clear e1 e2 e3)) | (go_at_call 9; (with_reducible refine (h9a _ B).mono ?_); rintro r w2 ⟨rfl, bb⟩; have B := B.tr le_rfl' bb; clear m0 m1 s0 s1 s2 s3 s4 s5 t0 t1 t2 t3 t4 t5; obtain ⟨e1, e2, e3⟩ := HK.out _ B; have m0 := cellOf e1 0; have m1 := cellOf e1 1; have s0 := cellOf e2 0; have t0 := cellOf e3 0; have s1 := cellOf e2 1; have t1 := cellOf e3 1; have s2 := cellOf e2 2; have t2 := cellOf e3 2; have s3 := cellOf e2 3; have t3 := cellOf e3 3; have s4 := cellOf e2 4; have t4 := cellOf e3 4; have s5 := cellOf e2 5; have t5 := cellOf e3 5; simp at m0 m1 s0 s1 s2 s3 s4 s5 t0 t1 t2 t3 t4 t5; clear e1 e2 e3) | (go_at_call 9; (with_reducible refine (h9b _ B).mono ?_); rintro r w3 ⟨rfl, bb⟩; have B := B.tr le_rfl' bb; clear m0 m1 s0 s1 s2 s3 s4 s5 t0 t1 t2 t3 t4 t5; obtain ⟨e1, e2, e3⟩ := HK.out _ B; have m0 := cellOf e1 0; have m1 := cellOf e1 1; have s0 := cellOf e2 0; have t0 := cellOf e3 0; have s1 := cellOf e2 1; have t1 := cellOf e3 1; have s2 := cellOf e2 2; have t2 := cellOf e3 2; have s3 := cellOf e2 3; have t3 := cellOf e3 3; have s4 := cellOf e2 4; have t4 := cellOf e3 4; have s5 := cellOf e2 5; have t5 := cellOf e3 5; simp at m0 m1 s0 s1 s2 s3 s4 s5 t0 t1 t2 t3 t4 t5; clear e1 e2 e3) | (go_at_call 10; (with_reducible refine (h10 _ B).mono ?_); rintro r u3 ⟨rfl, bb⟩; have B := B.tr le_rfl' bb) | (go_at_call 11; (with_reducible refine (h11a hsm _ B).mono ?_); rintro r u4 ⟨rfl, bb⟩; have B := B.tr le_rfl' bb; clear m0 m1 s0 s1 s2 s3 s4 s5 t0 t1 t2 t3 t4 t5; obtain ⟨e1, e2, e3⟩ := HK.out _ B; have m0 := cellOf e1 0; have m1 := cellOf e1 1; have s0 := cellOf e2 0; have t0 := cellOf e3 0; have s1 := cellOf e2 1; have t1 := cellOf e3 1; have s2 := cellOf e2 2; have t2 := cellOf e3 2; have s3 := cellOf e2 3; have t3 := cellOf e3 3; have s4 := cellOf e2 4; have t4 := cellOf e3 4; have s5 := cellOf e2 5; have t5 := cellOf e3 5; simp at m0 m1 s0 s1 s2 s3 s4 s5 t0 t1 t2 t3 t4 t5; clear e1 e2 e3) | (go_at_call 11; (with_reducible refine (h11b hsm _ B).mono ?_); rintro r u5 ⟨rfl, bb⟩; have B := B.tr le_rfl' bb; clear m0 m1 s0 s1 s2 s3 s4 s5 t0 t1 t2 t3 t4 t5; obtain ⟨e1, e2, e3⟩ := HK.out _ B; have m0 := cellOf e1 0; have m1 := cellOf e1 1; have s0 := cellOf e2 0; have t0 := cellOf e3 0; have s1 := cellOf e2 1; have t1 := cellOf e3 1; have s2 := cellOf e2 2; have t2 := cellOf e3 2; have s3 := cellOf e2 3; have t3 := cellOf e3 3; have s4 := cellOf e2 4; have t4 := cellOf e3 4; have s5 := cellOf e2 5; have t5 := cellOf e3 5; simp at m0 m1 s0 s1 s2 s3 s4 s5 t0 t1 t2 t3 t4 t5; clear e1 e2 e3) | (go_at_call 21; (with_reducible refine (h21a hsm _ B).mono ?_); rintro r u6 ⟨rfl, bb⟩; have B := B.tr le_rfl' bb; clear m0 m1 s0 s1 s2 s3 s4 s5 t0 t1 t2 t3 t4 t5; obtain ⟨e1, e2, e3⟩ := HK.out _ B; have m0 := cellOf e1 0; have m1 := cellOf e1 1; have s0 := cellOf e2 0; have t0 := cellOf e3 0; have s1 := cellOf e2 1; have t1 := cellOf e3 1; have s2 := cellOf e2 2; have t2 := cellOf e3 2; have s3 := cellOf e2 3; have t3 := cellOf e3 3; have s4 := cellOf e2 4; have t4 := cellOf e3 4; have s5 := cellOf e2 5; have t5 := cellOf e3 5; simp at m0 m1 s0 s1 s2 s3 s4 s5 t0 t1 t2 t3 t4 t5; clear e1 e2 e3) | (go_at_call 21; (with_reducible refine (h21b hsm _ B).mono ?_); rintro r u7 ⟨rfl, bb⟩; have B := B.tr le_rfl' bb; clear m0 m1 s0 s1 s2 s3 s4 s5 t0 t1 t2 t3 t4 t5; obtain ⟨e1, e2, e3⟩ := HK.out _ B; have m0 := cellOf e1 0; have m1 := cellOf e1 1; have s0 := cellOf e2 0; have t0 := cellOf e3 0; have s1 := cellOf e2 1; have t1 := cellOf e3 1; have s2 := cellOf e2 2; have t2 := cellOf e3 2; have s3 := cellOf e2 3; have t3 := cellOf e3 3; have s4 := cellOf e2 4; have t4 := cellOf e3 4; have s5 := cellOf e2 5; have t5 := cellOf e3 5; simp at m0 m1 s0 s1 s2 s3 s4 s5 t0 t1 t2 t3 t4 t5; clear e1 e2 e3) | (go_at_call 13; (with_reducible refine (h13 _ _).mono ?_); rintro r w' ⟨rfl, hw'⟩; have hw2 := hw'.symm; subst hw2))
    all_goals go_ret
    all_goals exact ⟨rfl, HB.out.tr le_rfl' B⟩
  have hst : s = t := Decidable.not_not.1 hst
  subst hst
  have hsd : (s != s) = false := by simp
  go_upto_region 10 with (first | (go_at_call 8; (with_reducible refine (h8 _ B).mono ?_); rintro r w1 (⟨rfl, bb⟩ | ⟨rfl, hsm, bb⟩) <;> (have B := B.tr le_rfl' bb; clear m0 m1 s0 s1 s2 s3 s4 s5 t0 t1 t2 t3 t4 t5; obtain ⟨e1, e2, e3⟩ := HK.out _ B; have m0 := cellOf e1 0; have m1 := cellOf e1 1; have s0 := cellOf e2 0; have t0 := cellOf e3 0; have s1 := cellOf e2 1; have t1 := cellOf e3 1; have s2 := cellOf e2 2; have t2 := cellOf e3 2; have s3 := cellOf e2 3; have t3 := cellOf e3 3; have s4 := cellOf e2 4; have t4 := cellOf e3 4; have s5 := cellOf e2 5; have t5 := cellOf e3 5; simp at m0 m1 s0 s1 s2 s3 s4 s5 t0 t1 t2 t3 t4 t5; clear e1 e2 e3)) | (go_at_call 9; (with_reducible refine (h9a _ B).mono ?_); rintro r w2 ⟨rfl, bb⟩; have B := B.tr le_rfl' bb; clear m0 m1 s0 s1 s2 s3 s4 s5 t0 t1 t2 t3 t4 t5; obtain ⟨e1, e2, e3⟩ := HK.out _ B; have m0 := cellOf e1 0; have m1 := cellOf e1 1; have s0 := cellOf e2 0; have t0 := cellOf e3 0; have s1 := cellOf e2 1; have t1 := cellOf e3 1; have s2 := cellOf e2 2; have t2 := cellOf e3 2; have s3 := cellOf e2 3; have t3 := cellOf e3 3; have s4 := cellOf e2 4; have t4 := cellOf e3 4; have s5 := cellOf e2 5; have t5 := cellOf e3 5; simp at m0 m1 s0 s1 s2 s3 s4 s5 t0 t1 t2 t3 t4 t5; clear e1 e2 e3) | (go_at_call 9; (with_reducible refine (h9b _ B).mono ?_); rintro r w3 ⟨rfl, bb⟩; have B := B.tr le_rfl' bb; clear m0 m1 s0 s1 s2 s3 s4 s5 t0 t1 t2 t3 t4 t5; obtain ⟨e1, e2, e3⟩ := HK.out _ B; have m0 := cellOf e1 0; have m1 := cellOf e1 1; have s0 := cellOf e2 0; have t0 := cellOf e3 0; have s1 := cellOf e2 1; have t1 := cellOf e3 1; have s2 := cellOf e2 2; have t2 := cellOf e3 2; have s3 := cellOf e2 3; have t3 := cellOf e3 3; have s4 := cellOf e2 4; have t4 := cellOf e3 4; have s5 := cellOf e2 5; have t5 := cellOf e3 5; simp at m0 m1 s0 s1 s2 s3 s4 s5 t0 t1 t2 t3 t4 t5; clear e1 e2 e3) | (go_at_call 10; (with_reducible refine (h10 _ B).mono ?_); rintro r u3 ⟨rfl, bb⟩; have B := B.tr le_rfl' bb) | (go_at_call 11; (with_reducible refine (h11a hsm _ B).mono ?_); rintro r u4 ⟨rfl, bb⟩; have B := B.tr le_rfl' bb; clear m0 m1 s0 s1 s2 s3 s4 s5 t0 t1 t2 t3 t4 t5; obtain ⟨e1, e2, e3⟩ := HK.out _ B; have m0 := cellOf e1 0; have m1 := cellOf e1 1; have s0 := cellOf e2 0; have t0 := cellOf e3 0; have s1 := cellOf e2 1; have t1 := cellOf e3 1; have s2 := cellOf e2 2; have t2 := cellOf e3 2; have s3 := cellOf e2 3; have t3 := cellOf e3 3; have s4 := cellOf e2 4; have t4 := cellOf e3 4; have s5 := cellOf e2 5; have t5 := cellOf e3 5; simp at m0 m1 s0 s1 s2 s3 s4 s5 t0 t1 t2 t3 t4 t5; clear e1 e2 e3) | (go_at_call 11; (with_reducible refine (h11b hsm _ B).mono ?_); rintro r u5 ⟨rfl, bb⟩; have B := B.tr le_rfl' bb; clear m0 m1 s0 s1 s2 s3 s4 s5 t0 t1 t2 t3 t4 t5; obtain ⟨e1, e2, e3⟩ := HK.out _ B; have m0 := cellOf e1 0; have m1 := cellOf e1 1; have s0 := cellOf e2 0; have t0 := cellOf e3 0; have s1 := cellOf e2 1; have t1 := cellOf e3 1; have s2 := cellOf e2 2; have t2 := cellOf e3 2; have s3 := cellOf e2 3; have t3 := cellOf e3 3; have s4 := cellOf e2 4; have t4 := cellOf e3 4; have s5 := cellOf e2 5; have t5 := cellOf e3 5; simp at m0 m1 s0 s1 s2 s3 s4 s5 t0 t1 t2 t3 t4 t5; clear e1 e2 e3) | (go_at_call 21; (with_reducible refine (h21a hsm _ B).mono ?_); rintro r u6 ⟨rfl, bb⟩; have B := B.tr le_rfl' bb; clear m0 m1 s0 s1 s2 s3 s4 s5 t0 t1 t2 t3 t4 t5; obtain ⟨e1, e2, e3⟩ := HK.out _ B; have m0 := cellOf e1 0; have m1 := cellOf e1 1; have s0 := cellOf e2 0; have t0 := cellOf e3 0; have s1 := cellOf e2 1; have t1 := cellOf e3 1; have s2 := cellOf e2 2; have t2 := cellOf e3 2; have s3 := cellOf e2 3; have t3 := cellOf e3 3; have s4 := cellOf e2 4; have t4 := cellOf e3 4; have s5 := cellOf e2 5; have t5 := cellOf e3 5; simp at m0 m1 s0 s1 s2 s3 s4 s5 t0 t1 t2 t3 t4 t5; clear e1 e2 e3) | (go_at_call 21; (with_reducible refine (h21b hsm _ B).mono ?_); rintro r u7 ⟨rfl, bb⟩; have B := B.tr le_rfl' bb; clear m0 m1 s0 s1 s2 s3 s4 s5 t0 t1 t2 t3 t4 t5; obtain ⟨e1, e2, e3⟩ := HK.out _ B; have m0 := cellOf e1 0; have m1 := cellOf e1 1; have s0 := cellOf e2 0; have t0 := cellOf e3 0; have s1 := cellOf e2 1; have t1 := cellOf e3 1; have s2 := cellOf e2 2; have t2 := cellOf e3 2; have s3 := cellOf e2 3; have t3 := cellOf e3 3; have s4 := cellOf e2 4; have t4 := cellOf e3 4; have s5 := cellOf e2 5; have t5 := cellOf e3 5; simp at m0 m1 s0 s1 s2 s3 s4 s5 t0 t1 t2 t3 t4 t5; clear e1 e2 e3) | (go_at_call 13; (with_reducible refine (h13 _ _).mono ?_); rintro r w' ⟨rfl, hw'⟩; have hw2 := hw'.symm; subst hw2))
  · go_ret
    exact ⟨rfl, HB.out.tr le_rfl' B⟩
  have q0 : (u7.alloc (.cells #[.int .i64 op1, .string mon1, .string name1, .int .i64 n1, .slice ad1 kids1.length cap1, .int .i64 pos1, .int .i64 op2, .string mon2, .string name2, .int .i64 n2, .slice ad2 kids2.length cap2, .int .i64 pos2] 28)).heap[u7.heap.size]? = some (.cells #[.int .i64 op1, .string mon1, .string name1, .int .i64 n1, .slice ad1 kids1.length cap1, .int .i64 pos1, .int .i64 op2, .string mon2, .string name2, .int .i64 n2, .slice ad2 kids2.length cap2, .int .i64 pos2] 28 (0, 0)) := heapAt9 _ rfl
  have B := B.al le_rfl' (.cells #[.int .i64 op1, .string mon1, .string name1, .int .i64 n1, .slice ad1 kids1.length cap1, .int .i64 pos1, .int .i64 op2, .string mon2, .string name2, .int .i64 n2, .slice ad2 kids2.length cap2, .int .i64 pos2] 28)
  obtain ⟨W2, hW2⟩ : ∃ W2, u7.alloc (.cells #[.int .i64 op1, .string mon1, .string name1, .int .i64 n1, .slice ad1 kids1.length cap1, .int .i64 pos1, .int .i64 op2, .string mon2, .string name2, .int .i64 n2, .slice ad2 kids2.length cap2, .int .i64 pos2] 28) = W2 := ⟨_, rfl⟩
  obtain ⟨Q, hQ⟩ : ∃ Q, u7.heap.size = Q := ⟨_, rfl⟩
  rw [hW2] at q0 B ⊢
  rw [hQ] at q0 ⊢
  clear hW2 hQ
  clear m0 m1 s0 s1 s2 s3 s4 s5 t0 t1 t2 t3 t4 t5
  obtain ⟨e1, e2, e3⟩ := HK.out _ B
  have m0 := cellOf e1 0
  have m1 := cellOf e1 1
  have s0 := cellOf e2 0
  have t0 := cellOf e3 0
  have s1 := cellOf e2 1
  have t1 := cellOf e3 1
  have s2 := cellOf e2 2
  have t2 := cellOf e3 2
  have s3 := cellOf e2 3
  have t3 := cellOf e3 3
  have s4 := cellOf e2 4
  have t4 := cellOf e3 4
  have s5 := cellOf e2 5
  have t5 := cellOf e3 5
  simp at m0 m1 s0 s1 s2 s3 s4 s5 t0 t1 t2 t3 t4 t5
  clear e1 e2 e3
  have HB2 := hid (HB.out.tr le_rfl' B)
  have hPr : ∀ (op : Int), I64 op → ∀ V, Below W2.heap.size W2 V → Calls Tryd.prog 14 #[.agg #[.slice pad pml pmc, .slice prd prl prc], .agg #[.int .i64 op, .string ⟨#[]⟩, .string ⟨#[]⟩, .int .i64 0, .slice (some ⟨Q, 0, none⟩) 2 2, .int .i64 0], .slice vad vs.length vcap] V fun r w' => r = .returned (.bool (trF p (pairE op Q a0 b0) vs)) ∧ Below V.heap.size V w' := fun op ho V hV => by
    have hlt : Q < W2.heap.size := (Array.getElem?_eq_some_iff.1 q0).1
    have h1 := HB2.out.tr le_rfl' hV
    have h2 := HN.out hsm (pairE op Q a0 b0) V h1 (pairE_is ho (by rw [HA0.out, HB0.out]; exact (hV.block _ hlt).trans q0) (by have := hV.size; omega) ((HIa.out V h1).mono h1.size) ((HIb.out V h1).mono h1.size))
    rw [HPV.out] at h2
    exact h2
  rcases hTA with h5 | h5
  · subst h5
    have HLO2 := hid (HLO.out (by trivial) rfl Q)
    have HNO2 := hid (HNO.out rfl)
    have k16 := hPr 16 ⟨by decide, by decide⟩
    have k17 := hPr 17 ⟨by decide, by decide⟩
    have k5 : ∀ V, Below W2.heap.size W2 V → Calls Tryd.prog 14 #[.agg #[.slice pad pml pmc, .slice prd prl prc], .agg #[.int .i64 5, .string ⟨#[]⟩, .string ⟨#[]⟩, .int .i64 0, .slice (some ⟨V.heap.size, 0, none⟩) 1 1, .int .i64 0], .slice vad vs.length vcap] (V.alloc (.cells #[.int .i64 op1, .string mon1, .string name1, .int .i64 n1, .slice ad1 kids1.length cap1, .int .i64 pos1] 28)) fun r w' => r = .returned (.bool (x == 0)) ∧ Below V.heap.size V w' := fun V hV => by
      have hb := (Below.refl V.heap.size V).al le_rfl' (.cells #[.int .i64 op1, .string mon1, .string name1, .int .i64 n1, .slice ad1 kids1.length cap1, .int .i64 pos1] 28)
      have h1 := HB2.out.tr le_rfl' (hV.tr le_rfl' hb)
      have h2 := HN.out hsm (notE V.heap.size a0) (V.alloc (.cells #[.int .i64 op1, .string mon1, .string name1, .int .i64 n1, .slice ad1 kids1.length cap1, .int .i64 pos1] 28)) h1 (not_is (by rw [HA0.out]; exact heapAt9 _ rfl) (by simp) ((HIa.out _ h1).mono h1.size))
      rw [HPV.out, HNO2.out V.heap.size] at h2
      refine h2.mono ?_
      rintro r w' ⟨rfl, h3⟩
      exact ⟨rfl, hb.trans (h3.mono (by simp))⟩
    have HBx : Hid ((x != 0) = !(x == 0)) := by show _ = _; rfl
    clear hPr HTR HLO HNO HN HPV HIa HIb HA0 HB0 q0 h8 h9a h9b h11a h11b h21a h21b
    simp only [HLO2.out.1] at k16
    simp only [HLO2.out.2] at k17
    clear HLO2 HNO2
    obtain ⟨bx, hbx⟩ : ∃ b, (x == 0) = b := ⟨_, rfl⟩
    obtain ⟨bw, hbw⟩ : ∃ b, (y == 0) = b := ⟨_, rfl⟩
    have hbx2 : (x != 0) = !bx := by rw [← hbx]; rfl
    have hbw2 : (y != 0) = !bw := by rw [← hbw]; rfl
    simp only [hbx2, hbw2] at k16 k17
    simp only [hbx] at k5
    clear HBx
    have HK2 := hid (fun W (hW : Below W2.heap.size W2 W) => HK.out W (B.tr le_rfl' hW))
    have h10 : ∀ W, Below W2.heap.size W2 W → _ := fun W hW => h10 W (B.tr le_rfl' hW)
    have HB := HB2
    have HK : Hid (∀ W, Below W2.heap.size W2 W → _) := HK2
    clear HB2 HK2 B
    have HS2 : Hid (∀ W, Below W2.heap.size W2 W → W.cell? ⟨w.heap.size, 0, none⟩ = some (.slice pad pml pmc) ∧ W.cell? ⟨w.heap.size, 1, none⟩ = some (.slice prd prl prc)) := fun W hW => ⟨cellOf (HK.out W hW).1 0, cellOf (HK.out W hW).1 1⟩
    cases bx <;> cases bw
    all_goals
      simp only [Bool.not_false, Bool.not_true, Bool.and_true, Bool.and_false, Bool.or_true, Bool.or_false] at k16 k17 hbx2 hbw2
      have B : Below W2.heap.size W2 W2.drew := below_drewV (Below.refl _ _)
      go_wp2_with fail
      go_region_held3 (fun W => W.cell? ⟨w.heap.size, 0, none⟩ = some (.slice pad pml pmc) ∧ W.cell? ⟨w.heap.size, 1, none⟩ = some (.slice prd prl prc)) (exact HS2.out _ B) (first | (go_at_call 14; (with_reducible refine (k16 _ B).mono ?_); rintro r v1 ⟨rfl, bb⟩; have B := B.tr le_rfl' bb) | (go_at_call 14; (with_reducible refine (k17 _ B).mono ?_); rintro r v1 ⟨rfl, bb⟩; have B := B.tr le_rfl' bb))
    all_goals
      clear m0 m1 s0 s1 s2 s3 s4 s5 t0 t1 t2 t3 t4 t5
      obtain ⟨e1, e2, e3⟩ := HK.out _ B
      have m0 := cellOf e1 0
      have m1 := cellOf e1 1
      have s0 := cellOf e2 0
      have t0 := cellOf e3 0
      have s1 := cellOf e2 1
      have t1 := cellOf e3 1
      have s2 := cellOf e2 2
      have t2 := cellOf e3 2
      have s3 := cellOf e2 3
      have t3 := cellOf e3 3
      have s4 := cellOf e2 4
      have t4 := cellOf e3 4
      have s5 := cellOf e2 5
      have t5 := cellOf e3 5
      simp at m0 m1 s0 s1 s2 s3 s4 s5 t0 t1 t2 t3 t4 t5
      clear e1 e2 e3
      go_wp2_with (first | (go_at_call 14; (with_reducible refine (k5 _ B).mono ?_); rintro r v1 ⟨rfl, bb⟩; have B := B.tr le_rfl' bb) | (go_at_call 10; (with_reducible refine (h10 _ B).mono ?_); rintro r u3 ⟨rfl, bb⟩; have B := B.tr le_rfl' bb))
      go_ret
      exact ⟨rfl, HB.out.tr le_rfl' B⟩
  · subst h5
    have HTR2 := hid (fun op => HTR.out (by trivial) rfl op Q)
    have k10 := hPr 10 ⟨by decide, by decide⟩
    have o10 : trF p (pairE 10 Q a0 b0) vs = (x == y) := (HTR2.out 10 (by decide) (by decide)).trans rfl
    simp only [o10] at k10
    clear o10
    have k11 := hPr 11 ⟨by decide, by decide⟩
    have o11 : trF p (pairE 11 Q a0 b0) vs = (!(x == y)) := (HTR2.out 11 (by decide) (by decide)).trans rfl
    simp only [o11] at k11
    clear o11
    have k12 := hPr 12 ⟨by decide, by decide⟩
    have o12 : trF p (pairE 12 Q a0 b0) vs = (decide (x < y)) := (HTR2.out 12 (by decide) (by decide)).trans rfl
    simp only [o12] at k12
    clear o12
    have k13 := hPr 13 ⟨by decide, by decide⟩
    have o13 : trF p (pairE 13 Q a0 b0) vs = (decide (x ≤ y)) := (HTR2.out 13 (by decide) (by decide)).trans rfl
    simp only [o13] at k13
    clear o13
    have k14 := hPr 14 ⟨by decide, by decide⟩
    have o14 : trF p (pairE 14 Q a0 b0) vs = (!(decide (x ≤ y))) := (HTR2.out 14 (by decide) (by decide)).trans (by show decide (y < x) = !(decide (x ≤ y)); by_cases h : x ≤ y <;> simp [h] <;> omega)
    simp only [o14] at k14
    clear o14
    have k15 := hPr 15 ⟨by decide, by decide⟩
    have o15 : trF p (pairE 15 Q a0 b0) vs = (!(decide (x < y))) := (HTR2.out 15 (by decide) (by decide)).trans (by show decide (y ≤ x) = !(decide (x < y)); by_cases h : x < y <;> simp [h] <;> omega)
    simp only [o15] at k15
    clear o15
    clear hPr HTR HTR2 HLO HNO HN HPV HIa HIb HA0 HB0 q0 h8 h9a h9b h11a h11b h21a h21b
    obtain ⟨e1, he1⟩ : ∃ b, (x == y) = b := ⟨_, rfl⟩
    obtain ⟨e2, he2⟩ : ∃ b, decide (x < y) = b := ⟨_, rfl⟩
    obtain ⟨e3, he3⟩ : ∃ b, decide (x ≤ y) = b := ⟨_, rfl⟩
    simp only [he1] at k10 k11
    simp only [he2] at k12 k15
    simp only [he3] at k13 k14
    clear he1 he3
    go_wp2_with fail
    have hz3 : (W2.alloc (.cells #[.int .i64 10, .int .i64 11, .int .i64 12, .int .i64 15, .int .i64 13, .int .i64 14] 3)).heap[W2.heap.size]? = some (.cells #[.int .i64 10, .int .i64 11, .int .i64 12, .int .i64 15, .int .i64 13, .int .i64 14] 3 (0, 0)) := heapAt9 _ rfl
    have b3 := (Below.refl W2.heap.size W2).al le_rfl' (.cells #[.int .i64 10, .int .i64 11, .int .i64 12, .int .i64 15, .int .i64 13, .int .i64 14] 3)
    obtain ⟨W3, hW3⟩ : ∃ W3, W2.alloc (.cells #[.int .i64 10, .int .i64 11, .int .i64 12, .int .i64 15, .int .i64 13, .int .i64 14] 3) = W3 := ⟨_, rfl⟩
    obtain ⟨R, hR⟩ : ∃ R, W2.heap.size = R := ⟨_, rfl⟩
    rw [hW3] at hz3 b3 ⊢
    have B := B.tr le_rfl' b3
    rw [hR] at hz3 ⊢
    have HR := hid hR
    clear hW3 hR
    have HK3 : Hid (∀ W, Below W3.heap.size W3 W → W.cell? ⟨w.heap.size, 0, none⟩ = some (.slice pad pml pmc) ∧ W.cell? ⟨w.heap.size, 1, none⟩ = some (.slice prd prl prc) ∧ W.cell? ⟨R, 0, none⟩ = some (.int .i64 10) ∧ W.cell? ⟨R, 1, none⟩ = some (.int .i64 11) ∧ W.cell? ⟨R, 2, none⟩ = some (.int .i64 12) ∧ W.cell? ⟨R, 3, none⟩ = some (.int .i64 15) ∧ W.cell? ⟨R, 4, none⟩ = some (.int .i64 13) ∧ W.cell? ⟨R, 5, none⟩ = some (.int .i64 14)) := fun W hW => by
      have h1 := (HK.out W (B.tr le_rfl' hW)).1
      have h2 := (hW.block _ (Array.getElem?_eq_some_iff.1 hz3).1).trans hz3
      exact ⟨cellOf h1 0, cellOf h1 1, cellOf h2 0, cellOf h2 1, cellOf h2 2, cellOf h2 3, cellOf h2 4, cellOf h2 5⟩
    have h10 : ∀ W, Below W3.heap.size W3 W → _ := fun W hW => h10 W (B.tr le_rfl' hW)
    have k10 : ∀ W, Below W3.heap.size W3 W → _ := fun W hW => k10 W (b3.tr le_rfl' hW)
    have k11 : ∀ W, Below W3.heap.size W3 W → _ := fun W hW => k11 W (b3.tr le_rfl' hW)
    have k12 : ∀ W, Below W3.heap.size W3 W → _ := fun W hW => k12 W (b3.tr le_rfl' hW)
    have k13 : ∀ W, Below W3.heap.size W3 W → _ := fun W hW => k13 W (b3.tr le_rfl' hW)
    have k14 : ∀ W, Below W3.heap.size W3 W → _ := fun W hW => k14 W (b3.tr le_rfl' hW)
    have k15 : ∀ W, Below W3.heap.size W3 W → _ := fun W hW => k15 W (b3.tr le_rfl' hW)
    have HB3 := hid (HB2.out.tr le_rfl' b3)
    clear m0 m1 s0 s1 s2 s3 s4 s5 t0 t1 t2 t3 t4 t5
    clear B b3 hz3 HK HB HB2 HR hsm
    go_loopw [21] (fun i wr => (i = .int .i64 0 ∨ i = .int .i64 2 ∨ i = .int .i64 4 ∨ i = .int .i64 6) ∧ Below W3.heap.size W3 wr)
      (fun i _ => 6 - (intOf i).toNat)
    case atStart => exact ⟨.inl rfl, Below.refl _ _⟩
    case round =>
      obtain ⟨hi, hbr⟩ := hrel
      rcases hi with rfl | rfl | rfl | rfl
      · cases e1
        all_goals
          simp only [Bool.not_false, Bool.not_true] at k11
          have B : Below W3.heap.size W3 wr.drew := below_drewV hbr
          obtain ⟨m0, m1, c0, c1, c2, c3, c4, c5⟩ := HK3.out _ hbr
          have hwr : IntKind.i64.wrap (0 + 1) = 0 + 1 := by kernel_rfl
          have hwr2 : IntKind.i64.wrap 1 = 1 := by kernel_rfl
          go_wp2_with fail
          go_region_held3 (fun W => W.cell? ⟨w.heap.size, 0, none⟩ = some (.slice pad pml pmc) ∧ W.cell? ⟨w.heap.size, 1, none⟩ = some (.slice prd prl prc) ∧ W.cell? ⟨R, 0, none⟩ = some (.int .i64 10) ∧ W.cell? ⟨R, 1, none⟩ = some (.int .i64 11) ∧ W.cell? ⟨R, 2, none⟩ = some (.int .i64 12) ∧ W.cell? ⟨R, 3, none⟩ = some (.int .i64 15) ∧ W.cell? ⟨R, 4, none⟩ = some (.int .i64 13) ∧ W.cell? ⟨R, 5, none⟩ = some (.int .i64 14)) (exact HK3.out _ B) (first | (go_at_call 14; (with_reducible refine (k10 _ B).mono ?_); rintro r v1 ⟨rfl, bb⟩; have B := B.tr le_rfl' bb) | (go_at_call 14; (with_reducible refine (k11 _ B).mono ?_); rintro r v1 ⟨rfl, bb⟩; have B := B.tr le_rfl' bb))
        all_goals go_wp2
        all_goals go_roundw
        all_goals first | exact ⟨.inr ((.inl rfl)), B⟩ | exact ⟨.inr (.inr (.inr rfl)), B⟩ | (simp [intOf])
      · cases e2
        all_goals
          simp only [Bool.not_false, Bool.not_true] at k15
          have B : Below W3.heap.size W3 wr.drew := below_drewV hbr
          obtain ⟨m0, m1, c0, c1, c2, c3, c4, c5⟩ := HK3.out _ hbr
          have hwr : IntKind.i64.wrap (2 + 1) = 2 + 1 := by kernel_rfl
          have hwr2 : IntKind.i64.wrap 3 = 3 := by kernel_rfl
          go_wp2_with fail
          go_region_held3 (fun W => W.cell? ⟨w.heap.size, 0, none⟩ = some (.slice pad pml pmc) ∧ W.cell? ⟨w.heap.size, 1, none⟩ = some (.slice prd prl prc) ∧ W.cell? ⟨R, 0, none⟩ = some (.int .i64 10) ∧ W.cell? ⟨R, 1, none⟩ = some (.int .i64 11) ∧ W.cell? ⟨R, 2, none⟩ = some (.int .i64 12) ∧ W.cell? ⟨R, 3, none⟩ = some (.int .i64 15) ∧ W.cell? ⟨R, 4, none⟩ = some (.int .i64 13) ∧ W.cell? ⟨R, 5, none⟩ = some (.int .i64 14)) (exact HK3.out _ B) (first | (go_at_call 14; (with_reducible refine (k12 _ B).mono ?_); rintro r v1 ⟨rfl, bb⟩; have B := B.tr le_rfl' bb) | (go_at_call 14; (with_reducible refine (k15 _ B).mono ?_); rintro r v1 ⟨rfl, bb⟩; have B := B.tr le_rfl' bb))
        all_goals go_wp2
        all_goals go_roundw
        all_goals first | exact ⟨.inr (.inr (.inl rfl)), B⟩ | exact ⟨.inr (.inr (.inr rfl)), B⟩ | (simp [intOf])
      · cases e3
        all_goals
          simp only [Bool.not_false, Bool.not_true] at k14
          have B : Below W3.heap.size W3 wr.drew := below_drewV hbr
          obtain ⟨m0, m1, c0, c1, c2, c3, c4, c5⟩ := HK3.out _ hbr
          have hwr : IntKind.i64.wrap (4 + 1) = 4 + 1 := by kernel_rfl
          have hwr2 : IntKind.i64.wrap 5 = 5 := by kernel_rfl
          go_wp2_with fail
          go_region_held3 (fun W => W.cell? ⟨w.heap.size, 0, none⟩ = some (.slice pad pml pmc) ∧ W.cell? ⟨w.heap.size, 1, none⟩ = some (.slice prd prl prc) ∧ W.cell? ⟨R, 0, none⟩ = some (.int .i64 10) ∧ W.cell? ⟨R, 1, none⟩ = some (.int .i64 11) ∧ W.cell? ⟨R, 2, none⟩ = some (.int .i64 12) ∧ W.cell? ⟨R, 3, none⟩ = some (.int .i64 15) ∧ W.cell? ⟨R, 4, none⟩ = some (.int .i64 13) ∧ W.cell? ⟨R, 5, none⟩ = some (.int .i64 14)) (exact HK3.out _ B) (first | (go_at_call 14; (with_reducible refine (k13 _ B).mono ?_); rintro r v1 ⟨rfl, bb⟩; have B := B.tr le_rfl' bb) | (go_at_call 14; (with_reducible refine (k14 _ B).mono ?_); rintro r v1 ⟨rfl, bb⟩; have B := B.tr le_rfl' bb))
        all_goals go_wp2
        all_goals go_roundw
        all_goals first | exact ⟨.inr (.inr .inr (.inl rfl)), B⟩ | exact ⟨.inr (.inr (.inr rfl)), B⟩ | (simp [intOf])
      · obtain ⟨m0, m1, c0, c1, c2, c3, c4, c5⟩ := HK3.out _ hbr
        have B := hbr
        cases e2
        · have hxy : ¬ x < y := of_decide_eq_false he2
          go_wp2_with (first | (go_at_call 14; (with_reducible refine (k12 _ B).mono ?_); rintro r v1 ⟨rfl, bb⟩; have B := B.tr le_rfl' bb; obtain ⟨m0, m1, c0, c1, c2, c3, c4, c5⟩ := HK3.out _ B) | (go_at_call 10; (with_reducible refine (h10 _ B).mono ?_); rintro r u3 ⟨rfl, bb⟩; have B := B.tr le_rfl' bb))
          go_ret
          exact ⟨rfl, HB3.out.tr le_rfl' B⟩
        · have hxy : x < y := of_decide_eq_true he2
          go_wp2_with (first | (go_at_call 14; (with_reducible refine (k12 _ B).mono ?_); rintro r v1 ⟨rfl, bb⟩; have B := B.tr le_rfl' bb; obtain ⟨m0, m1, c0, c1, c2, c3, c4, c5⟩ := HK3.out _ B) | (go_at_call 10; (with_reducible refine (h10 _ B).mono ?_); rintro r u3 ⟨rfl, bb⟩; have B := B.tr le_rfl' bb))
          go_ret
          exact ⟨rfl, HB3.out.tr le_rfl' B⟩
end Go.Proofs.YtopiceoofdlkbaaDoor
