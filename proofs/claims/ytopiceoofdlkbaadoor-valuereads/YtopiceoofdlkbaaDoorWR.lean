/-
  The statement ValueReads: its walk.
-/
import Derived.Test.YtopiceoofdlkbaaDoorWG
import Derived.Test.YtopiceoofdlkbaaDoorWT
import Derived.Test.YtopiceoofdlkbaaDoorRdA
namespace Go.Proofs.YtopiceoofdlkbaaDoor
open Go.RowKit
theorem vsum_small (l : List Mo) (h1 : l.length ≤ 20) (h2 : ∀ m ∈ l, m.vars.length ≤ 40) : vsum l ≤ 1000000 := by
  have h : vsum l ≤ 40 * l.length := by
    clear h1
    induction l with
    | nil => exact Nat.le_refl _
    | cons m r ih =>
      have h3 := ih (fun x hx => h2 x (List.mem_cons_of_mem _ hx))
      have h4 := h2 m (List.mem_cons_self ..)
      rw [vsum, List.map_cons, List.sum_cons, List.length_cons]
      unfold vsum at h3
      omega
  omega
/-- Small, as a choice. -/
theorem small_or (n₀ : Nat) (p : Pr) (w : World) (hn : n₀ ≤ w.heap.size) (hp : p.Is n₀ w) :
    Calls Tryd.prog 8 #[p.val, .int .i64 300] w fun r w' => (r = .returned (.bool false) ∧ Below w.heap.size w w') ∨ (r = .returned (.bool true) ∧ vsum p.mons ≤ 1000000 ∧ Below w.heap.size w w') :=
  (small_any n₀ p w hn hp).mono fun r w' ⟨c, h1, h2, h3⟩ => by
    cases c
    · exact .inl ⟨h1, h3⟩
    · exact .inr ⟨h1, vsum_small _ (h2 rfl).2.1 (h2 rfl).2.2, h3⟩
theorem tero_none {l : List Mo} {e : Ex} : e.tero l = none ↔ e.ok = true ∧ e.ter l = none := by
  rw [Ex.tero]
  split
  · rename_i h; simp [h]
  · rename_i h; simp [h]
theorem evF_cases (p : Pr) (e : Ex) (vs : List Int) :
    (∃ c a, e.tero p.mons = some (c, a) ∧ evF p e vs = (0, c) ∧ (c = 20 ∨ c = 61 ∨ c = 70)) ∨ (e.tero p.mons = none ∧ vs.length ≠ vsum p.mons ∧ evF p e vs = (0, 2)) ∨ (e.tero p.mons = none ∧ vs.length = vsum p.mons ∧ ∃ x, e.rk p.mons vs = some x ∧ evF p e vs = (x, 0)) ∨ (e.tero p.mons = none ∧ vs.length = vsum p.mons ∧ e.rk p.mons vs = none ∧ evF p e vs = (0, 110)) := by
  unfold evF
  rcases ht : e.tero p.mons with _ | ⟨c, a⟩
  · right
    by_cases hl : vs.length = vsum p.mons
    · right
      rcases hr : e.rk p.mons vs with _ | x
      · right; exact ⟨rfl, hl, rfl, by simp [hl]⟩
      · left; exact ⟨rfl, hl, x, rfl, by simp [hl]⟩
    · left; exact ⟨rfl, hl, by simp [hl]⟩
  · left
    refine ⟨c, a, rfl, rfl, ?_⟩
    rw [Ex.tero] at ht
    split at ht
    · rcases Ex.ter_pos p.mons e c a ht with h | h
      · exact .inr (.inl h)
      · exact .inr (.inr h)
    · cases ht; exact .inl rfl
theorem varTy_two {l : List Mo} {mon name : ByteArray} {t : Int} (h : varTy l mon name = some t) : t = 1 ∨ t = 2 := by
  rcases hs : slotIx l mon name with _ | s
  · rw [varTy_none hs] at h; cases h
  · obtain ⟨t', h1, h2⟩ := varTy_some hs
    rw [h] at h1; cases h1; exact h2
theorem is_two {l : List Mo} {e : Ex} (h : e.tero l = none) : e.is l = 1 ∨ e.is l = 2 := by
  rcases e with ⟨op, mon, name, n, ad, cap, kids, pos⟩
  rw [tero_none] at h
  have h2 := h.2
  rw [Ex.ter_mk] at h2
  rw [Ex.is]
  split
  · rename_i h4
    rw [if_pos h4] at h2
    cases hv : varTy l mon name with
    | none => rw [hv] at h2; cases h2
    | some t => exact varTy_two hv
  · unfold opIs
    split
    · exact .inr rfl
    · exact .inl rfl
/-- Two expressions joined; their row lies in block q. -/
def pairE (op : Int) (q : Nat) (a b : Ex) : Ex := .mk op ⟨#[]⟩ ⟨#[]⟩ 0 (some ⟨q, 0, none⟩) 2 [a, b] 0
theorem pair_ok1 (op : Int) (q : Nat) (a b : Ex) (h1 : 8 ≤ op) (h2 : op ≤ 17) : (pairE op q a b).ok1 = true := by
  have hc : op = 8 ∨ op = 9 ∨ op = 10 ∨ op = 11 ∨ op = 12 ∨ op = 13 ∨ op = 14 ∨ op = 15 ∨ op = 16 ∨ op = 17 := by omega
  rcases hc with rfl | rfl | rfl | rfl | rfl | rfl | rfl | rfl | rfl | rfl <;> rfl
theorem pair_ok (op : Int) (q : Nat) (a b : Ex) (h1 : 8 ≤ op) (h2 : op ≤ 17) : (pairE op q a b).ok = (a.ok && b.ok) := by
  have h1 := pair_ok1 op q a b h1 h2
  unfold pairE at h1 ⊢
  rw [Ex.ok, Ex.subs_mk, List.all_cons, h1, Bool.true_and, Ex.subsL_eq, List.all_flatMap]
  simp [Ex.ok]
theorem pair_tero (l : List Mo) (op : Int) (q : Nat) (a b : Ex) (h1 : 8 ≤ op) (h2 : op ≤ 17) (ha : a.tero l = none) (hb : b.tero l = none) (hw : a.is l = wantOf l op [a, b] ∧ b.is l = wantOf l op [a, b]) : (pairE op q a b).tero l = none := by
  rw [tero_none] at ha hb ⊢
  refine ⟨by rw [pair_ok op q a b h1 h2, ha.1, hb.1]; rfl, ?_⟩
  unfold pairE
  rw [Ex.ter_mk, if_neg (by omega), Ex.terL, Ex.terL, Ex.terL, Option.or_none, ha.2, hb.2]
  simp only [Option.none_or]
  rw [misfit_none]
  intro k hk
  simp only [List.mem_cons, List.not_mem_nil, or_false] at hk
  rcases hk with rfl | rfl
  · exact hw.1
  · exact hw.2
theorem pair_rk (l : List Mo) (vs : List Int) (op : Int) (q : Nat) (a b : Ex) (h1 : 8 ≤ op) (h2 : op ≤ 17) : (pairE op q a b).rk l vs = (a.rk l vs).bind fun x => perF op x (b.rk l vs) := by
  unfold pairE
  rw [Ex.rk_mk, rkOp, if_neg (by omega), if_neg (by omega), if_neg (by omega), if_neg (by omega), kidO_rk l vs [a, b] 0 (by simp), kidO_rk l vs [a, b] 1 (by simp)]
  congr 1
  funext x
  rw [unF, if_neg (by omega), if_neg (by omega), if_neg (by omega)]
  rfl
/-- The opposite of an expression; its row lies in block q. -/
def notE (q : Nat) (a : Ex) : Ex := .mk 5 ⟨#[]⟩ ⟨#[]⟩ 0 (some ⟨q, 0, none⟩) 1 [a] 0
theorem not_ok (q : Nat) (a : Ex) : (notE q a).ok = a.ok := by
  have h1 : (notE q a).ok1 = true := rfl
  unfold notE at h1 ⊢
  rw [Ex.ok, Ex.subs_mk, List.all_cons, h1, Bool.true_and, Ex.subsL_eq, List.all_flatMap]
  simp [Ex.ok]
theorem not_tero (l : List Mo) (q : Nat) (a : Ex) (ha : a.tero l = none) (hw : a.is l = 1) : (notE q a).tero l = none := by
  rw [tero_none] at ha ⊢
  refine ⟨by rw [not_ok, ha.1], ?_⟩
  unfold notE
  rw [Ex.ter_mk, if_neg (by omega), Ex.terL, Ex.terL, Option.or_none, ha.2]
  simp only [Option.none_or]
  rw [misfit_none]
  intro k hk
  simp only [List.mem_cons, List.not_mem_nil, or_false] at hk
  subst hk
  exact hw
theorem not_rk (l : List Mo) (vs : List Int) (q : Nat) (a : Ex) : (notE q a).rk l vs = (a.rk l vs).bind fun x => some (bitF (x == 0)) := by
  unfold notE
  rw [Ex.rk_mk, rkOp, if_neg (by omega), if_neg (by omega), if_neg (by omega), if_neg (by omega), kidO_rk l vs [a] 0 (by simp)]
  rfl
theorem not_is {W : World} {n b : Nat} {a : Ex} (h : W.heap[b]? = some (.cells a.cells.toArray 28 (0, 0))) (hb : b < n) (h1 : a.Is n W) : (notE b a).Is n W := Ex.Is.up ⟨⟨⟨by decide, by decide⟩, i64_zero, i64_zero, len0, len0⟩, ⟨by simp, by unfold maxLen; simp, .inr ⟨b, 0, rfl, hb, fun j hj i hi => by
    rw [Nat.zero_add, cellOf h]
    have hj2 : j < 1 := by simpa using hj
    rcases a with ⟨a1, a2, a3, a4, a5, a6, a7, a8⟩
    rcases j with _ | j
    · rcases i with _ | _ | _ | _ | _ | _ | i <;> first | rfl | omega
    · omega⟩⟩, fun x hx => by
      simp only [List.mem_cons, List.not_mem_nil, or_false] at hx
      subst hx
      exact h1⟩
theorem pairE_is {W : World} {n b : Nat} {op : Int} {k1 k2 : Ex} (ho : I64 op) (h : W.heap[b]? = some (.cells (k1.cells ++ k2.cells).toArray 28 (0, 0))) (hb : b < n) (h1 : k1.Is n W) (h2 : k2.Is n W) : (pairE op b k1 k2).Is n W := two_is ho h hb h1 h2
def zeroE : Ex := .mk 1 ⟨#[]⟩ ⟨#[]⟩ 0 none 0 [] 0
theorem zeroE_is (n : Nat) (W : World) : zeroE.Is n W := Ex.Is.up ⟨⟨⟨by decide, by decide⟩, i64_zero, i64_zero, len0, len0⟩, ⟨by simp, by unfold maxLen; simp, .inl rfl⟩, fun x hx => by cases hx⟩
theorem zeroE_tero (l : List Mo) : zeroE.tero l = none := by kernel_rfl
theorem zeroE_of (l : List Mo) : zeroE.is l = 2 := by kernel_rfl
/-- What is around a fault is one. -/
theorem not_fault {p : Pr} {vs : List Int} {q : Nat} {e : Ex} (h1 : e.tero p.mons = none) (h2 : vs.length = vsum p.mons) (h3 : e.rk p.mons vs = none) (h4 : e.is p.mons = 1) : evF p (notE q e) vs = (0, 110) ∧ trF p (notE q e) vs = false := by
  have h : evF p (notE q e) vs = (0, 110) := by
    rw [evF, not_tero p.mons q e h1 h4]
    simp only [if_pos h2]
    rw [not_rk, h3]; rfl
  exact ⟨h, by rw [trF, h]; rfl⟩
theorem eq_fault {p : Pr} {vs : List Int} {q : Nat} {e : Ex} (h1 : e.tero p.mons = none) (h2 : vs.length = vsum p.mons) (h3 : e.rk p.mons vs = none) (h4 : e.is p.mons = 2) : evF p (pairE 10 q e zeroE) vs = (0, 110) ∧ trF p (pairE 10 q e zeroE) vs = false := by
  have h : evF p (pairE 10 q e zeroE) vs = (0, 110) := by
    rw [evF, pair_tero p.mons 10 q e zeroE (by omega) (by omega) h1 (zeroE_tero _) ⟨by simp [wantOf, opWant], by rw [zeroE_of]; simp [wantOf, opWant, h4]⟩]
    simp only [if_pos h2]
    rw [pair_rk _ _ _ _ _ _ (by omega) (by omega), h3]; rfl
  exact ⟨h, by rw [trF, h]; rfl⟩
end Go.Proofs.YtopiceoofdlkbaaDoor
namespace Go.Proofs.YtopiceoofdlkbaaDoor
open Go.RowKit
def strC (p : ByteArray × ByteArray) : List Value := [.string (vname p)]
theorem strC_len (p : ByteArray × ByteArray) : (strC p).length = 1 := rfl
theorem map_strC (l : List (ByteArray × ByteArray)) : (l.map fun p => Value.string (vname p)) = l.flatMap strC := by
  induction l with
  | nil => rfl
  | cons a l ih => rw [List.map_cons, List.flatMap_cons, ih]; rfl
theorem slSomeZ {α : Type} {size : Nat} {cells : α → List Value} {n : Nat} {W : World} {ad : Option Addr} {cap : Nat} {l : List α} (h : SlAt size cells n W ad cap l) {k : Nat} (hk : k < l.length) : ∃ b off, ad = some ⟨b, off, none⟩ ∧ b < n ∧ RowAt size cells W b off l := by
  rcases h.2.2 with h | ⟨b, off, h1, h2, h3⟩
  · subst h; simp at hk
  · exact ⟨b, off, h1, h2, h3⟩
theorem slotsUni {f : FuncId} {args : Array Value} {l : List Mo} {w : World} (h : Calls Tryd.prog f args w fun r w' => SlotsBack l w w' r) : Calls Tryd.prog f args w fun r w' => ∃ ad cap, r = .returned (.slice ad (vsum l) cap) ∧ vsum l ≤ cap ∧ Below w.heap.size w w' :=
  h.mono fun r w' ⟨v, h1, h2, h3⟩ => by
    obtain ⟨ad, cp, rfl, h4⟩ := slOwn Va.len h2
    rw [allV_len] at h1
    have h5 := h4.1
    rw [allV_len] at h5
    exact ⟨ad, cp, h1, h5, h3⟩
/-- What stands for each variable, in the order of the places. -/
def slotT (l : List Mo) : List ByteArray := l.flatMap fun m => m.vars.map fun v => vname (m.name, v.name)
theorem slotT_at (l : List Mo) (i : Nat) (hi : i < l.length) (k : Nat) (hk : k < l[i].vars.length) : (slotT l)[k + vsum (l.take i)]? = some (vname (l[i].name, l[i].vars[k].name)) := by
  induction l generalizing i with
  | nil => simp at hi
  | cons m l ih => cases i with
    | zero =>
      have hk' : k < m.vars.length := by simpa using hk
      simp [slotT, vsum, List.getElem?_append_left, hk']
    | succ i =>
      have hi' : i < l.length := by simpa using hi
      have hk' : k < l[i].vars.length := by simpa using hk
      have h1 : vsum ((m :: l).take (i + 1)) = m.vars.length + vsum (l.take i) := by simp [vsum]
      have h2 : slotT (m :: l) = (m.vars.map fun v => vname (m.name, v.name)) ++ slotT l := by simp [slotT]
      rw [h1, h2, List.getElem?_append_right (by rw [List.length_map]; omega), List.length_map, show k + (m.vars.length + vsum (l.take i)) - m.vars.length = k + vsum (l.take i) by omega, ih i hi' hk']
      simp
theorem slotT_ix {l : List Mo} {mon name : ByteArray} {s : Nat} (h : slotIx l mon name = some s) : (slotT l)[s]? = some (vname (mon, name)) := by
  obtain ⟨i, hi, k, hk, rfl, h1, h2⟩ := slotIx_parts h
  rw [slotT_at l i hi k hk]
  rw [monIx, List.findIdx?_eq_some_iff_getElem] at h1
  rw [List.findIdx?_eq_some_iff_getElem] at h2
  obtain ⟨_, h1, _⟩ := h1
  obtain ⟨_, h2, _⟩ := h2
  rw [of_decide_eq_true h1, of_decide_eq_true h2]
/-- What has been put so far. -/
def MixD (T names : List ByteArray) (vs M : List Int) (c : Nat) : Prop := M.length = vs.length ∧ (∀ x ∈ M, I64 x) ∧ ∀ s, s < c → ∀ t, T[s]? = some t → t ∈ names → M[s]? = vs[s]?
theorem MixD.put {T names : List ByteArray} {vs M : List Int} {c : Nat} (h : MixD T names vs M c) (hvi : ∀ x ∈ vs, I64 x) (hc : c < vs.length) : MixD T names vs (M.set c vs[c]) c ∧ (M.set c vs[c])[c]? = vs[c]? := by
  obtain ⟨h1, h2, h3⟩ := h
  refine ⟨⟨by rw [List.length_set, h1], fun x hx => ?_, fun s hs t ht hm => ?_⟩, ?_⟩
  · rcases List.mem_or_eq_of_mem_set hx with h | rfl
    · exact h2 x h
    · exact hvi _ (List.getElem_mem hc)
  · rw [List.getElem?_set_ne (by omega)]
    exact h3 s hs t ht hm
  · rw [List.getElem?_set_self (by omega), List.getElem?_eq_getElem hc]
theorem MixD.next {T names : List ByteArray} {vs M : List Int} {c : Nat} {t : ByteArray} (h : MixD T names vs M c) (h1 : T[c]? = some t) (h2 : t ∈ names → M[c]? = vs[c]?) : MixD T names vs M (c + 1) := by
  refine ⟨h.1, h.2.1, fun s hs u hu hm => ?_⟩
  by_cases hsc : s = c
  · subst hsc
    rw [h1] at hu
    cases hu
    exact h2 hm
  · exact h.2.2 s (by omega) u hu hm
theorem mixD_start (T names : List ByteArray) {vs os : List Int} (h : os.length = vs.length) (hi : ∀ x ∈ os, I64 x) : MixD T names vs os 0 := ⟨h, hi, fun s hs => by omega⟩
theorem rkOp_sv (a b op n : Int) (ks : List (Option Int)) (h : op = 4 → a = b) : rkOp a op n ks = rkOp b op n ks := by
  unfold rkOp
  by_cases h4 : op = 4
  · rw [h h4]
  · rw [if_neg h4, if_neg h4]
theorem rk_same (l : List Mo) (vs M : List Int) (e : Ex) : (∀ op mon name n ad cap kids pos, Ex.mk op mon name n ad cap kids pos ∈ e.subs → op = 4 → slotV l vs mon name = slotV l M mon name) → e.rk l vs = e.rk l M := by
  induction e using Ex.ind with
  | h op mon name n ad cap kids pos ih =>
    intro H
    rw [Ex.rk_mk, Ex.rk_mk, Ex.rkL_eq, Ex.rkL_eq]
    have hk : kids.map (Ex.rk l vs) = kids.map (Ex.rk l M) := by
      refine List.map_congr_left fun x hx => ih x hx fun op' mon' name' n' ad' cap' kids' pos' hm h4 => ?_
      refine H op' mon' name' n' ad' cap' kids' pos' ?_ h4
      rw [Ex.subs_mk, Ex.subsL_eq]
      exact List.mem_cons_of_mem _ (List.mem_flatMap.2 ⟨x, hx, hm⟩)
    rw [hk]
    exact rkOp_sv _ _ _ _ _ fun h4 => H op mon name n ad cap kids pos (by rw [Ex.subs_mk]; exact List.mem_cons_self ..) h4
theorem vstep_keep {S : List (ByteArray × ByteArray)} {p : ByteArray × ByteArray} (x : Ex) (h : p ∈ S) : p ∈ vstep S x := by
  rcases x with ⟨op, mon, name, _, _, _, _, _⟩
  by_cases hc : op = 4 ∧ (mon, name) ∉ S
  · rw [vstep_yes hc]; exact List.mem_append_left _ h
  · rw [vstep_no hc]; exact h
theorem vfold_keep {p : ByteArray × ByteArray} (l : List Ex) : ∀ S, p ∈ S → p ∈ l.foldl vstep S := by
  induction l with
  | nil => exact fun _ h => h
  | cons x l ih => exact fun S h => ih _ (vstep_keep x h)
theorem vfold_has {mon name : ByteArray} {n : Int} {ad : Option Addr} {cap : Nat} {kids : List Ex} {pos : Int} (l : List Ex) : ∀ S, Ex.mk 4 mon name n ad cap kids pos ∈ l → (mon, name) ∈ l.foldl vstep S := by
  induction l with
  | nil => intro _ h; cases h
  | cons x l ih =>
    intro S h
    rcases List.mem_cons.1 h with rfl | h
    · refine vfold_keep l _ ?_
      by_cases hm : (mon, name) ∈ S
      · exact vstep_keep _ hm
      · rw [vstep_yes ⟨rfl, hm⟩]; exact List.mem_append_right _ (List.mem_cons_self ..)
    · exact ih _ h
theorem evF_mix {p : Pr} {e : Ex} {vs M : List Int} {c : Nat} (h : MixD (slotT p.mons) ((varsOf e.subs).map vname) vs M c) (hc : c = vsum p.mons) : evF p e M = evF p e vs := by
  subst hc
  have hr : e.rk p.mons vs = e.rk p.mons M := rk_same p.mons vs M e fun op mon name n ad cap kids pos hm h4 => by
    subst h4
    unfold slotV
    rcases hs : slotIx p.mons mon name with _ | s
    · rfl
    · have h1 := h.2.2 s (slotIx_lt hs) _ (slotT_ix hs) (List.mem_map.2 ⟨_, vfold_has _ [] hm, rfl⟩)
      simp only [Option.bind_some, h1]
  unfold evF
  rw [h.1, hr]
/-- A number put into a row of numbers that is owned. -/
theorem own_put2 {W : World} {base k cp : Nat} {ad : Option Addr} {vs : List Int} (h : W.ownsRow base 2 1 (.slice ad k cp) vs.length (vs.flatMap iv)) {s : Nat} (hs : s < vs.length) : ∃ g, ad = some ⟨g, 0, none⟩ ∧ base ≤ g ∧ g < W.heap.size ∧ W.cell? ⟨g, s, none⟩ = some (.int .i64 vs[s]) ∧ W.frozen? ⟨g, s, none⟩ = false ∧
    ∀ n : Int, (W.setCell ⟨g, s, none⟩ (.int .i64 n)).ownsRow base 2 1 (.slice (some ⟨g, 0, none⟩) k cp) (vs.set s n).length ((vs.set s n).flatMap iv) ∧ W.grownBy (W.setCell ⟨g, s, none⟩ (.int .i64 n)) (some g) := by
  obtain ⟨g, cp', e, h1, h2, h3, h4, h5, h6⟩ := own_put h hs
  injection e with e1 e2 e3
  subst e1 e2 e3
  exact ⟨g, rfl, h1, h2, h4, h5, h6⟩
end Go.Proofs.YtopiceoofdlkbaaDoor
namespace Go.Proofs.YtopiceoofdlkbaaDoor
open Go.RowKit
theorem EvBack.one {f : FuncId} {args : Array Value} {v : Int × Int} {w : World} (h : Calls Tryd.prog f args w fun r w' => EvBack v w w' r) : Calls Tryd.prog f args w fun r w' => r = .returned (.tuple #[.int .i64 v.1, .int .i64 v.2]) ∧ Below w.heap.size w w' :=
  h.mono fun _ _ hh => ⟨hh.1, hh.2.2⟩
theorem SlAt.go {α : Type} {size : Nat} {cells : α → List Value} {W W' : World} {ad : Option Addr} {cap : Nat} {l : List α} (h : SlAt size cells W.heap.size W ad cap l) (hb : Below W.heap.size W W') : SlAt size cells W'.heap.size W' ad cap l := (h.below hb).mono hb.size
set_option maxRecDepth 100000 in
set_option maxHeartbeats 32000000 in
theorem valueReads_walk (p : Pr) (e : Ex) (vs : List Int) (xad : Option Addr) (xcap : Nat) (os : List Int) (oad : Option Addr) (ocap : Nat) (w : World) (hS : Shapes w) (hp : p.Is w.heap.size w) (he : e.Is w.heap.size w) (hV : SlAt 1 iv w.heap.size w xad xcap vs) (hvi : ∀ x ∈ vs, I64 x) (hO : SlAt 1 iv w.heap.size w oad ocap os) (hoi : ∀ x ∈ os, I64 x) :
    Calls Tryd.prog 6 #[p.val, e.val, .slice xad vs.length xcap, .slice oad os.length ocap] w fun r w' => r = .returned (.bool true) ∧ Below w.heap.size w w' := by
  have hs3 := hS.size
  have hv1 := hV.1; have hv2 := hV.2.1
  have ho1 := hO.1; have ho2 := hO.2.1
  unfold maxLen at hv2 ho2
  obtain ⟨i0, hi, iz0, iz1, iz2⟩ := info_parts info2
  have h8 : ∀ W, Below w.heap.size w W → Calls Tryd.prog 8 #[p.val, .int .i64 300] W fun r w' => (r = .returned (.bool false) ∧ Below W.heap.size W w') ∨ (r = .returned (.bool true) ∧ vsum p.mons ≤ 1000000 ∧ Below W.heap.size W w') := fun W hW => small_or w.heap.size p W hW.size (hp.below hW)
  have h9 : ∀ W, Below w.heap.size w W → Calls Tryd.prog 9 #[e.val, .int .i64 300] W fun r w' => r = .returned (.int .i64 (restE e 300)) ∧ Below W.heap.size W w' := fun W hW => restExpr_any w.heap.size e 300 W (by omega) (by omega) hW.size (he.below hW)
  have h10 : ∀ W, Below w.heap.size w W → Calls Tryd.prog 10 #[] W fun r w' => r = .returned (.bool true) ∧ Below W.heap.size W w' := fun W hW => live_any W (hS.below hW hs3)
  have h13 := num_any
  have h11 : vsum p.mons ≤ 1000000 → ∀ W, Below w.heap.size w W → Calls Tryd.prog 11 #[p.val, e.val, .slice xad vs.length xcap] W _ := fun hv W hW => EvBack.one (eval_any p hv e vs hvi xad xcap w.heap.size W hW.size (hp.below hW) (he.below hW) (hV.below hW) (hS.below hW hs3))
  have h22 : vsum p.mons ≤ 1000000 → ∀ W, Below w.heap.size w W → Calls Tryd.prog 22 #[p.val] W _ := fun hv W hW => slotsUni (refSlots_any p w.heap.size W hW.size (hp.below hW) hv)
  have H23 : Hid (0 ≤ restE e 300 → ∀ W, Below w.heap.size w W → Calls Tryd.prog 23 #[e.val] W fun r w' => ∃ v, r = .returned v ∧ w'.ownsRow W.heap.size 9 1 v (varsOf e.subs).length ((varsOf e.subs).map fun p => .string (vname p)) ∧ Below W.heap.size W w') := fun hr W hW => reads_any e w.heap.size W hW.size (he.below hW) (by have := rest_count e 300 hr; omega)
  have HLL : Hid (0 ≤ restE e 300 → (varsOf e.subs).length ≤ 1000000) := fun hr => by
    have h1 := rest_count e 300 hr
    have h2 := varsOf_len e.subs
    omega
  have HM : Hid (vsum p.mons ≤ 1000000 → ∀ M c, MixD (slotT p.mons) ((varsOf e.subs).map vname) vs M c → c = vsum p.mons → ∀ W ad cp k, Below w.heap.size w W → SlAt 1 iv W.heap.size W ad cp M → M.length = k → Calls Tryd.prog 11 #[p.val, e.val, .slice ad k cp] W fun r w' => r = .returned (.tuple #[.int .i64 (evF p e vs).1, .int .i64 (evF p e vs).2]) ∧ Below W.heap.size W w') := fun hv M c hm hc W ad cp k hW hs hk => by
    subst hk
    have h := EvBack.one (eval_any p hv e M hm.2.1 ad cp W.heap.size W (Nat.le_refl _) ((hp.below hW).mono hW.size) ((he.below hW).mono hW.size) hs (hS.below hW hs3))
    rw [evF_mix hm hc] at h
    exact h
  have HO : Hid (∀ W, Below w.heap.size w W → SlAt 1 iv w.heap.size W oad ocap os) := fun W hW => hO.below hW
  have HV := hid hV
  have HVI := hid hvi
  have HOI := hid hoi
  obtain ⟨rs, hrs⟩ : ∃ rs, restE e 300 = rs := ⟨_, rfl⟩
  obtain ⟨L, hL⟩ : ∃ L, varsOf e.subs = L := ⟨_, rfl⟩
  obtain ⟨x, hx⟩ : ∃ x, (evF p e vs).1 = x := ⟨_, rfl⟩
  obtain ⟨ec, hec⟩ : ∃ c, (evF p e vs).2 = c := ⟨_, rfl⟩
  simp only [hrs] at h9 HLL H23
  simp only [hL] at HLL H23 HM
  simp only [hx, hec] at h11 HM
  clear hrs hL hx hec hS he hV hvi hO hoi
  rcases p with ⟨mad, mcap, mons, rad, rcap, roles⟩
  rcases e with ⟨op, emon, ename, en, ead, ecap, ekids, epos⟩
  obtain ⟨⟨h3, h4⟩, -⟩ := hp
  simp only [Pr.val, Ex.val, Ex.cells] at h3 h4 h8 h9 h11 h22 H23 HM ⊢
  have hml1 := h3.1; have hml2 := h3.2.1
  unfold maxLen at hml2
  obtain ⟨NV, hNV⟩ : ∃ n, vsum mons = n := ⟨_, rfl⟩
  simp only [hNV] at h8 h11 h22 HM
  have HNV := hid hNV
  clear hNV
  go_enter Tryd.func6, Tryd.ntmps6
  go_upto_region 1 with fail
  obtain ⟨bP, bE, B, hz⟩ := two_box w #[.slice mad mons.length mcap, .slice rad roles.length rcap] #[.int .i64 op, .string emon, .string ename, .int .i64 en, .slice ead ekids.length ecap, .int .i64 epos] 25 28
  obtain ⟨W0, hW0⟩ : ∃ W0, (w.alloc (.cells #[.slice mad mons.length mcap, .slice rad roles.length rcap] 25)).alloc (.cells #[.int .i64 op, .string emon, .string ename, .int .i64 en, .slice ead ekids.length ecap, .int .i64 epos] 28) = W0 := ⟨_, rfl⟩
  rw [hW0] at bP bE B hz ⊢
  clear hW0
  have HK : Hid (∀ W, Below W0.heap.size W0 W → W.heap[w.heap.size]? = some (.cells #[.slice mad mons.length mcap, .slice rad roles.length rcap] 25 (0, 0)) ∧ W.heap[w.heap.size + 1]? = some (.cells #[.int .i64 op, .string emon, .string ename, .int .i64 en, .slice ead ekids.length ecap, .int .i64 epos] 28 (0, 0))) := fun W hW => ⟨(hW.block _ (by omega)).trans bP, (hW.block _ (by omega)).trans bE⟩
  have HB := hid B
  clear B
  have h8 : ∀ W, Below W0.heap.size W0 W → _ := fun W hW => h8 W (HB.out.tr le_rfl' hW)
  have h9 : ∀ W, Below W0.heap.size W0 W → _ := fun W hW => h9 W (HB.out.tr le_rfl' hW)
  have HL10 := hid h10
  have h10 : ∀ W, Below W0.heap.size W0 W → _ := fun W hW => h10 W (HB.out.tr le_rfl' hW)
  have HL11 := hid h11
  clear h11
  have h22 : _ → ∀ W, Below W0.heap.size W0 W → _ := fun hv W hW => h22 hv W (HB.out.tr le_rfl' hW)
  have B := Below.refl W0.heap.size W0
  obtain ⟨e1, e2⟩ := HK.out _ B
  have m0 := cellOf e1 0
  have m1 := cellOf e1 1
  have s0 := cellOf e2 0
  have s1 := cellOf e2 1
  have s2 := cellOf e2 2
  have s3 := cellOf e2 3
  have s4 := cellOf e2 4
  have s5 := cellOf e2 5
  simp at m0 m1 s0 s1 s2 s3 s4 s5
  clear e1 e2
  clear hz bP bE
  by_cases hr : rs < 0
  · have hrd : decide (rs < 0) = true := decide_eq_true hr
    go_wp2_with (first | (go_at_call 8; (with_reducible refine (h8 _ B).mono ?_); rintro r w1 (⟨rfl, bb⟩ | ⟨rfl, hsm, bb⟩) <;> (have B := B.tr le_rfl' bb; clear m0 m1 s0 s1 s2 s3 s4 s5; obtain ⟨e1, e2⟩ := HK.out _ B; have m0 := cellOf e1 0; have m1 := cellOf e1 1; have s0 := cellOf e2 0; have s1 := cellOf e2 1; have s2 := cellOf e2 2; have s3 := cellOf e2 3; have s4 := cellOf e2 4; have s5 := cellOf e2 5; simp at m0 m1 s0 s1 s2 s3 s4 s5; clear e1 e2)) | (go_at_call 9; (with_reducible refine (h9 _ B).mono ?_); rintro r w2 ⟨rfl, bb⟩; have B := B.tr le_rfl' bb; clear m0 m1 s0 s1 s2 s3 s4 s5; obtain ⟨e1, e2⟩ := HK.out _ B; have m0 := cellOf e1 0; have m1 := cellOf e1 1; have s0 := cellOf e2 0; have s1 := cellOf e2 1; have s2 := cellOf e2 2; have s3 := cellOf e2 3; have s4 := cellOf e2 4; have s5 := cellOf e2 5; simp at m0 m1 s0 s1 s2 s3 s4 s5; clear e1 e2) | (go_at_call 10; (with_reducible refine (h10 _ B).mono ?_); rintro r u9 ⟨rfl, bb⟩; have B := B.tr le_rfl' bb) | (go_at_call 22; (with_reducible refine (h22 hsm _ B).mono ?_); rintro r w4 ⟨sad, scp, rfl, hsc, bb⟩; have B := B.tr le_rfl' bb; clear m0 m1 s0 s1 s2 s3 s4 s5; obtain ⟨e1, e2⟩ := HK.out _ B; have m0 := cellOf e1 0; have m1 := cellOf e1 1; have s0 := cellOf e2 0; have s1 := cellOf e2 1; have s2 := cellOf e2 2; have s3 := cellOf e2 3; have s4 := cellOf e2 4; have s5 := cellOf e2 5; simp at m0 m1 s0 s1 s2 s3 s4 s5; clear e1 e2))
    all_goals go_ret
    all_goals exact ⟨rfl, HB.out.tr le_rfl' B⟩
  have hrd : decide (rs < 0) = false := decide_eq_false hr
  by_cases hl : 400 < vs.length
  · have hld : decide ((400 : Int) < (vs.length : Int)) = true := by simp; omega
    go_wp2_with (first | (go_at_call 8; (with_reducible refine (h8 _ B).mono ?_); rintro r w1 (⟨rfl, bb⟩ | ⟨rfl, hsm, bb⟩) <;> (have B := B.tr le_rfl' bb; clear m0 m1 s0 s1 s2 s3 s4 s5; obtain ⟨e1, e2⟩ := HK.out _ B; have m0 := cellOf e1 0; have m1 := cellOf e1 1; have s0 := cellOf e2 0; have s1 := cellOf e2 1; have s2 := cellOf e2 2; have s3 := cellOf e2 3; have s4 := cellOf e2 4; have s5 := cellOf e2 5; simp at m0 m1 s0 s1 s2 s3 s4 s5; clear e1 e2)) | (go_at_call 9; (with_reducible refine (h9 _ B).mono ?_); rintro r w2 ⟨rfl, bb⟩; have B := B.tr le_rfl' bb; clear m0 m1 s0 s1 s2 s3 s4 s5; obtain ⟨e1, e2⟩ := HK.out _ B; have m0 := cellOf e1 0; have m1 := cellOf e1 1; have s0 := cellOf e2 0; have s1 := cellOf e2 1; have s2 := cellOf e2 2; have s3 := cellOf e2 3; have s4 := cellOf e2 4; have s5 := cellOf e2 5; simp at m0 m1 s0 s1 s2 s3 s4 s5; clear e1 e2) | (go_at_call 10; (with_reducible refine (h10 _ B).mono ?_); rintro r u9 ⟨rfl, bb⟩; have B := B.tr le_rfl' bb) | (go_at_call 22; (with_reducible refine (h22 hsm _ B).mono ?_); rintro r w4 ⟨sad, scp, rfl, hsc, bb⟩; have B := B.tr le_rfl' bb; clear m0 m1 s0 s1 s2 s3 s4 s5; obtain ⟨e1, e2⟩ := HK.out _ B; have m0 := cellOf e1 0; have m1 := cellOf e1 1; have s0 := cellOf e2 0; have s1 := cellOf e2 1; have s2 := cellOf e2 2; have s3 := cellOf e2 3; have s4 := cellOf e2 4; have s5 := cellOf e2 5; simp at m0 m1 s0 s1 s2 s3 s4 s5; clear e1 e2))
    all_goals go_ret
    all_goals exact ⟨rfl, HB.out.tr le_rfl' B⟩
  have hld : decide ((400 : Int) < (vs.length : Int)) = false := by simp; omega
  have hl' : ¬ 400 < vs.length := hl
  by_cases hq : ¬ os.length = vs.length
  · have hqd : ((os.length : Int) != (vs.length : Int)) = true := by rw [bne_iff_ne]; omega
    clear hq
    go_wp2_with (first | (go_at_call 8; (with_reducible refine (h8 _ B).mono ?_); rintro r w1 (⟨rfl, bb⟩ | ⟨rfl, hsm, bb⟩) <;> (have B := B.tr le_rfl' bb; clear m0 m1 s0 s1 s2 s3 s4 s5; obtain ⟨e1, e2⟩ := HK.out _ B; have m0 := cellOf e1 0; have m1 := cellOf e1 1; have s0 := cellOf e2 0; have s1 := cellOf e2 1; have s2 := cellOf e2 2; have s3 := cellOf e2 3; have s4 := cellOf e2 4; have s5 := cellOf e2 5; simp at m0 m1 s0 s1 s2 s3 s4 s5; clear e1 e2)) | (go_at_call 9; (with_reducible refine (h9 _ B).mono ?_); rintro r w2 ⟨rfl, bb⟩; have B := B.tr le_rfl' bb; clear m0 m1 s0 s1 s2 s3 s4 s5; obtain ⟨e1, e2⟩ := HK.out _ B; have m0 := cellOf e1 0; have m1 := cellOf e1 1; have s0 := cellOf e2 0; have s1 := cellOf e2 1; have s2 := cellOf e2 2; have s3 := cellOf e2 3; have s4 := cellOf e2 4; have s5 := cellOf e2 5; simp at m0 m1 s0 s1 s2 s3 s4 s5; clear e1 e2) | (go_at_call 10; (with_reducible refine (h10 _ B).mono ?_); rintro r u9 ⟨rfl, bb⟩; have B := B.tr le_rfl' bb) | (go_at_call 22; (with_reducible refine (h22 hsm _ B).mono ?_); rintro r w4 ⟨sad, scp, rfl, hsc, bb⟩; have B := B.tr le_rfl' bb; clear m0 m1 s0 s1 s2 s3 s4 s5; obtain ⟨e1, e2⟩ := HK.out _ B; have m0 := cellOf e1 0; have m1 := cellOf e1 1; have s0 := cellOf e2 0; have s1 := cellOf e2 1; have s2 := cellOf e2 2; have s3 := cellOf e2 3; have s4 := cellOf e2 4; have s5 := cellOf e2 5; simp at m0 m1 s0 s1 s2 s3 s4 s5; clear e1 e2))
    all_goals go_ret
    all_goals exact ⟨rfl, HB.out.tr le_rfl' B⟩
  replace hq := Decidable.not_not.1 hq
  have hol : os.length ≤ 400 := by omega
  have HQ := hid hq
  have hqd : ((os.length : Int) != (vs.length : Int)) = false := by rw [hq]; simp
  clear hq
  by_cases hn : ¬ vs.length = NV
  · have hnd : ((vs.length : Int) != (NV : Int)) = true := by rw [bne_iff_ne]; omega
    clear hn
    go_wp2_with (first | (go_at_call 8; (with_reducible refine (h8 _ B).mono ?_); rintro r w1 (⟨rfl, bb⟩ | ⟨rfl, hsm, bb⟩) <;> (have B := B.tr le_rfl' bb; clear m0 m1 s0 s1 s2 s3 s4 s5; obtain ⟨e1, e2⟩ := HK.out _ B; have m0 := cellOf e1 0; have m1 := cellOf e1 1; have s0 := cellOf e2 0; have s1 := cellOf e2 1; have s2 := cellOf e2 2; have s3 := cellOf e2 3; have s4 := cellOf e2 4; have s5 := cellOf e2 5; simp at m0 m1 s0 s1 s2 s3 s4 s5; clear e1 e2)) | (go_at_call 9; (with_reducible refine (h9 _ B).mono ?_); rintro r w2 ⟨rfl, bb⟩; have B := B.tr le_rfl' bb; clear m0 m1 s0 s1 s2 s3 s4 s5; obtain ⟨e1, e2⟩ := HK.out _ B; have m0 := cellOf e1 0; have m1 := cellOf e1 1; have s0 := cellOf e2 0; have s1 := cellOf e2 1; have s2 := cellOf e2 2; have s3 := cellOf e2 3; have s4 := cellOf e2 4; have s5 := cellOf e2 5; simp at m0 m1 s0 s1 s2 s3 s4 s5; clear e1 e2) | (go_at_call 10; (with_reducible refine (h10 _ B).mono ?_); rintro r u9 ⟨rfl, bb⟩; have B := B.tr le_rfl' bb) | (go_at_call 22; (with_reducible refine (h22 hsm _ B).mono ?_); rintro r w4 ⟨sad, scp, rfl, hsc, bb⟩; have B := B.tr le_rfl' bb; clear m0 m1 s0 s1 s2 s3 s4 s5; obtain ⟨e1, e2⟩ := HK.out _ B; have m0 := cellOf e1 0; have m1 := cellOf e1 1; have s0 := cellOf e2 0; have s1 := cellOf e2 1; have s2 := cellOf e2 2; have s3 := cellOf e2 3; have s4 := cellOf e2 4; have s5 := cellOf e2 5; simp at m0 m1 s0 s1 s2 s3 s4 s5; clear e1 e2))
    all_goals go_ret
    all_goals exact ⟨rfl, HB.out.tr le_rfl' B⟩
  replace hn := Decidable.not_not.1 hn
  have HN := hid hn
  have hnd : ((vs.length : Int) != (NV : Int)) = false := by rw [hn]; simp
  clear hn
  have h23 : ∀ W, Below W0.heap.size W0 W → _ := fun W hW => H23.out (by omega) W (HB.out.tr le_rfl' hW)
  have hLl := HLL.out (by omega)
  clear H23 HLL hr
  go_upto_region 3 with (first | (go_at_call 8; (with_reducible refine (h8 _ B).mono ?_); rintro r w1 (⟨rfl, bb⟩ | ⟨rfl, hsm, bb⟩) <;> (have B := B.tr le_rfl' bb; clear m0 m1 s0 s1 s2 s3 s4 s5; obtain ⟨e1, e2⟩ := HK.out _ B; have m0 := cellOf e1 0; have m1 := cellOf e1 1; have s0 := cellOf e2 0; have s1 := cellOf e2 1; have s2 := cellOf e2 2; have s3 := cellOf e2 3; have s4 := cellOf e2 4; have s5 := cellOf e2 5; simp at m0 m1 s0 s1 s2 s3 s4 s5; clear e1 e2)) | (go_at_call 9; (with_reducible refine (h9 _ B).mono ?_); rintro r w2 ⟨rfl, bb⟩; have B := B.tr le_rfl' bb; clear m0 m1 s0 s1 s2 s3 s4 s5; obtain ⟨e1, e2⟩ := HK.out _ B; have m0 := cellOf e1 0; have m1 := cellOf e1 1; have s0 := cellOf e2 0; have s1 := cellOf e2 1; have s2 := cellOf e2 2; have s3 := cellOf e2 3; have s4 := cellOf e2 4; have s5 := cellOf e2 5; simp at m0 m1 s0 s1 s2 s3 s4 s5; clear e1 e2) | (go_at_call 10; (with_reducible refine (h10 _ B).mono ?_); rintro r u9 ⟨rfl, bb⟩; have B := B.tr le_rfl' bb) | (go_at_call 22; (with_reducible refine (h22 hsm _ B).mono ?_); rintro r w4 ⟨sad, scp, rfl, hsc, bb⟩; have B := B.tr le_rfl' bb; clear m0 m1 s0 s1 s2 s3 s4 s5; obtain ⟨e1, e2⟩ := HK.out _ B; have m0 := cellOf e1 0; have m1 := cellOf e1 1; have s0 := cellOf e2 0; have s1 := cellOf e2 1; have s2 := cellOf e2 2; have s3 := cellOf e2 3; have s4 := cellOf e2 4; have s5 := cellOf e2 5; simp at m0 m1 s0 s1 s2 s3 s4 s5; clear e1 e2))
  · go_ret
    exact ⟨rfl, HB.out.tr le_rfl' B⟩
  clear hsc
  go_wp2_with (first | (go_at_call 23; (with_reducible refine (h23 _ B).mono ?_); rintro r u3 ⟨v8, rfl, hown8, bb⟩; have B := B.tr le_rfl' bb; rw [map_strC] at hown8; obtain ⟨ad8, cp8, rfl, h81, h82, h83⟩ := slOwn2 strC_len hown8; clear hown8) | (at_builtin; have hown0 := World.ownsRow_made (base := u3.heap.size) (e := 2) (size := 1) u3 #[] 0 (Nat.le_refl _) (by unfold maxLen; omega) rfl; have hsl0 := HO.out _ ((HB.out.tr le_rfl' B).al (by have := HB.out.size; have := B.size; omega) (.cells #[] 2)); refine wpList_append_sl (cells := iv) rfl _ _ 29 rfl u3.heap.size 2 i0 _ 1 8 Tryd.underlying29 hi iz0 iz1 iz2 rfl (by decide) iv_len iv_one _ [] rfl hown0 oad ocap os w.heap.size rfl hsl0 (by unfold maxLen; simp; omega) (by simp; omega) (by simp) ?_; intro v5 u5 hown5 hgrow5 _; have C := owns_grown_below ((Below.refl u3.heap.size u3).al le_rfl' (.cells #[] 2)) hown0 hgrow5 (by simp); rw [List.nil_append] at hown5; obtain ⟨adM, cpM, rfl, hsM⟩ := slOwn iv_len hown5; clear hsM hown0 hsl0 hgrow5))
  have HB3 := hid (HB.out.tr le_rfl' B)
  have HK3 : Hid (∀ W, Below u3.heap.size u3 W → W.heap[w.heap.size]? = some (.cells #[.slice mad mons.length mcap, .slice rad roles.length rcap] 25 (0, 0)) ∧ W.heap[w.heap.size + 1]? = some (.cells #[.int .i64 op, .string emon, .string ename, .int .i64 en, .slice ead ekids.length ecap, .int .i64 epos] 28 (0, 0))) := fun W hW => HK.out W (B.tr le_rfl' hW)
  have h10 : ∀ W, Below u3.heap.size u3 W → _ := fun W hW => h10 W (B.tr le_rfl' hW)
  have h11 : ∀ W, Below u3.heap.size u3 W → _ := fun W hW => HL11.out hsm W (HB3.out.tr le_rfl' hW)
  have HM := hid (HM.out hsm)
  unfold maxLen at h82
  clear m0 m1 s0 s1 s2 s3 s4 s5
  clear B HK HB HL10 HL11 h8 h9 h22 h23 HO
  have hwz := HB3.out.size
  obtain ⟨TT, hTT⟩ : ∃ T, slotT mons = T := ⟨_, rfl⟩
  have HTT := hid hTT
  simp only [hTT] at HM
  clear hTT
  go_loopw [11, 12] (fun n i wr => ∃ (ii c : Nat) (M : List Int), ii ≤ mons.length ∧ i = .int .i64 ii ∧ n = .int .i64 (c : Int) ∧ c ≤ 2000000 ∧ Hid (c = vsum (mons.take ii)) ∧ Hid (MixD TT (L.map vname) vs M c) ∧ wr.ownsRow u3.heap.size 2 1 (.slice adM os.length cpM) M.length (M.flatMap iv) ∧ Below u3.heap.size u3 wr)
    (fun _ i _ => mons.length - (intOf i).toNat)
  case atStart => exact ⟨0, 0, os, by omega, rfl, rfl, by omega, by show _ = _; simp [vsum], mixD_start _ _ HQ.out HOI.out, hown5, C⟩
  case round =>
    obtain ⟨ii, c, M, hii, rfl, rfl, hc, HC, HMX, hown, hbw⟩ := hrel
    clear C hown5
    by_cases hlt : ii < mons.length
    case neg =>
      have hjd : decide ((ii : Int) < (mons.length : Int)) = false := by simp; omega
      have hcv : c = NV := by rw [HC.out, List.take_of_length_le (by omega)]; exact HNV.out
      obtain ⟨ad', cp', e', hsM⟩ := slOwn iv_len hown
      injection e' with e1 e2 e3
      subst e1 e3
      have hM := HM.out M c HMX.out hcv
      have HML := hid e2.symm
      clear e2 hcv HC HMX hown
      have hM : ∀ W, Below u3.heap.size u3 W → SlAt 1 iv W.heap.size W adM cpM M → Calls Tryd.prog 11 #[.agg #[.slice mad mons.length mcap, .slice rad roles.length rcap], .agg #[.int .i64 op, .string emon, .string ename, .int .i64 en, .slice ead ekids.length ecap, .int .i64 epos], .slice adM os.length cpM] W _ := fun W hW hs => hM W adM cpM os.length (HB3.out.tr le_rfl' hW) hs HML.out
      have B := hbw
      obtain ⟨e1, e2⟩ := HK3.out _ B
      have m0 := cellOf e1 0
      have m1 := cellOf e1 1
      have s0 := cellOf e2 0
      have s1 := cellOf e2 1
      have s2 := cellOf e2 2
      have s3 := cellOf e2 3
      have s4 := cellOf e2 4
      have s5 := cellOf e2 5
      simp at m0 m1 s0 s1 s2 s3 s4 s5
      clear e1 e2
      go_wp2_with (first | (go_at_call 11; (with_reducible refine (hM _ B hsM).mono ?_); rintro r v2 ⟨rfl, bb⟩; have B := B.tr le_rfl' bb; clear m0 m1 s0 s1 s2 s3 s4 s5) | (go_at_call 11; (with_reducible refine (h11 _ B).mono ?_); rintro r v1 ⟨rfl, bb⟩; have B := B.tr le_rfl' bb; have hsM := hsM.go bb; clear m0 m1 s0 s1 s2 s3 s4 s5; obtain ⟨e1, e2⟩ := HK3.out _ B; have m0 := cellOf e1 0; have m1 := cellOf e1 1; have s0 := cellOf e2 0; have s1 := cellOf e2 1; have s2 := cellOf e2 2; have s3 := cellOf e2 3; have s4 := cellOf e2 4; have s5 := cellOf e2 5; simp at m0 m1 s0 s1 s2 s3 s4 s5; clear e1 e2) | (go_at_call 13; (with_reducible refine (h13 _ _).mono ?_); rintro r w' ⟨rfl, hw'⟩; have hw2 := hw'.symm; subst hw2) | (go_at_call 10; (with_reducible refine (h10 _ B).mono ?_); rintro r u9 ⟨rfl, bb⟩; have B := B.tr le_rfl' bb))
      go_ret
      exact ⟨rfl, HB3.out.tr le_rfl' B⟩
    have hmi : (ii : Int) < (mons.length : Int) := by omega
    obtain ⟨mb, moff, rfl, hmb, hmrow⟩ := slSomeZ h3 hlt
    have hmr := hmrow.below HB3.out hmb
    have hmb2 : mb < u3.heap.size := by omega
    have hIm := (h4 _ (List.getElem_mem hlt))
    obtain ⟨n0, n1, -, -, -⟩ := namesSl (n₀ := w.heap.size) hmr ii hlt
    have hsn := vsum_snoc mons ii hlt
    have hsl := vsum_le mons (ii + 1)
    have HTA0 : ∀ nm vars, mons[ii].name = nm → mons[ii].vars = vars → ∀ k (h : k < vars.length), (slotT mons)[k + vsum (mons.take ii)]? = some (nm ++ ⟨#[46]⟩ ++ vars[k].name) := by
      rintro _ _ rfl rfl k h
      exact slotT_at mons ii hlt k h
    obtain ⟨nm, hnm⟩ : ∃ nm, mons[ii].name = nm := ⟨_, rfl⟩
    obtain ⟨vars, hvars⟩ : ∃ vars, mons[ii].vars = vars := ⟨_, rfl⟩
    obtain ⟨vad, hvad⟩ : ∃ vad, mons[ii].vad = vad := ⟨_, rfl⟩
    obtain ⟨vcap, hvcap⟩ : ∃ vcap, mons[ii].vcap = vcap := ⟨_, rfl⟩
    have HTA := hid (HTA0 nm vars hnm hvars)
    clear HTA0
    have hnl := hIm.1.1
    have hvI := hIm.2.1
    simp only [hnm] at hnl n0
    simp only [hvars, hvad, hvcap] at hvI n1 hsn
    clear hnm hvars hvad hvcap hIm hmr
    have hcv : c + vars.length ≤ NV := by
      have h1 := HC.out; have h2 := HNV.out; omega
    have HSN : Hid (vsum (mons.take (ii + 1)) = c + vars.length) := by show _ = _; rw [hsn, HC.out]
    have HTA2 : Hid (∀ k (h : k < vars.length), TT[k + c]? = some (nm ++ ⟨#[46]⟩ ++ vars[k].name)) := fun k h => by
      rw [← HTT.out, HC.out]; exact HTA.out k h
    clear hsn hsl HC HTA
    have hvl1 := hvI.1.1; have hvl2 := hvI.1.2.1
    unfold maxLen at hvl2
    have HN0 := hid n0
    have HN1 := hid n1
    clear n0 n1
    obtain ⟨m0⟩ : Nonempty (wr.cell? ⟨w.heap.size, 0, none⟩ = some (.slice (some ⟨mb, moff, none⟩) mons.length mcap)) := ⟨cellOf (HK3.out _ hbw).1 0⟩
    go_wp2
    clear m0
    obtain ⟨wo, hwo⟩ : ∃ wo : World, wo = wr := ⟨_, rfl⟩
    subst hwo
    go_loopw [11, 13] (fun n k wr => ∃ (kk d : Nat) (M : List Int), kk ≤ vars.length ∧ k = .int .i64 kk ∧ n = .int .i64 (d : Int) ∧ d ≤ 2000000 ∧ Hid (d = kk + c) ∧ Hid (MixD TT (L.map vname) vs M d) ∧ wr.ownsRow u3.heap.size 2 1 (.slice adM os.length cpM) M.length (M.flatMap iv) ∧ Below u3.heap.size u3 wr)
      (fun _ k _ => vars.length - (intOf k).toNat)
    case atStart => exact ⟨0, c, M, by omega, rfl, rfl, by omega, by show _ = _; omega, HMX.out, hown, hbw⟩
    case round =>
      obtain ⟨kk, d, M1, hkk, rfl, rfl, hd, HD, HMX1, hown1, hbk⟩ := hrel
      have hzk := hbk.size
      have hkF := HB3.out.tr le_rfl' hbk
      have m0 : wr.cell? ⟨w.heap.size, 0, none⟩ = some (.slice (some ⟨mb, moff, none⟩) mons.length mcap) := cellOf (HK3.out _ hbk).1 0
      have n0 := (hbk.cell (p := ⟨mb, _, none⟩) hmb2).trans HN0.out
      have n1 := (hbk.cell (p := ⟨mb, _, none⟩) hmb2).trans HN1.out
      by_cases hlk : kk < vars.length
      case neg =>
        have hkd : decide ((kk : Int) < (vars.length : Int)) = false := by simp; omega
        go_wp2
        go_roundw
        case rel => exact ⟨ii + 1, d, M1, by omega, by go_num, rfl, hd, (by show _ = _; rw [HSN.out, HD.out]; omega), HMX1.out, hown1, hbk⟩
        case measure => simp [intOf]; omega
      have hki : (kk : Int) < (vars.length : Int) := by omega
      obtain ⟨vb, voff, rfl, hvb, hvrow⟩ := slSomeZ hvI.1 hlk
      have hvr := hvrow.below HB3.out hvb
      have hvb2 : vb < u3.heap.size := by omega
      have d0 := hvr kk hlk 0 (by omega)
      have hTD := HTA2.out kk hlk
      rw [← HD.out] at hTD
      obtain ⟨vn, hvn⟩ : ∃ vn, vars[kk].name = vn := ⟨_, rfl⟩
      have e0 : (Va.cells vars[kk])[0]? = some (.string vn) := by rw [← hvn]; rfl
      rw [e0] at d0
      simp only [Nat.add_zero] at d0
      have hvln : Len vn := by rw [← hvn]; exact (hvI.2 _ (List.getElem_mem hlk)).1
      rw [hvn] at hTD
      have HTD := hid hTD
      have hnl2 := hnl
      unfold Len at hvln hnl2
      clear e0 hvn hTD hvr
      have HD0 := hid d0
      clear d0
      have hdl : d < vs.length := by have h1 := HD.out; have h2 := HN.out; omega
      have hdi : (d : Int) < (vs.length : Int) := by omega
      have hdo : (d : Int) < (os.length : Int) := by have := HQ.out; omega
      go_wp2
      clear m0 n0 n1
      obtain ⟨wp, hwp⟩ : ∃ wp : World, wp = wr := ⟨_, rfl⟩
      subst hwp
      go_loopw [14] (fun j wr => ∃ (jj : Nat) (M : List Int), jj ≤ L.length ∧ j = .int .i64 jj ∧ Hid (MixD TT (L.map vname) vs M d) ∧ Hid (∀ x, x < jj → (L.map vname)[x]? = some (nm ++ ⟨#[46]⟩ ++ vn) → M[d]? = vs[d]?) ∧ wr.ownsRow u3.heap.size 2 1 (.slice adM os.length cpM) M.length (M.flatMap iv) ∧ Below u3.heap.size u3 wr)
        (fun j _ => L.length - (intOf j).toNat)
      case atStart => exact ⟨0, M1, by omega, rfl, HMX1.out, fun x hx => by omega, hown1, hbk⟩
      case round =>
        obtain ⟨jj, M2, hjj, rfl, HMX2, HIT, hown2, hbj⟩ := hrel
        have hzj := hbj.size
        have m0 : wr.cell? ⟨w.heap.size, 0, none⟩ = some (.slice (some ⟨mb, moff, none⟩) mons.length mcap) := cellOf (HK3.out _ hbj).1 0
        have n0 := (hbj.cell (p := ⟨mb, _, none⟩) hmb2).trans HN0.out
        have n1 := (hbj.cell (p := ⟨mb, _, none⟩) hmb2).trans HN1.out
        have d0 := (hbj.cell (p := ⟨vb, _, none⟩) hvb2).trans HD0.out
        by_cases hlj : jj < L.length
        case neg =>
          have hjd : decide ((jj : Int) < (L.length : Int)) = false := by simp; omega
          have HNX : Hid (MixD TT (L.map vname) vs M2 (d + 1)) := HMX2.out.next HTD.out (fun hm => by
            obtain ⟨x, hx, he⟩ := List.mem_iff_getElem.1 hm
            have hx' : x < L.length := by simpa using hx
            exact HIT.out x (by omega) (by rw [List.getElem?_eq_getElem hx, he]))
          go_wp2
          go_roundw
          case rel => exact ⟨kk + 1, d + 1, M2, by omega, by go_num, by go_num, by omega, (by show _ = _; rw [HD.out]; omega), HNX.out, hown2, hbj⟩
          case measure => simp [intOf]; omega
        have hji : (jj : Int) < (L.length : Int) := by omega
        rcases h83 with h | ⟨b8, rfl, h85, h86, h87⟩
        · rw [h] at hlj; simp at hlj
        have d8 := (h87 jj hlj 0 (by omega))
        obtain ⟨XN, hXN⟩ : ∃ XN, vname L[jj] = XN := ⟨_, rfl⟩
        have e8 : (strC L[jj])[0]? = some (.string XN) := by rw [← hXN]; rfl
        rw [e8] at d8
        simp only [Nat.zero_add, Nat.mul_one, Nat.add_zero] at d8
        have d8 := (hbj.cell (p := ⟨b8, jj, none⟩) h86).trans d8
        have HXN : Hid ((L.map vname)[jj]? = some XN) := by
          show _ = _
          rw [List.getElem?_map, List.getElem?_eq_getElem hlj, Option.map_some, hXN]
        clear e8 hXN
        by_cases hit : XN = nm ++ ⟨#[46]⟩ ++ vn
        case neg =>
          have hs1 := str_ne hit
          have hs2' : (XN.toList == (nm ++ ⟨#[46]⟩ ++ vn).toList) = false := by rw [beq_eq_false_iff_ne]; exact hs1
          have HNO := hid hit
          clear hit
          go_upto_region 15 with fail
          go_quiet (fail)
          go_wp2
          go_roundw
          case rel => exact ⟨jj + 1, M2, by omega, by go_num, HMX2.out, (fun x hx he => by
              by_cases hxj : x = jj
              · subst hxj
                rw [HXN.out] at he
                exact absurd (Option.some.inj he) HNO.out
              · exact HIT.out x (by omega) he), hown2, ⟨hbj.os, hbj.tape, hbj.output, hbj.size, hbj.block⟩⟩
          case measure => simp [intOf]; omega
        have hdM : d < M2.length := by rw [HMX2.out.1]; exact hdl
        obtain ⟨g, rfl, hg1, hg2, hgc, hgf, hput⟩ := own_put2 hown2 hdM
        obtain ⟨xb, xoff, rfl, hxb, hxrow⟩ := slSomeZ HV.out hdl
        have y0 := (hxrow.below (HB3.out.tr le_rfl' hbj) hxb) d hdl 0 (by omega)
        simp only [iv, Nat.mul_one, Nat.add_zero, List.getElem?_cons_zero] at y0
        have HPM := hid (HMX2.out.put HVI.out hdl)
        have HPUT := hid (hput vs[d])
        obtain ⟨X, hX⟩ : ∃ X, vs[d] = X := ⟨_, rfl⟩
        simp only [hX] at y0 HPM HPUT
        clear hX hput hxrow
        subst hit
        go_upto_region 15 with fail
        go_quiet (fail)
        go_wp2
        go_roundw
        case rel => exact ⟨jj + 1, M2.set d X, by omega, by go_num, HPM.out.1, fun _ _ _ => HPM.out.2, HPUT.out.1, (Below.setCell (p := ⟨g, d, none⟩) (show Below u3.heap.size u3 (wr.drewN _) from ⟨hbj.os, hbj.tape, hbj.output, hbj.size, hbj.block⟩) hg1 (.int .i64 X))⟩
        case measure => simp [intOf]; omega
end Go.Proofs.YtopiceoofdlkbaaDoor
