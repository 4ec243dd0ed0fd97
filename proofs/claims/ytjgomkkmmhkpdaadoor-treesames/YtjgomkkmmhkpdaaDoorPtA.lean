/-
  What follows of what is read, and of how many parts there are. Nothing is walked here.
-/
import Derived.Test.YtjgomkkmmhkpdaaDoorTxA
namespace Go.Proofs.YtjgomkkmmhkpdaaDoor
open Go.RowKit
theorem vfold_pre (l : List Ex) (S : List (ByteArray × ByteArray)) : S <+: l.foldl vstep S := by
  induction l generalizing S with
  | nil => exact List.prefix_refl _
  | cons x l ih =>
    refine List.IsPrefix.trans ?_ (ih (vstep S x))
    rcases x with ⟨op, mon, name, _, _, _, _, _⟩
    by_cases h : op = 4 ∧ (mon, name) ∉ S
    · rw [vstep_yes h]; exact List.prefix_append _ _
    · rw [vstep_no h]; exact List.prefix_refl _
theorem vfold_two (l : List Ex) (S V : List (ByteArray × ByteArray)) (h : ∀ p ∈ V, p ∈ S) : (l.foldl vstep S).length + V.length ≤ S.length + (l.foldl vstep V).length := by
  induction l generalizing S V with
  | nil => simp
  | cons x l ih =>
    simp only [List.foldl_cons]
    rcases x with ⟨op, mon, name, _, _, _, _, _⟩
    by_cases hop : op = 4
    · by_cases hS : (mon, name) ∈ S
      · rw [vstep_no (S := S) (fun q => q.2 hS)]
        by_cases hV : (mon, name) ∈ V
        · rw [vstep_no (S := V) (fun q => q.2 hV)]; exact ih S V h
        · rw [vstep_yes (S := V) ⟨hop, hV⟩]
          have := ih S (V ++ [(mon, name)]) (fun p hp => by
            rcases List.mem_append.1 hp with hp | hp
            · exact h p hp
            · rw [List.mem_singleton.1 hp]; exact hS)
          rw [List.length_append] at this
          simp at this
          omega
      · have hV : (mon, name) ∉ V := fun q => hS (h _ q)
        rw [vstep_yes (S := S) ⟨hop, hS⟩, vstep_yes (S := V) ⟨hop, hV⟩]
        have := ih (S ++ [(mon, name)]) (V ++ [(mon, name)]) (fun p hp => by
          rcases List.mem_append.1 hp with hp | hp
          · exact List.mem_append.2 (.inl (h p hp))
          · exact List.mem_append.2 (.inr hp))
        rw [List.length_append, List.length_append] at this
        simp at this
        omega
    · rw [vstep_no (S := S) (fun q => hop q.1), vstep_no (S := V) (fun q => hop q.1)]; exact ih S V h
theorem vfold_nodup (l : List Ex) (S : List (ByteArray × ByteArray)) (h : S.Nodup) : (l.foldl vstep S).Nodup := by
  induction l generalizing S with
  | nil => exact h
  | cons x l ih =>
    refine ih _ ?_
    rcases x with ⟨op, mon, name, _, _, _, _, _⟩
    by_cases hh : op = 4 ∧ (mon, name) ∉ S
    · rw [vstep_yes hh]
      refine List.nodup_append.2 ⟨h, by simp, fun a ha b hb e => ?_⟩
      rw [List.mem_singleton.1 hb] at e
      exact hh.2 (e ▸ ha)
    · rw [vstep_no hh]; exact h
def Ex.opOf : Ex → Int
  | .mk op _ _ _ _ _ _ _ => op
def Ex.pairOf : Ex → ByteArray × ByteArray
  | .mk _ mon name _ _ _ _ _ => (mon, name)
theorem vfold_mem (l : List Ex) (S : List (ByteArray × ByteArray)) (p : ByteArray × ByteArray) (h : p ∈ l.foldl vstep S) : p ∈ S ∨ ∃ x ∈ l, x.opOf = 4 ∧ x.pairOf = p := by
  induction l generalizing S with
  | nil => exact .inl h
  | cons x l ih =>
    rcases ih _ h with h1 | ⟨y, hy, h2⟩
    · rcases x with ⟨op, mon, name, a1, a2, a3, a4, a5⟩
      by_cases hh : op = 4 ∧ (mon, name) ∉ S
      · rw [vstep_yes hh] at h1
        rcases List.mem_append.1 h1 with h1 | h1
        · exact .inl h1
        · exact .inr ⟨_, List.mem_cons_self .., hh.1, (List.mem_singleton.1 h1).symm⟩
      · rw [vstep_no hh] at h1; exact .inl h1
    · exact .inr ⟨y, List.mem_cons_of_mem _ hy, h2⟩
theorem ok1_name {x : Ex} (h : x.ok1 = true) (h4 : x.opOf = 4) : Lx.name x.pairOf.1 = true := by
  rcases x with ⟨op, mon, name, n, ad, cap, kids, pos⟩
  have h4' : op = 4 := h4
  subst h4'
  simp [Ex.ok1, exNames, fitsName] at h
  exact h.1.1.1
theorem name_dot {s : ByteArray} (h : Lx.name s = true) : (46 : UInt8) ∉ s.data.toList := by
  intro hm
  simp only [Lx.name, Bool.and_eq_true] at h
  have h2 := List.all_eq_true.1 h.1.2 46 hm
  revert h2
  decide
theorem cut46 (a b x y : List UInt8) (ha : (46 : UInt8) ∉ a) (hb : (46 : UInt8) ∉ b) (h : a ++ 46 :: x = b ++ 46 :: y) : a = b ∧ x = y := by
  induction a generalizing b with
  | nil => cases b with
    | nil => simpa using h
    | cons c b => simp at h; exact absurd (h.1 ▸ List.mem_cons_self ..) hb
  | cons c a ih => cases b with
    | nil => simp at h; exact absurd (h.1 ▸ List.mem_cons_self ..) ha
    | cons d b =>
      simp only [List.cons_append, List.cons.injEq] at h
      obtain ⟨h1, h2⟩ := ih b (fun q => ha (List.mem_cons_of_mem _ q)) (fun q => hb (List.mem_cons_of_mem _ q)) h.2
      exact ⟨by rw [h.1, h1], h2⟩
theorem vname_list (p : ByteArray × ByteArray) : (vname p).data.toList = p.1.data.toList ++ 46 :: p.2.data.toList := by
  simp [vname, ByteArray.data_append]
theorem vname_inj {p q : ByteArray × ByteArray} (hp : Lx.name p.1 = true) (hq : Lx.name q.1 = true) (h : (vname p).toList = (vname q).toList) : p = q := by
  rw [ByteArray.toList_eq, ByteArray.toList_eq, vname_list, vname_list] at h
  obtain ⟨h1, h2⟩ := cut46 _ _ _ _ (name_dot hp) (name_dot hq) h
  have e1 : p.1 = q.1 := by
    have : p.1.data = q.1.data := Array.ext' h1
    cases hp1 : p.1; cases hq1 : q.1; simp_all
  have e2 : p.2 = q.2 := by
    have : p.2.data = q.2.data := Array.ext' h2
    cases hp1 : p.2; cases hq1 : q.2; simp_all
  exact Prod.ext e1 e2
theorem rest_count (e : Ex) : ∀ n : Int, 0 ≤ restE e n → (e.subs.length : Int) ≤ n - restE e n := by
  induction e using Ex.ind with
  | h op mon name k ad cap kids pos ih =>
    intro n h
    rw [restE_mk] at h ⊢
    split at h
    · omega
    · rename_i hc
      rw [if_neg hc]
      have hL : ∀ (l : List Ex), (∀ x ∈ l, ∀ n : Int, 0 ≤ restE x n → (x.subs.length : Int) ≤ n - restE x n) → ∀ m : Int, 0 ≤ restL l m → ((Ex.subsL l).length : Int) ≤ m - restL l m := by
        intro l
        induction l with
        | nil => intro _ m _; rw [restL, Ex.subsL]; simp
        | cons x r ihr =>
          intro hx m hm
          rw [restL] at hm ⊢
          split at hm
          · rename_i hm0
            rw [if_pos hm0]
            have h2 := ihr (fun y hy => hx y (List.mem_cons_of_mem _ hy)) (restE x m) hm
            rcases Int.lt_or_le (restE x m) 0 with hneg | hpos
            · rw [restL_neg _ _ hneg] at hm; omega
            · have h1 := hx x (List.mem_cons_self ..) m hpos
              rw [Ex.subsL, List.length_append]; omega
          · omega
      have := hL kids ih (n - 1) h
      rw [Ex.subs_mk, List.length_cons]; omega
theorem ok_op {e : Ex} (h : e.ok = true) : e.ok1 = true := by
  rcases e with ⟨op, mon, name, n, ad, cap, kids, pos⟩
  rw [Ex.ok, Ex.subs_mk, List.all_cons, Bool.and_eq_true] at h
  exact h.1
theorem ok_none {e : Ex} (h : e.ok = true) : e.none = false := by
  have h1 := ok_op h
  rcases e with ⟨op, mon, name, n, ad, cap, kids, pos⟩
  simp only [Ex.ok1, Bool.and_eq_true, decide_eq_true_eq] at h1
  have h2 : (op == 0) = false := by rw [beq_eq_false_iff_ne]; omega
  simp [Ex.none, Ex.same, h2]
/-- The two, joined. -/
def joinE (g : Nat) (a b : Ex) : Ex := .mk 16 ⟨#[]⟩ ⟨#[]⟩ 0 (some ⟨g, 0, none⟩) 2 [a, b] 0
theorem joinE_subs (g : Nat) (a b : Ex) : (joinE g a b).subs = joinE g a b :: (a.subs ++ b.subs) := by
  rw [joinE, Ex.subs_mk, Ex.subsL_eq]; simp
theorem joinE_ok (g : Nat) (a b : Ex) (ha : a.ok = true) (hb : b.ok = true) : (joinE g a b).ok = true := by
  rw [Ex.ok, joinE_subs, List.all_cons, List.all_append]
  rw [show a.subs.all Ex.ok1 = true from ha, show b.subs.all Ex.ok1 = true from hb]
  simp [joinE, Ex.ok1, fitsName, fitsNum, exNames, exNumber, exKids]
  rfl
theorem joinE_vars (g : Nat) (a b : Ex) : varsOf (joinE g a b).subs = b.subs.foldl vstep (varsOf a.subs) := by
  rw [joinE_subs, varsOf, List.foldl_cons, List.foldl_append]
  rw [show vstep [] (joinE g a b) = [] from vstep_no (by simp)]
  rfl
theorem join_apart {g : Nat} {a b : Ex} (ha : a.ok = true) (hb : b.ok = true) (i k : Nat) (hk : k < i) (hi : i < (varsOf (joinE g a b).subs).length) :
    ((vname (varsOf (joinE g a b).subs)[i]).toList == (vname (varsOf (joinE g a b).subs)[k]).toList) = false := by
  have hok := joinE_ok g a b ha hb
  have hnm : ∀ p ∈ varsOf (joinE g a b).subs, Lx.name p.1 = true := by
    intro p hp
    rcases vfold_mem _ _ _ hp with h | ⟨x, hx, h4, rfl⟩
    · cases h
    · exact ok1_name (List.all_eq_true.1 hok x hx) h4
  rw [beq_eq_false_iff_ne]
  intro h
  have he := vname_inj (hnm _ (List.getElem_mem hi)) (hnm _ (List.getElem_mem (by omega))) h
  have hnd : (varsOf (joinE g a b).subs).Nodup := vfold_nodup _ [] List.nodup_nil
  exact (List.pairwise_iff_getElem.1 hnd) k i (by omega) hi hk he.symm
end Go.Proofs.YtjgomkkmmhkpdaaDoor
