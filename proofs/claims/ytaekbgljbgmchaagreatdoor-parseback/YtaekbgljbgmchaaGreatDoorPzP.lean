/-
  Plain facts of the parser: how many levels are open behind it, how many tokens are left. Nothing is walked here.
-/
import Derived.Test.YtaekbgljbgmchaaGreatDoorPzF
namespace Go.Proofs.YtaekbgljbgmchaaGreatDoor
open Go.RowKit
open Lx (Out)
open Pz
namespace Pz
/-- Behind a reading the same number is open, and no more tokens are left. -/
def Le (s s' : S) : Prop := s'.opn = s.opn ∧ s'.rest.length ≤ s.rest.length
theorem Le.refl (s : S) : Le s s := ⟨rfl, Nat.le_refl _⟩
theorem Le.trans {a b c : S} (h : Le a b) (k : Le b c) : Le a c := ⟨k.1.trans h.1, Nat.le_trans k.2 h.2⟩
theorem le_pass (s : S) : Le s s.pass := ⟨pass_opn s, pass_len s⟩
theorem le_fail (s : S) (e a : Int) : Le s (s.fail e a) := ⟨fail_opn s e a, fail_len s e a⟩
theorem le_refuse (s : S) (e : Int) : Le s (s.refuse e) := le_fail _ _ _
theorem le_want (s : S) (x : ByteArray) : Le s (s.want x) := ⟨want_opn s x, want_len s x⟩
theorem le_take (s : S) (k : Int) : Le s (s.take k).2 := ⟨take_opn s k, take_len s k⟩
theorem le_path (s : S) : Le s (path s).2 := ((le_take s 1).trans (le_want _ _)).trans (le_take _ 1)
theorem enter_opn (s : S) (x : ByteArray) : (s.enter x).opn = s.opn + 1 := by
  unfold S.enter S.more
  show (S.want _ x).opn + 1 = _
  rw [want_opn]
  split
  · rw [(le_refuse s 41).1]
  · rfl
theorem enter_len (s : S) (x : ByteArray) : (s.enter x).rest.length ≤ s.rest.length := by
  unfold S.enter S.more
  show (S.want _ x).rest.length ≤ _
  refine Nat.le_trans (want_len _ _) ?_
  split
  · exact (le_refuse s 41).2
  · exact Nat.le_refl _
theorem le_within {α : Type} (sign : ByteArray) (rd : S → α × S) (s : S) (h : Le (s.enter sign) (rd (s.enter sign)).2) : Le s (within sign rd s).2 := by
  refine ⟨?_, Nat.le_trans h.2 (enter_len s sign)⟩
  show (rd (s.enter sign)).2.opn - 1 = _
  rw [h.1, enter_opn]; omega
theorem le_enclosed {α : Type} (a c : ByteArray) (rd : S → α × S) (s : S) (h : Le (s.enter a) (rd (s.enter a)).2) : Le s (enclosed a rd c s).2 := (le_within a rd s h).trans (le_want _ _)
theorem expr_le (f : Nat) : (∀ l s, Le s (exprAt f l s).2) ∧ (∀ l x own s, Le s (loop f l x own s).2) ∧ (∀ s, Le s (term f s).2) := by
  induction f with
  | zero => exact ⟨fun l s => by rw [exprAt]; exact .refl _, fun l x own s => by rw [loop]; exact .refl _, fun s => by rw [term]; exact .refl _⟩
  | succ f ih =>
    obtain ⟨h1, h2, h3⟩ := ih
    refine ⟨fun l s => ?_, fun l x own s => ?_, fun s => ?_⟩
    · rw [exprAt]
      split
      · exact (le_within _ _ s (h1 _ _)).trans (h2 _ _ _ _)
      · exact (h3 s).trans (h2 _ _ _ _)
    · rw [loop]
      split
      · exact .refl _
      · exact ((le_pass s).trans (h1 _ _)).trans (h2 _ _ _ _)
    · rw [term]
      split
      · split
        · exact (le_pass s).trans (le_within _ _ _ (h3 _))
        · exact le_pass s
      · split
        · exact le_path s
        · split
          · exact le_within _ _ s (h3 _)
          · split
            · exact le_enclosed _ _ _ s (h1 _ _)
            · split
              · exact le_pass s
              · exact le_want _ _
theorem toList_size (x : ByteArray) : x.toList.length = x.size := by rw [ByteArray.toList_eq]; simp
theorem sees_kind {toks : List Out} {s : S} {x : ByteArray} (h : Ok toks s) (hs : s.sees x = true) (hx : x.size ≠ 0) : s.hd.kind ≠ 5 := by
  intro h5
  have ht := h.tk.txt _ (hd_mem s h.tk.ne) h5
  unfold S.sees is at hs
  rw [ht] at hs
  have := congrArg List.length (eq_of_beq hs)
  rw [toList_size, toList_size] at this
  exact hx (by rw [← this]; rfl)
theorem pass_lt {toks : List Out} {s : S} (h : Ok toks s) (hk : s.hd.kind ≠ 5) : s.pass.rest.length + 1 = s.rest.length ∧ 2 ≤ s.rest.length := by
  have h1 := h.pass.len
  have hr := h.len
  unfold S.pass at h1 ⊢
  rw [if_neg hk] at h1 ⊢
  simp only [List.length_tail] at h1 ⊢
  omega
theorem last1_one (l : List Out) (h : l ≠ []) : (last1 l).length = 1 := by rw [last1_eq l h]; rfl
theorem enter_lt {toks : List Out} {s : S} {x : ByteArray} (h : Ok toks s) (hs : s.sees x = true) (hx : x.size ≠ 0) : (s.enter x).rest.length + 1 ≤ s.rest.length := by
  have hk := sees_kind h hs hx
  have hp := pass_lt h hk
  have hw : s.want x = s.pass := by unfold S.want; rw [hs]; rfl
  unfold S.enter S.more
  show (S.want _ x).rest.length + 1 ≤ _
  by_cases he : s.err = 0
  · split
    · refine Nat.le_trans (Nat.add_le_add_right (want_len _ _) 1) ?_
      have : (s.refuse 41).rest.length = 1 := by
        unfold S.refuse S.fail; rw [if_pos he]; exact last1_one _ h.tk.ne
      omega
    · rw [hw]; omega
  · have : s.refuse 41 = s := by unfold S.refuse S.fail; rw [if_neg he]
    rw [this]
    split <;> (rw [hw]; omega)
theorem operOf_end (t : Out) (h : t.text = e0) : operOf t = ⟨0, 0, 0, 0⟩ := by
  refine operOf_none t ?_
  rw [h]
  have : ∀ o ∈ opTab, (o.1.toList == e0.toList) = false := by
    intro o ho
    rw [beq_eq_false_iff_ne]
    intro h2
    have := congrArg List.length h2
    rw [toList_size, toList_size] at this
    have h3 : ∀ o ∈ opTab, o.1.size ≠ e0.size := by decide
    exact h3 o ho this
  unfold noOp
  rw [List.all_eq_true]
  intro o ho
  rw [this o (List.mem_of_mem_take ho)]; rfl
theorem oper_kind {toks : List Out} {s : S} (h : Ok toks s) (ho : (operOf s.hd).op ≠ 0) : s.hd.kind ≠ 5 := fun h5 => ho (by rw [operOf_end _ (h.tk.txt _ (hd_mem s h.tk.ne) h5)])
theorem operOf_range (t : Out) : (operOf t).own ≤ 6 ∧ (operOf t).first ≤ 6 ∧ (operOf t).second ≤ 6 ∧ 0 ≤ (operOf t).op ∧ (operOf t).op ≤ 20 := by
  unfold operOf
  repeat' split
  all_goals decide
theorem e0_list : e0.toList = [] := by rw [ByteArray.toList_eq]; rfl
end Pz
end Go.Proofs.YtaekbgljbgmchaaGreatDoor
