/-
  Plain facts of statements: what is open behind them, how many tokens are left. Nothing is walked here.
-/
import Derived.Test.YtaekbgljbgmchaaGreatDoorPzT
namespace Go.Proofs.YtaekbgljbgmchaaGreatDoor
open Go.RowKit
open Lx (Out)
open Pz
namespace Pz
theorem kind_word (t : Out) (k : Nat) (h : kindOf t = k) (h0 : k ≠ 0) : (k = 2 ∧ t.kind = 1) ∨ (k = 1 ∧ is t k_skip = true) ∨ (k = 3 ∧ is t k_if = true) ∨ (k = 4 ∧ is t k_while = true) ∨ (k = 5 ∧ is t k_loop = true) ∨ (k = 6 ∧ is t k_choose = true) ∨ (k = 7 ∧ is t k_sync = true) ∨ (k = 8 ∧ is t k_call = true) ∨ (k = 9 ∧ is t k_wait = true) ∨ (k = 10 ∧ is t k_notify = true) ∨ (k = 11 ∧ is t k_notifyall = true) := by
  unfold kindOf at h
  by_cases h1 : t.kind = 1
  · rw [if_pos h1] at h; exact .inl ⟨h.symm, h1⟩
  rw [if_neg h1] at h
  by_cases h_skip : is t k_skip = true
  · rw [if_pos h_skip] at h; exact .inr (.inl (⟨h.symm, h_skip⟩))
  rw [if_neg h_skip] at h
  by_cases h_if : is t k_if = true
  · rw [if_pos h_if] at h; exact .inr (.inr (.inl (⟨h.symm, h_if⟩)))
  rw [if_neg h_if] at h
  by_cases h_while : is t k_while = true
  · rw [if_pos h_while] at h; exact .inr (.inr (.inr (.inl (⟨h.symm, h_while⟩))))
  rw [if_neg h_while] at h
  by_cases h_loop : is t k_loop = true
  · rw [if_pos h_loop] at h; exact .inr (.inr (.inr (.inr (.inl (⟨h.symm, h_loop⟩)))))
  rw [if_neg h_loop] at h
  by_cases h_choose : is t k_choose = true
  · rw [if_pos h_choose] at h; exact .inr (.inr (.inr (.inr (.inr (.inl (⟨h.symm, h_choose⟩))))))
  rw [if_neg h_choose] at h
  by_cases h_sync : is t k_sync = true
  · rw [if_pos h_sync] at h; exact .inr (.inr (.inr (.inr (.inr (.inr (.inl (⟨h.symm, h_sync⟩)))))))
  rw [if_neg h_sync] at h
  by_cases h_call : is t k_call = true
  · rw [if_pos h_call] at h; exact .inr (.inr (.inr (.inr (.inr (.inr (.inr (.inl (⟨h.symm, h_call⟩))))))))
  rw [if_neg h_call] at h
  by_cases h_wait : is t k_wait = true
  · rw [if_pos h_wait] at h; exact .inr (.inr (.inr (.inr (.inr (.inr (.inr (.inr (.inl (⟨h.symm, h_wait⟩)))))))))
  rw [if_neg h_wait] at h
  by_cases h_notify : is t k_notify = true
  · rw [if_pos h_notify] at h; exact .inr (.inr (.inr (.inr (.inr (.inr (.inr (.inr (.inr (.inl (⟨h.symm, h_notify⟩))))))))))
  rw [if_neg h_notify] at h
  by_cases h_notifyall : is t k_notifyall = true
  · rw [if_pos h_notifyall] at h; exact .inr (.inr (.inr (.inr (.inr (.inr (.inr (.inr (.inr (.inr ((⟨h.symm, h_notifyall⟩)))))))))))
  rw [if_neg h_notifyall] at h
  exact absurd h.symm h0
theorem want_pass {s : S} {x : ByteArray} (h : is s.hd x = true) : s.want x = s.pass := by unfold S.want S.sees; rw [h]; rfl
theorem le_full (s : S) (b : Bool) : Le s (s.full b) := by
  unfold S.full
  cases b
  · exact le_pass s
  · exact (le_refuse s 6).trans (le_pass _)
theorem le_oneMore {α : Type} (l : List α) (most : Nat) (rd : S → α × S) (hrd : ∀ s, Le s (rd s).2) (s : S) : Le s (oneMore l most rd s).2 := (le_full s _).trans (hrd _)
theorem le_several {α : Type} (word : ByteArray) (most : Nat) (rd : S → α × S) (hrd : ∀ s, Le s (rd s).2) : ∀ (f : Nat) (l : List α) (s : S), Le s (several word most rd f l s).2 := by
  intro f
  induction f with
  | zero => intro l s; exact .refl _
  | succ f ih =>
    intro l s
    rw [several]
    split
    · exact (le_oneMore l most rd hrd s).trans (ih _ _)
    · exact .refl _
theorem hd5 {toks : List Out} {s : S} (h : Ok toks s) (hk : kindOf s.hd ≠ 0) : s.hd.kind ≠ 5 := by
  intro h5
  have ht := h.tk.txt _ (hd_mem s h.tk.ne) h5
  rcases kind_word s.hd _ rfl hk with h1 | h1 | h1 | h1 | h1 | h1 | h1 | h1 | h1 | h1 | h1
  · rw [h1.2] at h5; exact absurd h5 (by decide)
  all_goals
    have h2 := h1.2
    unfold is at h2
    rw [ht] at h2
    have h3 := congrArg List.length (eq_of_beq h2)
    rw [toList_size, toList_size] at h3
    exact absurd h3 (by decide)
/-- A statement passes over its first token. -/
theorem stmt_le {s : S} (rx : S → Ex × S) (rb : S → Bl × S) (hx : ∀ s, Le s (rx s).2) (hb : ∀ s, Le s (rb s).2) (hk : kindOf s.hd ≠ 0) : Le s.pass (stmt rx rb (kindOf s.hd) s).2 := by
  rcases kind_word s.hd _ rfl hk with h1 | h1 | h1 | h1 | h1 | h1 | h1 | h1 | h1 | h1 | h1 <;> obtain ⟨hk1, hw⟩ := h1 <;> rw [hk1] <;> simp only [stmt]
  · unfold stSet
    have : (path s).2 = ((s.pass.want s_dot).take 1).2 := by unfold path; rw [take_yes s 1 hw]
    show Le s.pass ((rx ((path s).2.want s_eq)).2.want s_semi)
    rw [this]
    exact ((((le_want _ _).trans (le_take _ _)).trans (le_want _ _)).trans (hx _)).trans (le_want _ _)
  · unfold stSkip; rw [want_pass hw]; exact le_want _ _
  · unfold stIf; rw [want_pass hw]
    simp only
    split
    · exact (((hx _).trans (hb _)).trans (le_pass _)).trans (hb _)
    · exact (hx _).trans (hb _)
  · unfold stWhile; rw [want_pass hw]; exact (hx _).trans (hb _)
  · unfold stLoop; rw [want_pass hw]; exact hb _
  · unfold stChoose
    have : (oneMore [] 8 rb s).2 = (rb s.pass).2 := rfl
    simp only
    rw [this]
    exact (hb _).trans (le_several _ _ _ hb _ _ _)
  · unfold stSync; rw [want_pass hw]; exact (le_take _ _).trans (hb _)
  · unfold stCall; rw [want_pass hw]; exact (le_path _).trans (le_want _ _)
  · unfold stWait; rw [want_pass hw]
    simp only
    split
    · refine ((le_take s.pass 1).trans (le_take (s.pass.take 1).2 2)).trans (Le.trans ?_ (le_want _ _))
      split
      · exact le_fail _ _ _
      · exact .refl _
    · exact (le_take _ _).trans (le_want _ _)
  · unfold stNotify; rw [want_pass hw]; exact (le_take _ _).trans (le_want _ _)
  · unfold stAll; rw [want_pass hw]; exact (le_take _ _).trans (le_want _ _)
theorem le_block (rd : S → Bl × S) (h : ∀ s, Le s (rd s).2) (s : S) : Le s (block rd s).2 := le_enclosed _ _ rd s (h _)
theorem stmts_le (f : Nat) : ∀ (l : List St) (s : S), Le s (stmtsF f l s).2 := by
  induction f with
  | zero => intro l s; exact .refl _
  | succ f ih =>
    intro l s
    rw [stmtsF]
    split
    · exact .refl _
    · rename_i hk
      exact ((le_pass s).trans (stmt_le _ _ (fun s => (expr_le f).1 1 s) (fun s => le_block _ (fun s => ih [] s) s) hk)).trans (ih _ _)
end Pz
end Go.Proofs.YtaekbgljbgmchaaGreatDoor
