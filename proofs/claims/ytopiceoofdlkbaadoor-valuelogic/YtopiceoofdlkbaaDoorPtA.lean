/-
  What follows of what is read, and of how many parts there are. Nothing is walked here.
-/
import Derived.Test.YtopiceoofdlkbaaDoorTxA
namespace Go.Proofs.YtopiceoofdlkbaaDoor
open Go.RowKit
def Ex.opOf : Ex → Int
  | .mk op _ _ _ _ _ _ _ => op
def Ex.pairOf : Ex → ByteArray × ByteArray
  | .mk _ mon name _ _ _ _ _ => (mon, name)
theorem ok1_name {x : Ex} (h : x.ok1 = true) (h4 : x.opOf = 4) : Lx.name x.pairOf.1 = true := by
  rcases x with ⟨op, mon, name, n, ad, cap, kids, pos⟩
  have h4' : op = 4 := h4
  subst h4'
  simp [Ex.ok1, exNames, fitsName] at h
  exact h.1.1.1
theorem name_dot {s : ByteArray} (h : Lx.name s = true) : (46 : UInt8) ∉ s.data.toList := by
  intro hm
  simp only [Lx.name, Bool.and_eq_true] at h
  have h2 := List.all_eq_true.1 h.1.2 46 hm
  revert h2
  decide
theorem cut46 (a b x y : List UInt8) (ha : (46 : UInt8) ∉ a) (hb : (46 : UInt8) ∉ b) (h : a ++ 46 :: x = b ++ 46 :: y) : a = b ∧ x = y := by
  induction a generalizing b with
  | nil => cases b with
    | nil => simpa using h
    | cons c b => simp at h; exact absurd (h.1 ▸ List.mem_cons_self ..) hb
  | cons c a ih => cases b with
    | nil => simp at h; exact absurd (h.1 ▸ List.mem_cons_self ..) ha
    | cons d b =>
      simp only [List.cons_append, List.cons.injEq] at h
      obtain ⟨h1, h2⟩ := ih b (fun q => ha (List.mem_cons_of_mem _ q)) (fun q => hb (List.mem_cons_of_mem _ q)) h.2
      exact ⟨by rw [h.1, h1], h2⟩
theorem rest_count (e : Ex) : ∀ n : Int, 0 ≤ restE e n → (e.subs.length : Int) ≤ n - restE e n := by
  induction e using Ex.ind with
  | h op mon name k ad cap kids pos ih =>
    intro n h
    rw [restE_mk] at h ⊢
    split at h
    · omega
    · rename_i hc
      rw [if_neg hc]
      have hL : ∀ (l : List Ex), (∀ x ∈ l, ∀ n : Int, 0 ≤ restE x n → (x.subs.length : Int) ≤ n - restE x n) → ∀ m : Int, 0 ≤ restL l m → ((Ex.subsL l).length : Int) ≤ m - restL l m := by
        intro l
        induction l with
        | nil => intro _ m _; rw [restL, Ex.subsL]; simp
        | cons x r ihr =>
          intro hx m hm
          rw [restL] at hm ⊢
          split at hm
          · rename_i hm0
            rw [if_pos hm0]
            have h2 := ihr (fun y hy => hx y (List.mem_cons_of_mem _ hy)) (restE x m) hm
            rcases Int.lt_or_le (restE x m) 0 with hneg | hpos
            · rw [restL_neg _ _ hneg] at hm; omega
            · have h1 := hx x (List.mem_cons_self ..) m hpos
              rw [Ex.subsL, List.length_append]; omega
          · omega
      have := hL kids ih (n - 1) h
      rw [Ex.subs_mk, List.length_cons]; omega
theorem ok_op {e : Ex} (h : e.ok = true) : e.ok1 = true := by
  rcases e with ⟨op, mon, name, n, ad, cap, kids, pos⟩
  rw [Ex.ok, Ex.subs_mk, List.all_cons, Bool.and_eq_true] at h
  exact h.1
theorem ok_none {e : Ex} (h : e.ok = true) : e.none = false := by
  have h1 := ok_op h
  rcases e with ⟨op, mon, name, n, ad, cap, kids, pos⟩
  simp only [Ex.ok1, Bool.and_eq_true, decide_eq_true_eq] at h1
  have h2 : (op == 0) = false := by rw [beq_eq_false_iff_ne]; omega
  simp [Ex.none, Ex.same, h2]
end Go.Proofs.YtopiceoofdlkbaaDoor
