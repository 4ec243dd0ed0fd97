/-
  Programs as plain Lean trees: expressions, statements, monitors, roles; how they lie in memory; when two are the same; what goes over them. Nothing is walked here.
-/
import Derived.Test.YtopiceoofdlkbaaDoorNmA
import Derived.RowKit3
namespace Go.Proofs.YtopiceoofdlkbaaDoor
open Go.RowKit
theorem _root_.Go.RowKit.Below.al {n₀ : Nat} {A B : World} (h : Below n₀ A B) (hA : n₀ ≤ A.heap.size) (o : Obj) : Below n₀ A (B.alloc o) := h.alloc (by have := h.size; omega) o
theorem _root_.Go.RowKit.Below.tr {n₀ : Nat} {A B C : World} (h : Below n₀ A B) (hA : n₀ ≤ A.heap.size) (h2 : Below B.heap.size B C) : Below n₀ A C := h.trans (h2.mono (by have := h.size; omega))
theorem le_rfl' {n : Nat} : n ≤ n := Nat.le_refl n
/-- An expression: op, mon, name, n; its kids, and where their slice lies; its place. -/
inductive Ex where
  | mk (op : Int) (mon name : ByteArray) (n : Int) (ad : Option Addr) (cap : Nat) (kids : List Ex) (pos : Int)
def Ex.cells : Ex → List Value
  | .mk op mon name n ad cap kids pos => [.int .i64 op, .string mon, .string name, .int .i64 n, .slice ad kids.length cap, .int .i64 pos]
def Ex.val (e : Ex) : Value := .agg e.cells.toArray
def Ex.kids : Ex → List Ex
  | .mk _ _ _ _ _ _ kids _ => kids
/-- Rows of so many cells each, one behind the other. -/
def RowAt {α : Type} (size : Nat) (cells : α → List Value) (W : World) (b off : Nat) (l : List α) : Prop := ∀ (j : Nat) (h : j < l.length) (i : Nat), i < size → W.cell? ⟨b, off + j * size + i, none⟩ = (cells l[j])[i]?
/-- A slice lies below n₀. -/
def SlAt {α : Type} (size : Nat) (cells : α → List Value) (n₀ : Nat) (W : World) (ad : Option Addr) (cap : Nat) (l : List α) : Prop :=
  l.length ≤ cap ∧ cap ≤ maxLen ∧ (l = [] ∨ ∃ b off, ad = some ⟨b, off, none⟩ ∧ b < n₀ ∧ RowAt size cells W b off l)
theorem RowAt.below {α : Type} {size : Nat} {cells : α → List Value} {n₀ : Nat} {W W' : World} {b off : Nat} {l : List α} (h : RowAt size cells W b off l) (hb : Below n₀ W W') (hlt : b < n₀) : RowAt size cells W' b off l :=
  fun j hj i hi => (hb.cell (p := ⟨b, _, none⟩) hlt).trans (h j hj i hi)
theorem SlAt.below {α : Type} {size : Nat} {cells : α → List Value} {n₀ : Nat} {W W' : World} {ad : Option Addr} {cap : Nat} {l : List α} (h : SlAt size cells n₀ W ad cap l) (hb : Below n₀ W W') : SlAt size cells n₀ W' ad cap l := by
  obtain ⟨h1, h2, h3⟩ := h
  refine ⟨h1, h2, ?_⟩
  rcases h3 with h3 | ⟨b, off, h4, h5, h6⟩
  · exact .inl h3
  · exact .inr ⟨b, off, h4, h5, h6.below hb h5⟩
theorem SlAt.mono {α : Type} {size : Nat} {cells : α → List Value} {n₀ n₁ : Nat} {W : World} {ad : Option Addr} {cap : Nat} {l : List α} (h : SlAt size cells n₀ W ad cap l) (hn : n₀ ≤ n₁) : SlAt size cells n₁ W ad cap l := by
  obtain ⟨h1, h2, h3⟩ := h
  refine ⟨h1, h2, ?_⟩
  rcases h3 with h3 | ⟨b, off, h4, h5, h6⟩
  · exact .inl h3
  · exact .inr ⟨b, off, h4, by omega, h6⟩
/-- So a number of 64 bits is. -/
def I64 (n : Int) : Prop := -9223372036854775808 ≤ n ∧ n ≤ 9223372036854775807
/-- Strings are of lengths that there can be. -/
def Len (s : ByteArray) : Prop := s.size ≤ 140737488351232
/-- An expression lies below n₀, with all its parts. -/
def Ex.Is (n₀ : Nat) (W : World) : Ex → Prop
  | .mk op mon name n ad cap kids pos => (I64 op ∧ I64 n ∧ I64 pos ∧ Len mon ∧ Len name) ∧ SlAt 6 Ex.cells n₀ W ad cap kids ∧ ∀ x, (h : x ∈ kids) → Ex.Is n₀ W x
theorem Ex.ind {P : Ex → Prop} (h : ∀ op mon name n ad cap kids pos, (∀ x ∈ kids, P x) → P (.mk op mon name n ad cap kids pos)) : ∀ e, P e
  | .mk op mon name n ad cap kids pos => h op mon name n ad cap kids pos (fun x _ => Ex.ind h x)
theorem Ex.Is.below {n₀ : Nat} {W W' : World} (hb : Below n₀ W W') : ∀ {e : Ex}, e.Is n₀ W → e.Is n₀ W' := by
  intro e
  induction e using Ex.ind with
  | h op mon name n ad cap kids pos ih =>
    intro h
    rw [Ex.Is] at h ⊢
    exact ⟨h.1, h.2.1.below hb, fun x hx => ih x hx (h.2.2 x hx)⟩
theorem Ex.Is.mono {n₀ n₁ : Nat} {W : World} (hn : n₀ ≤ n₁) : ∀ {e : Ex}, e.Is n₀ W → e.Is n₁ W := by
  intro e
  induction e using Ex.ind with
  | h op mon name n ad cap kids pos ih =>
    intro h
    rw [Ex.Is] at h ⊢
    exact ⟨h.1, h.2.1.mono hn, fun x hx => ih x hx (h.2.2 x hx)⟩
theorem Ex.Is.down {n₀ : Nat} {W : World} {op : Int} {mon name : ByteArray} {n : Int} {ad : Option Addr} {cap : Nat} {kids : List Ex} {pos : Int} (h : (Ex.mk op mon name n ad cap kids pos).Is n₀ W) :
    (I64 op ∧ I64 n ∧ I64 pos ∧ Len mon ∧ Len name) ∧ SlAt 6 Ex.cells n₀ W ad cap kids ∧ ∀ x ∈ kids, x.Is n₀ W := by rw [Ex.Is] at h; exact h
theorem Ex.Is.up {n₀ : Nat} {W : World} {op : Int} {mon name : ByteArray} {n : Int} {ad : Option Addr} {cap : Nat} {kids : List Ex} {pos : Int}
    (h : (I64 op ∧ I64 n ∧ I64 pos ∧ Len mon ∧ Len name) ∧ SlAt 6 Ex.cells n₀ W ad cap kids ∧ ∀ x ∈ kids, x.Is n₀ W) : (Ex.mk op mon name n ad cap kids pos).Is n₀ W := by rw [Ex.Is]; exact h
/-- Two lists, element for element. -/
def all2 {α : Type} (f : α → α → Bool) : List α → List α → Bool
  | [], [] => true
  | a :: xs, b :: ys => f a b && all2 f xs ys
  | _, _ => false
theorem all2_len {α : Type} (f : α → α → Bool) (xs ys : List α) (h : xs.length ≠ ys.length) : all2 f xs ys = false := by
  induction xs generalizing ys with
  | nil => cases ys with
    | nil => exact absurd rfl h
    | cons b ys => rfl
  | cons a xs ih => cases ys with
    | nil => rfl
    | cons b ys => rw [all2, ih ys (by simpa using h), Bool.and_false]
theorem all2_snoc {α : Type} (f : α → α → Bool) (xs ys : List α) (k : Nat) (ha : k < xs.length) (hb : k < ys.length) : all2 f (xs.take (k + 1)) (ys.take (k + 1)) = (all2 f (xs.take k) (ys.take k) && f xs[k] ys[k]) := by
  induction xs generalizing ys k with
  | nil => simp at ha
  | cons a xs ih => cases ys with
    | nil => simp at hb
    | cons b ys => cases k with
      | zero => simp [all2]
      | succ k => simp only [List.take_succ_cons, all2, List.getElem_cons_succ]; rw [ih ys k (by simpa using ha) (by simpa using hb), Bool.and_assoc]
theorem all2_cut {α : Type} (f : α → α → Bool) (xs ys : List α) (k : Nat) (ha : k < xs.length) (hb : k < ys.length) (hf : f xs[k] ys[k] = false) : all2 f xs ys = false := by
  induction xs generalizing ys k with
  | nil => simp at ha
  | cons a xs ih => cases ys with
    | nil => simp at hb
    | cons b ys => cases k with
      | zero => simp at hf; simp [all2, hf]
      | succ k => rw [all2, ih ys k (by simpa using ha) (by simpa using hb) (by simpa using hf), Bool.and_false]
theorem all2_iff {α : Type} (f : α → α → Bool) (xs ys : List α) : all2 f xs ys = true ↔ xs.length = ys.length ∧ ∀ (k : Nat) (ha : k < xs.length) (hb : k < ys.length), f xs[k] ys[k] = true := by
  constructor
  · intro h
    refine ⟨Decidable.byContradiction fun hl => (by rw [all2_len f xs ys hl] at h; exact Bool.noConfusion h), fun k ha hb => ?_⟩
    cases hf : f xs[k] ys[k]
    · rw [all2_cut f xs ys k ha hb hf] at h; cases h
    · rfl
  · rintro ⟨hl, h⟩
    induction xs generalizing ys with
    | nil => cases ys with
      | nil => rfl
      | cons b ys => simp at hl
    | cons a xs ih => cases ys with
      | nil => simp at hl
      | cons b ys =>
        have h0 := h 0 (by simp) (by simp)
        simp at h0
        simp only [all2, h0, Bool.true_and]
        exact ih ys (by simpa using hl) (fun k ha hb => by have := h (k + 1) (by simpa using ha) (by simpa using hb); simpa using this)
mutual
/-- Two expressions are the same but for places. -/
def Ex.same : Ex → Ex → Bool
  | .mk op mon name n _ _ kids _, .mk op' mon' name' n' _ _ kids' _ => (op == op') && (mon.toList == mon'.toList) && (name.toList == name'.toList) && (n == n') && Ex.sameL kids kids'
def Ex.sameL : List Ex → List Ex → Bool
  | [], [] => true
  | a :: xs, b :: ys => a.same b && Ex.sameL xs ys
  | _, _ => false
end
theorem Ex.sameL_eq (xs ys : List Ex) : Ex.sameL xs ys = all2 Ex.same xs ys := by
  induction xs generalizing ys with
  | nil => cases ys <;> simp [Ex.sameL, all2]
  | cons a xs ih => cases ys with
    | nil => simp [Ex.sameL, all2]
    | cons b ys => simp [Ex.sameL, all2, ih]
mutual
/-- An expression and all its parts, from the left. -/
def Ex.subs : Ex → List Ex
  | .mk op mon name n ad cap kids pos => .mk op mon name n ad cap kids pos :: Ex.subsL kids
def Ex.subsL : List Ex → List Ex
  | [] => []
  | e :: es => e.subs ++ Ex.subsL es
end
theorem Ex.subsL_eq (l : List Ex) : Ex.subsL l = l.flatMap Ex.subs := by
  induction l with
  | nil => simp [Ex.subsL]
  | cons a l ih => simp [Ex.subsL, ih]
theorem Ex.subsL_snoc (l : List Ex) (k : Nat) (h : k < l.length) : Ex.subsL (l.take (k + 1)) = Ex.subsL (l.take k) ++ l[k].subs := by
  rw [Ex.subsL_eq, Ex.subsL_eq, List.take_succ_eq_append_getElem h, List.flatMap_append, List.flatMap_cons, List.flatMap_nil, List.append_nil]
theorem Ex.subs_mk (op : Int) (mon name : ByteArray) (n : Int) (ad : Option Addr) (cap : Nat) (kids : List Ex) (pos : Int) : (Ex.mk op mon name n ad cap kids pos).subs = .mk op mon name n ad cap kids pos :: Ex.subsL kids := by rw [Ex.subs]
/-- What is a part of an expression lies where it lies. -/
theorem Ex.Is.subs {n₀ : Nat} {W : World} {e : Ex} : e.Is n₀ W → ∀ x ∈ e.subs, x.Is n₀ W := by
  induction e using Ex.ind with
  | h op mon name n ad cap kids pos ih =>
    intro h x hx
    rw [Ex.subs_mk, List.mem_cons, Ex.subsL_eq, List.mem_flatMap] at hx
    rcases hx with rfl | ⟨y, hy, hx⟩
    · exact h
    · exact ih y hy (h.down.2.2 y hy) x hx
end Go.Proofs.YtopiceoofdlkbaaDoor
