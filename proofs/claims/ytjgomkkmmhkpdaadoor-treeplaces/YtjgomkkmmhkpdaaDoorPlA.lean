/-
  An expression that lies in blocks of which a condition tells; what two expressions that are the same have in common. Nothing is walked here.
-/
import Derived.Test.YtjgomkkmmhkpdaaDoorPtA
namespace Go.Proofs.YtjgomkkmmhkpdaaDoor
open Go.RowKit
/-- A slice lies in a block of which Q tells. -/
def SlOn {α : Type} (size : Nat) (cells : α → List Value) (Q : Nat → Prop) (W : World) (ad : Option Addr) (cap : Nat) (l : List α) : Prop :=
  l.length ≤ cap ∧ cap ≤ maxLen ∧ (l = [] ∨ ∃ b off, ad = some ⟨b, off, none⟩ ∧ Q b ∧ RowAt size cells W b off l)
/-- What an expression asks of its own kids' slice. -/
def Ex.sl (Q : Nat → Prop) (W : World) : Ex → Prop
  | .mk op mon name n ad cap kids pos => (I64 op ∧ I64 n ∧ I64 pos ∧ Len mon ∧ Len name) ∧ SlOn 6 Ex.cells Q W ad cap kids
/-- An expression lies in such blocks, with all its parts. -/
def Ex.On (Q : Nat → Prop) (W : World) (e : Ex) : Prop := ∀ x ∈ e.subs, x.sl Q W
theorem Ex.sl_keep {Q Q' : Nat → Prop} {W W' : World} {e : Ex} (h : e.sl Q W) (hQ : ∀ b, Q b → Q' b) (hk : ∀ b, Q b → W'.heap[b]? = W.heap[b]?) : e.sl Q' W' := by
  rcases e with ⟨op, mon, name, n, ad, cap, kids, pos⟩
  obtain ⟨h1, h2, h3, h4⟩ := h
  refine ⟨h1, h2, h3, ?_⟩
  rcases h4 with h4 | ⟨b, off, h5, h6, h7⟩
  · exact .inl h4
  · exact .inr ⟨b, off, h5, hQ b h6, fun j hj i hi => (World.cell?_of_block (a := ⟨b, _, Option.none⟩) (hk b h6)).trans (h7 j hj i hi)⟩
theorem Ex.On.keep {Q Q' : Nat → Prop} {W W' : World} {e : Ex} (h : e.On Q W) (hQ : ∀ b, Q b → Q' b) (hk : ∀ b, Q b → W'.heap[b]? = W.heap[b]?) : e.On Q' W' :=
  fun x hx => Ex.sl_keep (h x hx) hQ hk
theorem Ex.On.is {n₀ : Nat} {W : World} {e : Ex} : e.On (fun b => b < n₀) W → e.Is n₀ W := by
  induction e using Ex.ind with
  | h op mon name n ad cap kids pos ih =>
    intro h
    have h0 := h _ (by rw [Ex.subs_mk]; exact List.mem_cons_self ..)
    refine Ex.Is.up ⟨h0.1, h0.2, fun x hx => ih x hx (fun y hy => h y ?_)⟩
    rw [Ex.subs_mk, Ex.subsL_eq]
    exact List.mem_cons_of_mem _ (List.mem_flatMap.2 ⟨x, hx, hy⟩)
theorem Ex.On.up {Q : Nat → Prop} {W : World} {op : Int} {mon name : ByteArray} {n : Int} {ad : Option Addr} {cap : Nat} {kids : List Ex} {pos : Int}
    (h0 : I64 op ∧ I64 n ∧ I64 pos ∧ Len mon ∧ Len name) (h1 : SlOn 6 Ex.cells Q W ad cap kids) (h2 : ∀ x ∈ kids, x.On Q W) : (Ex.mk op mon name n ad cap kids pos).On Q W := by
  intro x hx
  rw [Ex.subs_mk, Ex.subsL_eq, List.mem_cons] at hx
  rcases hx with rfl | hx
  · exact ⟨h0, h1⟩
  · obtain ⟨y, hy, hxy⟩ := List.mem_flatMap.1 hx
    exact h2 y hy x hxy
/-- All of an expression but its place and where its kids lie. -/
def Ex.key : Ex → Int × ByteArray × ByteArray × Int × Nat
  | .mk op mon name n _ _ kids _ => (op, mon, name, n, kids.length)
theorem toList_inj {a b : ByteArray} (h : a.toList = b.toList) : a = b := by
  have h' : a.data.toList = b.data.toList := by rw [← ByteArray.toList_eq, ← ByteArray.toList_eq]; exact h
  rcases a with ⟨a⟩; rcases b with ⟨b⟩
  simpa using h'
theorem same_parts {op op' : Int} {mon name mon' name' : ByteArray} {n n' : Int} {ad ad' : Option Addr} {cap cap' : Nat} {kids kids' : List Ex} {pos pos' : Int}
    (h : (Ex.mk op mon name n ad cap kids pos).same (Ex.mk op' mon' name' n' ad' cap' kids' pos') = true) : op = op' ∧ mon = mon' ∧ name = name' ∧ n = n' ∧ all2 Ex.same kids kids' = true := by
  rw [same_mk] at h
  simp only [Bool.and_eq_true, beq_iff_eq] at h
  obtain ⟨⟨⟨⟨h1, h2⟩, h3⟩, h4⟩, h5⟩ := h
  exact ⟨h1, toList_inj h2, toList_inj h3, h4, h5⟩
theorem same_keys (e : Ex) : ∀ f : Ex, e.same f = true → e.subs.map Ex.key = f.subs.map Ex.key := by
  induction e using Ex.ind with
  | h op mon name n ad cap kids pos ih =>
    intro f h
    rcases f with ⟨op', mon', name', n', ad', cap', kids', pos'⟩
    obtain ⟨rfl, rfl, rfl, rfl, h5⟩ := same_parts h
    rw [Ex.subs_mk, Ex.subs_mk, Ex.subsL_eq, Ex.subsL_eq, List.map_cons, List.map_cons]
    have hl := ((all2_iff _ _ _).1 h5).1
    have hL : ∀ (l l' : List Ex), (∀ x ∈ l, ∀ f : Ex, x.same f = true → x.subs.map Ex.key = f.subs.map Ex.key) → all2 Ex.same l l' = true → (l.flatMap Ex.subs).map Ex.key = (l'.flatMap Ex.subs).map Ex.key := by
      intro l
      induction l with
      | nil => intro l' _ h; cases l' with
        | nil => rfl
        | cons a r => simp [all2] at h
      | cons x r ihr => intro l' hx h; cases l' with
        | nil => simp [all2] at h
        | cons a r' =>
          simp only [all2, Bool.and_eq_true] at h
          simp only [List.flatMap_cons, List.map_append]
          rw [hx x (List.mem_cons_self ..) a h.1, ihr r' (fun y hy => hx y (List.mem_cons_of_mem _ hy)) h.2]
    rw [hL kids kids' ih h5]
    simp only [Ex.key, hl]
theorem same_symm (e : Ex) : ∀ f : Ex, e.same f = true → f.same e = true := by
  induction e using Ex.ind with
  | h op mon name n ad cap kids pos ih =>
    intro f h
    rcases f with ⟨op', mon', name', n', ad', cap', kids', pos'⟩
    obtain ⟨rfl, rfl, rfl, rfl, h5⟩ := same_parts h
    rw [same_mk]
    have h6 := (all2_iff _ _ _).1 h5
    have h7 : all2 Ex.same kids' kids = true := (all2_iff _ _ _).2 ⟨h6.1.symm, fun k ha hb => ih _ (List.getElem_mem hb) _ (h6.2 k hb ha)⟩
    simp [h7]
theorem ok1_key {e f : Ex} (h : e.key = f.key) : e.ok1 = f.ok1 := by
  rcases e with ⟨op, mon, name, n, ad, cap, kids, pos⟩
  rcases f with ⟨op', mon', name', n', ad', cap', kids', pos'⟩
  simp only [Ex.key, Prod.mk.injEq] at h
  obtain ⟨rfl, rfl, rfl, rfl, h5⟩ := h
  simp only [Ex.ok1, h5]
theorem vstep_key {e f : Ex} (S : List (ByteArray × ByteArray)) (h : e.key = f.key) : vstep S e = vstep S f := by
  rcases e with ⟨op, mon, name, n, ad, cap, kids, pos⟩
  rcases f with ⟨op', mon', name', n', ad', cap', kids', pos'⟩
  simp only [Ex.key, Prod.mk.injEq] at h
  obtain ⟨rfl, rfl, rfl, rfl, h5⟩ := h
  simp only [vstep]
theorem all_keys (l : List Ex) : ∀ l' : List Ex, l.map Ex.key = l'.map Ex.key → l.all Ex.ok1 = l'.all Ex.ok1 := by
  induction l with
  | nil => intro l' h; cases l' with
    | nil => rfl
    | cons a r => simp at h
  | cons x r ih => intro l' h; cases l' with
    | nil => simp at h
    | cons a r' =>
      simp only [List.map_cons, List.cons.injEq] at h
      simp only [List.all_cons, ok1_key h.1, ih r' h.2]
theorem vars_keys (l : List Ex) : ∀ (l' : List Ex) (S : List (ByteArray × ByteArray)), l.map Ex.key = l'.map Ex.key → l.foldl vstep S = l'.foldl vstep S := by
  induction l with
  | nil => intro l' S h; cases l' with
    | nil => rfl
    | cons a r => simp at h
  | cons x r ih => intro l' S h; cases l' with
    | nil => simp at h
    | cons a r' =>
      simp only [List.map_cons, List.cons.injEq] at h
      simp only [List.foldl_cons, vstep_key S h.1]
      exact ih r' _ h.2
theorem same_ok {e f : Ex} (h : e.same f = true) : e.ok = f.ok := all_keys _ _ (same_keys e f h)
theorem same_vars {e f : Ex} (h : e.same f = true) : varsOf e.subs = varsOf f.subs := vars_keys _ _ _ (same_keys e f h)
theorem same_len {e f : Ex} (h : e.same f = true) : e.subs.length = f.subs.length := by
  have := congrArg List.length (same_keys e f h)
  simpa using this
theorem kid_len {op : Int} {mon name : ByteArray} {n : Int} {ad : Option Addr} {cap : Nat} {kids : List Ex} {pos : Int} {x : Ex} (hx : x ∈ kids) : x.subs.length < (Ex.mk op mon name n ad cap kids pos).subs.length := by
  rw [Ex.subs_mk, Ex.subsL_eq, List.length_cons, List.length_flatMap]
  have : x.subs.length ≤ (kids.map fun a => a.subs.length).sum := by
    induction kids with
    | nil => cases hx
    | cons a r ih =>
      simp only [List.map_cons, List.sum_cons]
      rcases List.mem_cons.1 hx with rfl | hx
      · omega
      · have := ih hx; omega
  omega
theorem subs_pos (e : Ex) : 0 < e.subs.length := by rcases e with ⟨op, mon, name, n, ad, cap, kids, pos⟩; rw [Ex.subs_mk]; simp
theorem kids_len {op : Int} {mon name : ByteArray} {n : Int} {ad : Option Addr} {cap : Nat} {kids : List Ex} {pos : Int} : kids.length < (Ex.mk op mon name n ad cap kids pos).subs.length := by
  rw [Ex.subs_mk, Ex.subsL_eq, List.length_cons, List.length_flatMap]
  have : kids.length ≤ (kids.map fun a => a.subs.length).sum := by
    induction kids with
    | nil => simp
    | cons a r ih => have := subs_pos a; simp only [List.length_cons, List.map_cons, List.sum_cons]; omega
  omega
end Go.Proofs.YtjgomkkmmhkpdaaDoor
