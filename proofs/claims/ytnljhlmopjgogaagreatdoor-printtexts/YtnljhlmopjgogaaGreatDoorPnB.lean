/-
  Statements, monitors, roles and programs as texts, and how many levels lie within one another in them; bounds. Nothing is walked here.
-/
import Derived.Test.YtnljhlmopjgogaaGreatDoorPnA
import Derived.Test.YtnljhlmopjgogaaGreatDoorRtA
namespace Go.Proofs.YtnljhlmopjgogaaGreatDoor
open Go.RowKit Px
namespace Px
/-- A line. -/
def lin (o : Nat) (s : List UInt8) : List UInt8 := ind o ++ s ++ [10]
/-- A block in braces, the i-th one. -/
def blkT (o : Nat) (word : List UInt8) (i : Nat) (b : List UInt8) : List UInt8 := (if i = 0 then [] else 32 :: word) ++ ([32, 123, 10] ++ (b ++ (ind o ++ [125])))
/-- Blocks one behind the other, from the i-th one on. -/
def blksT (o : Nat) (word : List UInt8) : List (List UInt8) → Nat → List UInt8
  | [], _ => []
  | b :: r, i => blkT o word i b ++ blksT o word r (i + 1)
theorem blksT_app (o : Nat) (word : List UInt8) (l r : List (List UInt8)) (i : Nat) : blksT o word (l ++ r) i = blksT o word l i ++ blksT o word r (i + l.length) := by
  induction l generalizing i with
  | nil => simp [blksT]
  | cons b l ih => simp only [List.cons_append, blksT, ih, List.append_assoc, List.length_cons]; rw [show i + 1 + l.length = i + (l.length + 1) by omega]
theorem blksT_snoc (o : Nat) (word : List UInt8) (l : List (List UInt8)) (k : Nat) (h : k < l.length) : blksT o word (l.take (k + 1)) 0 = blksT o word (l.take k) 0 ++ blkT o word k l[k] := by
  rw [List.take_succ_eq_append_getElem h, blksT_app, List.length_take]
  simp [blksT, Nat.min_eq_left (Nat.le_of_lt h)]
/-- The text of a statement, those of its expression and its blocks being given. -/
def stOf (o : Nat) (kind : Int) (mon name : ByteArray) (n : Int) (et : List UInt8) (bs : List (List UInt8)) : List UInt8 :=
  if kind = 1 then lin o [115, 107, 105, 112, 59]
  else if kind = 2 then ind o ++ (mon.data.toList ++ 46 :: (name.data.toList ++ [32, 61, 32])) ++ et ++ [59, 10]
  else if kind = 3 then ind o ++ [105, 102, 32] ++ et ++ blksT o [101, 108, 115, 101] bs 0 ++ [10]
  else if kind = 4 then ind o ++ [119, 104, 105, 108, 101, 32] ++ et ++ blksT o [] bs 0 ++ [10]
  else if kind = 5 then ind o ++ [108, 111, 111, 112] ++ blksT o [] bs 0 ++ [10]
  else if kind = 6 then ind o ++ [99, 104, 111, 111, 115, 101] ++ blksT o [111, 114] bs 0 ++ [10]
  else if kind = 7 then ind o ++ ([115, 121, 110, 99, 32] ++ mon.data.toList) ++ blksT o [] bs 0 ++ [10]
  else if kind = 8 then lin o ([99, 97, 108, 108, 32] ++ (mon.data.toList ++ 46 :: (name.data.toList ++ [59])))
  else if kind = 9 then ind o ++ ([119, 97, 105, 116, 32] ++ mon.data.toList) ++ (if 0 < n then 32 :: Lib.itoa n else []) ++ [59, 10]
  else if kind = 10 then lin o ([110, 111, 116, 105, 102, 121, 32] ++ (mon.data.toList ++ [59]))
  else lin o ([110, 111, 116, 105, 102, 121, 97, 108, 108, 32] ++ (mon.data.toList ++ [59]))
end Px
mutual
def St.txt : St → Nat → List UInt8
  | .mk kind mon name n e _ _ blocks _, o => stOf o kind mon name n (e.txt 1) (Bl.txtL blocks (o + 1))
def Bl.txt : Bl → Nat → List UInt8
  | .mk _ _ body, o => St.txtL body o
def St.txtL : List St → Nat → List UInt8
  | [], _ => []
  | s :: r, o => s.txt o ++ St.txtL r o
def Bl.txtL : List Bl → Nat → List (List UInt8)
  | [], _ => []
  | b :: r, o => b.txt o :: Bl.txtL r o
end
theorem St.txtL_eq (l : List St) (o : Nat) : St.txtL l o = l.flatMap (fun s => s.txt o) := by
  induction l with
  | nil => simp [St.txtL]
  | cons a l ih => simp [St.txtL, ih]
theorem Bl.txtL_eq (l : List Bl) (o : Nat) : Bl.txtL l o = l.map (fun b => b.txt o) := by
  induction l with
  | nil => simp [Bl.txtL]
  | cons a l ih => simp [Bl.txtL, ih]
theorem St.txt_mk (kind : Int) (mon name : ByteArray) (n : Int) (e : Ex) (ad : Option Addr) (cap : Nat) (blocks : List Bl) (pos : Int) (o : Nat) : (St.mk kind mon name n e ad cap blocks pos).txt o = stOf o kind mon name n (e.txt 1) (blocks.map fun b => b.txt (o + 1)) := by rw [St.txt, Bl.txtL_eq]
theorem Bl.txt_mk (ad : Option Addr) (cap : Nat) (body : List St) (o : Nat) : (Bl.mk ad cap body).txt o = body.flatMap (fun s => s.txt o) := by rw [Bl.txt, St.txtL_eq]
mutual
def St.nst : St → Nat → Nat
  | .mk _ _ _ _ e _ _ blocks _, o => max (o + e.nest 1) (Bl.nstL blocks (o + 1))
def Bl.nst : Bl → Nat → Nat
  | .mk _ _ body, o => max o (St.nstL body o)
def St.nstL : List St → Nat → Nat
  | [], _ => 0
  | s :: r, o => max (s.nst o) (St.nstL r o)
def Bl.nstL : List Bl → Nat → Nat
  | [], _ => 0
  | b :: r, o => max (b.nst o) (Bl.nstL r o)
end
/-- The greatest one. -/
def maxL {α : Type} (f : α → Nat) : List α → Nat
  | [] => 0
  | a :: r => max (f a) (maxL f r)
theorem maxL_snoc {α : Type} (f : α → Nat) (l : List α) (k : Nat) (h : k < l.length) : maxL f (l.take (k + 1)) = max (maxL f (l.take k)) (f l[k]) := by
  induction l generalizing k with
  | nil => simp at h
  | cons a l ih =>
    cases k with
    | zero => simp [maxL]
    | succ k => simp only [List.take_succ_cons, maxL, List.getElem_cons_succ]; rw [ih k (by simpa using h)]; omega
theorem maxL_le {α : Type} (f : α → Nat) (l : List α) (n : Nat) (h : ∀ a ∈ l, f a ≤ n) : maxL f l ≤ n := by
  induction l with
  | nil => simp [maxL]
  | cons a l ih => simp only [maxL]; have := h a (by simp); have := ih (fun x hx => h x (by simp [hx])); omega
theorem St.nstL_eq (l : List St) (o : Nat) : St.nstL l o = maxL (fun s => s.nst o) l := by
  induction l with
  | nil => simp [St.nstL, maxL]
  | cons a l ih => simp [St.nstL, maxL, ih]
theorem Bl.nstL_eq (l : List Bl) (o : Nat) : Bl.nstL l o = maxL (fun b => b.nst o) l := by
  induction l with
  | nil => simp [Bl.nstL, maxL]
  | cons a l ih => simp [Bl.nstL, maxL, ih]
theorem St.nst_mk (kind : Int) (mon name : ByteArray) (n : Int) (e : Ex) (ad : Option Addr) (cap : Nat) (blocks : List Bl) (pos : Int) (o : Nat) : (St.mk kind mon name n e ad cap blocks pos).nst o = max (o + e.nest 1) (maxL (fun b => b.nst (o + 1)) blocks) := by rw [St.nst, Bl.nstL_eq]
theorem Bl.nst_mk (ad : Option Addr) (cap : Nat) (body : List St) (o : Nat) : (Bl.mk ad cap body).nst o = max o (maxL (fun s => s.nst o) body) := by rw [Bl.nst, St.nstL_eq]
theorem sum_ge {α : Type} (f : α → Nat) (l : List α) (a : α) (h : a ∈ l) : f a ≤ (l.map f).sum := by
  induction l with
  | nil => cases h
  | cons b l ih =>
    rcases List.mem_cons.1 h with rfl | h
    · simp
    · have := ih h; simp; omega
theorem none_nest {e : Ex} (h : e.none = true) : e.nest 1 = 0 ∧ e.subs.length = 1 := by
  rcases e with ⟨op, mon, name, n, ad, cap, kids, pos⟩
  have hk : kids = [] ∧ op = 0 := by
    unfold Ex.none at h
    rw [Ex.same] at h
    simp only [Bool.and_eq_true, beq_iff_eq] at h
    refine ⟨?_, h.1.1.1.1⟩
    have h2 := h.2
    cases kids with
    | nil => rfl
    | cons a r => simp [Ex.sameL] at h2
  obtain ⟨rfl, rfl⟩ := hk
  refine ⟨?_, by rw [Ex.subs_mk]; simp [Ex.subsL]⟩
  simp [Ex.nest, nestL, Ex.nst_mk, nestOf, Ex.opOf, own, signed]
theorem exnest_le (e : Ex) : e.nest 1 ≤ 2 * (if e.none then 0 else e.subs.length) := by
  cases h : e.none
  · have h1 := nst_le e
    have h2 : 1 ≤ e.subs.length := by rcases e with ⟨⟩; rw [Ex.subs_mk, List.length_cons]; omega
    simp only [Ex.nest, nestL, Bool.false_eq_true, if_false]
    split <;> omega
  · have := (none_nest h).1; omega
/-- How deep a block is, at most. -/
theorem blnst_le (b : Bl) : ∀ o, b.nst o ≤ o + 2 * b.sz :=
  Bl.ind (P := fun s => ∀ o, s.nst o ≤ o + 2 * s.tot) (Q := fun b => ∀ o, b.nst o ≤ o + 2 * b.sz)
    (fun kind mon name n e ad cap blocks pos ih o => by
      rw [St.nst_mk, St.tot_mk]
      have h1 := exnest_le e
      have h2 : maxL (fun b : Bl => b.nst (o + 1)) blocks ≤ o + 1 + 2 * (blocks.map Bl.sz).sum := maxL_le _ _ _ (fun b hb => by have := ih b hb (o + 1); have := sum_ge Bl.sz blocks b hb; omega)
      omega)
    (fun ad cap body ih o => by
      rw [Bl.nst_mk, Bl.sz_mk]
      have h2 : maxL (fun s : St => s.nst o) body ≤ o + 2 * (body.map St.tot).sum := maxL_le _ _ _ (fun s hs => by have := ih s hs o; have := sum_ge St.tot body s hs; omega)
      omega) b
theorem stnst_le (s : St) (o : Nat) : s.nst o ≤ o + 2 * s.tot := by
  rcases s with ⟨kind, mon, name, n, e, ad, cap, blocks, pos⟩
  rw [St.nst_mk, St.tot_mk]
  have h1 := exnest_le e
  have h2 : maxL (fun b : Bl => b.nst (o + 1)) blocks ≤ o + 1 + 2 * (blocks.map Bl.sz).sum := maxL_le _ _ _ (fun b hb => by have := blnst_le b (o + 1); have := sum_ge Bl.sz blocks b hb; omega)
  omega
end Go.Proofs.YtnljhlmopjgogaaGreatDoor
