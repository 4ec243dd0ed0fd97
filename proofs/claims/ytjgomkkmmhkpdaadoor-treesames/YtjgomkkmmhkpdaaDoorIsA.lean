/-
  The document's own answer for statements: IsStmts. What it asks of one statement.
-/
import Derived.Test.YtjgomkkmmhkpdaaDoorFmA
namespace Go.Proofs.YtjgomkkmmhkpdaaDoor
open Go.RowKit
theorem name_ne {s : ByteArray} (h : Lx.name s = true) : s.toList.isEmpty = false := by
  rw [isEmpty_size, decide_eq_false_iff_not]
  intro h0
  rw [Lx.name_zero s h0] at h
  cases h
theorem fitsName_doc (s : ByteArray) (b : Bool) : fitsName s b = (!(b != !s.toList.isEmpty) && !(b && !Lx.name s)) := by
  cases b
  · simp [fitsName, isEmpty_size]
  · cases h : Lx.name s
    · simp [fitsName, h]
    · simp [fitsName, h, name_ne h]
theorem fitsNum_doc (n : Int) (b : Bool) : fitsNum n b = (!decide (n < 0) && !(!b && (n != 0))) := by
  cases b
  · rw [num_f]; simp
  · rw [num_t]; simp
theorem stok_doc (k : Nat) (mon name : ByteArray) (n : Int) (e : Ex) (ad : Option Addr) (cap : Nat) (blocks : List Bl) (pos : Int) (h1 : 1 ≤ k) (h2 : k ≤ 11) :
    (St.mk (k : Int) mon name n e ad cap blocks pos).ok1 = (!decide ((blocks.length : Int) < (stLeast k : Int)) && !decide ((stMost k : Int) < (blocks.length : Int)) && !(stMon k != !mon.toList.isEmpty) && !(stName k != !name.toList.isEmpty) &&
      !(stMon k && !Lx.name mon) && !(stName k && !Lx.name name) && !decide (n < 0) && !(!stNumber k && (n != 0)) && !(stExpr k && !e.ok || !stExpr k && !e.none)) := by
  have a1 : decide (1 ≤ (k : Int)) = true := by simp; omega
  have a2 : decide ((k : Int) ≤ 11) = true := by simp; omega
  have a3 : decide (stLeast k ≤ blocks.length) = !decide ((blocks.length : Int) < (stLeast k : Int)) := by rw [Bool.eq_iff_iff]; simp
  have a4 : decide (blocks.length ≤ stMost k) = !decide ((stMost k : Int) < (blocks.length : Int)) := by rw [Bool.eq_iff_iff]; simp
  have a5 : fitsEx e (stExpr k) = !(stExpr k && !e.ok || !stExpr k && !e.none) := by cases stExpr k <;> simp [fitsEx]
  simp only [St.ok1, a1, a2, Int.toNat_natCast, a3, a4, a5, fitsName_doc, fitsNum_doc, Bool.true_and]
  grind
theorem stok_no (kind : Int) (mon name : ByteArray) (n : Int) (e : Ex) (ad : Option Addr) (cap : Nat) (blocks : List Bl) (pos : Int) (h : ¬ (1 ≤ kind ∧ kind ≤ 11)) : (St.mk kind mon name n e ad cap blocks pos).ok1 = false := by
  simp only [St.ok1]
  rw [show (decide (1 ≤ kind) && decide (kind ≤ 11)) = false by rw [Bool.and_eq_false_iff, decide_eq_false_iff_not, decide_eq_false_iff_not]; omega]
  rfl
/-- All statements of a block are right. -/
def Bl.ok (b : Bl) : Bool := b.subs.all St.ok1
theorem St.sok_mk (kind : Int) (mon name : ByteArray) (n : Int) (e : Ex) (ad : Option Addr) (cap : Nat) (blocks : List Bl) (pos : Int) :
    (St.mk kind mon name n e ad cap blocks pos).subs.all St.ok1 = ((St.mk kind mon name n e ad cap blocks pos).ok1 && blocks.all Bl.ok) := by
  rw [St.subs_mk, List.all_cons, List.all_flatMap]
  rfl
theorem Bl.ok_mk (ad : Option Addr) (cap : Nat) (body : List St) : (Bl.mk ad cap body).ok = body.all fun s => s.subs.all St.ok1 := by
  rw [Bl.ok, Bl.subs_mk, List.all_flatMap]
end Go.Proofs.YtjgomkkmmhkpdaaDoor
