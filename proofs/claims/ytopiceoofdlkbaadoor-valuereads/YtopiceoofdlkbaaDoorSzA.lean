/-
  Size of package tree: how many statements and expressions a program has in all.
-/
import Derived.Test.YtopiceoofdlkbaaDoorCkE
namespace Go.Proofs.YtopiceoofdlkbaaDoor
open Go.RowKit Go.Shelf
attribute [local go_sem] Oper.semAt_some
/-- A statement and its expression. -/
def St.sz (s : St) : Nat := 1 + if s.e.none then 0 else s.e.subs.length
def Pr.size (p : Pr) : Nat := (p.stmts.map St.sz).sum
/-- What statements come to. -/
def szA {n₀ : Nat} {w : World} (l : List (StA n₀ w)) : Nat := ((l.map Subtype.val).map St.sz).sum
theorem szA_snoc {n₀ : Nat} {w : World} (l : List (StA n₀ w)) (x : StA n₀ w) : szA (l ++ [x]) = szA l + x.1.sz := by simp [szA]
theorem wrap_next (x : Int) : wrap64 (wrap64 x + 1) = wrap64 (x + 1) := by unfold wrap64; omega
theorem wrap_small (n : Nat) (h : n ≤ 1000000) : wrap64 (n : Int) = n := by unfold wrap64; omega
theorem exBox_set {W : World} {Bx b : Nat} {s : Ex} (h : ExBox W Bx s) (hne : Bx ≠ b) (v : Value) : ExBox (W.setCell ⟨b, 0, none⟩ v) Bx s := ((grownBy_setCell' W b v).block Bx h.lt (fun e => hne (by cases e; rfl))).trans h
theorem stBox_set {W : World} {Bx b : Nat} {s : St} (h : StBox W Bx s) (hne : Bx ≠ b) (v : Value) : StBox (W.setCell ⟨b, 0, none⟩ v) Bx s := ((grownBy_setCell' W b v).block Bx h.lt (fun e => hne (by cases e; rfl))).trans h
theorem ownFrom_kp {β : Type} {n₀ B B' : Nat} {W : World} (h1 : n₀ ≤ W.heap.size) (h2 : n₀ ≤ B') : OwnFrom B' (fun (_ : β) W' => Kp n₀ B W W') :=
  fun s X Y row hs hg hr => ⟨ownFrom_below h1 h2 s X Y row hs.1 hg hr, fun k c t z hk ht hc => by
    have hX := hs.2 k c t z hk ht hc
    refine (hg.block k (Array.getElem?_eq_some_iff.1 hX).1 (fun e => ?_)).trans hX
    obtain ⟨_, o, ho, hoc⟩ := hr k e.symm
    rw [hX] at ho; cases ho; cases hoc⟩
end Go.Proofs.YtopiceoofdlkbaaDoor
