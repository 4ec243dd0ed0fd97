/-
  Expressions and programs as texts, and how many levels lie within one another: plain Lean functions on plain trees, and bounds. Nothing is walked here.
-/
import Derived.Test.YtnljhlmopjgogaaGreatDoorShB
import Derived.Test.YtnljhlmopjgogaaGreatDoorPtA
namespace Go.Proofs.YtnljhlmopjgogaaGreatDoor
open Go.RowKit Px
namespace Px
/-- A text, written at a level. -/
def atL (l : Nat) (op : Int) (s : List UInt8) : List UInt8 := if own op < l then 40 :: (s ++ [41]) else s
def kid (ks : List (Int × List UInt8)) (i l : Nat) : List UInt8 := atL l (ks.getD i (0, [])).1 (ks.getD i (0, [])).2
/-- The text of an expression without parentheses of its own, its kids' texts being given. -/
def bareOf (op : Int) (mon name : ByteArray) (n : Int) (ks : List (Int × List UInt8)) : List UInt8 :=
  if op = 1 then Lib.itoa n
  else if op = 2 then [116, 114, 117, 101]
  else if op = 3 then [102, 97, 108, 115, 101]
  else if op = 4 then mon.data.toList ++ 46 :: name.data.toList
  else if op = 5 ∨ op = 6 then (sgnOf op).1.data.toList ++ kid ks 0 (sgnOf op).2.2.2
  else if op = 7 then Lib.itoa n ++ ((sgnOf op).1.data.toList ++ kid ks 0 (sgnOf op).2.2.2)
  else kid ks 0 (sgnOf op).2.2.1 ++ ((sgnOf op).1.data.toList ++ kid ks 1 (sgnOf op).2.2.2)
/-- How many levels lie within one another, at a level. -/
def nestL (l : Nat) (op : Int) (k : Nat) : Nat := (if own op < l then 1 else 0) + k
def nkid (ks : List (Int × Nat)) (i l : Nat) : Nat := nestL l (ks.getD i (0, 0)).1 (ks.getD i (0, 0)).2
def nestOf (op : Int) (ks : List (Int × Nat)) : Nat :=
  if ks.length = 1 then 1 + nkid ks 0 (sgnOf op).2.2.2
  else if ks.length = 2 then max (nkid ks 0 (sgnOf op).2.2.1) (nkid ks 1 (sgnOf op).2.2.2)
  else 0
end Px
mutual
def Ex.bare : Ex → List UInt8
  | .mk op mon name n _ _ kids _ => bareOf op mon name n (Ex.bareL kids)
def Ex.bareL : List Ex → List (Int × List UInt8)
  | [] => []
  | e :: es => (e.opOf, e.bare) :: Ex.bareL es
end
theorem Ex.bareL_eq (l : List Ex) : Ex.bareL l = l.map fun e => (e.opOf, e.bare) := by
  induction l with
  | nil => simp [Ex.bareL]
  | cons a l ih => simp [Ex.bareL, ih]
theorem Ex.bare_mk (op : Int) (mon name : ByteArray) (n : Int) (ad : Option Addr) (cap : Nat) (kids : List Ex) (pos : Int) : (Ex.mk op mon name n ad cap kids pos).bare = bareOf op mon name n (kids.map fun e => (e.opOf, e.bare)) := by rw [Ex.bare, Ex.bareL_eq]
/-- An expression's text at a level. -/
def Ex.txt (e : Ex) (l : Nat) : List UInt8 := atL l e.opOf e.bare
mutual
def Ex.nst : Ex → Nat
  | .mk op _ _ _ _ _ kids _ => nestOf op (Ex.nstL kids)
def Ex.nstL : List Ex → List (Int × Nat)
  | [] => []
  | e :: es => (e.opOf, e.nst) :: Ex.nstL es
end
theorem Ex.nstL_eq (l : List Ex) : Ex.nstL l = l.map fun e => (e.opOf, e.nst) := by
  induction l with
  | nil => simp [Ex.nstL]
  | cons a l ih => simp [Ex.nstL, ih]
theorem Ex.nst_mk (op : Int) (mon name : ByteArray) (n : Int) (ad : Option Addr) (cap : Nat) (kids : List Ex) (pos : Int) : (Ex.mk op mon name n ad cap kids pos).nst = nestOf op (kids.map fun e => (e.opOf, e.nst)) := by rw [Ex.nst, Ex.nstL_eq]
/-- How many levels lie within one another in an expression at a level. -/
def Ex.nest (e : Ex) (l : Nat) : Nat := nestL l e.opOf e.nst
theorem kid_at (kids : List Ex) (i l : Nat) (h : i < kids.length) : kid (kids.map fun e => (e.opOf, e.bare)) i l = kids[i].txt l := by
  simp [kid, Ex.txt, List.getD, h]
theorem nkid_at (kids : List Ex) (i l : Nat) (h : i < kids.length) : nkid (kids.map fun e => (e.opOf, e.nst)) i l = kids[i].nest l := by
  simp [nkid, Ex.nest, List.getD, h]
/-- Digits are few. -/
theorem decDigits_len (u : Nat) : ∀ k : Nat, u < 10 ^ (k + 1) → (Lib.decDigits u).length ≤ k + 1 := by
  intro k
  induction k generalizing u with
  | zero => intro h; rw [Lib.decDigits, dif_pos (by simpa using h)]; simp
  | succ k ih =>
    intro h
    by_cases h10 : u < 10
    · rw [Lib.decDigits, dif_pos h10]; simp
    · rw [Lib.decDigits, dif_neg h10, List.length_append]
      have := ih (u / 10) (by rw [Nat.pow_succ] at h; omega)
      simp; omega
theorem itoa_len (n : Int) (h : I64 n) : (Lib.itoa n).length ≤ 20 := by
  unfold I64 at h
  unfold Lib.itoa
  split
  · have := decDigits_len n.natAbs 18 (by omega)
    simp; omega
  · have := decDigits_len n.toNat 18 (by omega)
    omega
theorem atL_len (l : Nat) (op : Int) (s : List UInt8) : (atL l op s).length ≤ s.length + 2 := by
  unfold atL; split <;> simp
theorem sgn_len (k : Nat) : (sgn k).1.data.toList.length ≤ 4 := by
  unfold sgn; split <;> simp
theorem sgnOf_len (op : Int) : (sgnOf op).1.data.toList.length ≤ 4 := by
  unfold sgnOf; split
  · exact sgn_len _
  · simp
theorem own_le (op : Int) : own op ≤ 6 := by
  unfold own
  split
  · unfold sgn; split <;> simp
  · exact Nat.le_refl _
theorem name_len {s : ByteArray} (h : Lx.name s = true) : s.data.toList.length ≤ 32 := by
  have : s.size ≤ 32 := by unfold Lx.name at h; simp at h; omega
  simpa using this
theorem fits_len {s : ByteArray} {b : Bool} (h : fitsName s b = true) : s.data.toList.length ≤ 32 := by
  unfold fitsName at h
  split at h
  · exact name_len h
  · have := of_decide_eq_true h
    have e : s.data.toList.length = s.size := by simp
    omega
theorem Ex.ok_mk {op : Int} {mon name : ByteArray} {n : Int} {ad : Option Addr} {cap : Nat} {kids : List Ex} {pos : Int} (h : (Ex.mk op mon name n ad cap kids pos).ok = true) : (Ex.mk op mon name n ad cap kids pos).ok1 = true ∧ ∀ x ∈ kids, x.ok = true := by
  refine ⟨ok_op h, fun x hx => ?_⟩
  unfold Ex.ok at h ⊢
  rw [List.all_eq_true] at h ⊢
  intro y hy
  apply h
  rw [Ex.subs_mk, Ex.subsL_eq]
  exact List.mem_cons_of_mem _ (List.mem_flatMap.2 ⟨x, hx, hy⟩)
theorem kid_len (kids : List Ex) (i l : Nat) (hb : ∀ x ∈ kids, x.bare.length ≤ 100 * x.subs.length) : (kid (kids.map fun e => (e.opOf, e.bare)) i l).length ≤ 100 * (kids[i]?.map (·.subs.length)).getD 0 + 2 := by
  by_cases h : i < kids.length
  · rw [kid_at kids i l h]
    have h1 := atL_len l kids[i].opOf kids[i].bare
    have h2 := hb _ (List.getElem_mem h)
    simp [h, Ex.txt]; omega
  · have h1 := atL_len l 0 []
    simp [kid, List.getD, h] at h1 ⊢
    exact h1
theorem subs_two (kids : List Ex) : (kids[0]?.map (·.subs.length)).getD 0 + (kids[1]?.map (·.subs.length)).getD 0 ≤ (Ex.subsL kids).length := by
  match kids with
  | [] => simp
  | [a] => simp [Ex.subsL]
  | a :: b :: r => simp [Ex.subsL]
theorem bare_len (e : Ex) (n₀ : Nat) (W : World) : e.Is n₀ W → e.ok = true → e.bare.length ≤ 100 * e.subs.length := by
  induction e using Ex.ind with
  | h op mon name n ad cap kids pos ih =>
    intro hI hok
    obtain ⟨h1, hks⟩ := Ex.ok_mk hok
    have hb := fun x hx => ih x hx (hI.down.2.2 x hx) (hks x hx)
    have hi := itoa_len n hI.down.1.2.1
    have hs := sgnOf_len op
    have k0 := fun l => kid_len kids 0 l hb
    have k1 := fun l => kid_len kids 1 l hb
    have h2 := subs_two kids
    have hm : mon.data.toList.length ≤ 32 ∧ name.data.toList.length ≤ 32 := by
      simp only [Ex.ok1, Bool.and_eq_true] at h1
      exact ⟨fits_len h1.2.1.1.1, fits_len h1.2.1.1.2⟩
    rw [Ex.bare_mk, Ex.subs_mk, List.length_cons]
    unfold bareOf
    have k00 := k0 (sgnOf op).2.2.2
    have k01 := k0 (sgnOf op).2.2.1
    have k11 := k1 (sgnOf op).2.2.2
    split
    · omega
    split
    · simp; omega
    split
    · simp; omega
    split
    · simp only [List.length_append, List.length_cons]; omega
    split
    · simp only [List.length_append]; omega
    split
    · simp only [List.length_append]; omega
    · simp only [List.length_append]; omega
theorem nst_le (e : Ex) : e.nst ≤ 2 * e.subs.length - 1 := by
  induction e using Ex.ind with
  | h op mon name n ad cap kids pos ih =>
    rw [Ex.nst_mk, Ex.subs_mk, List.length_cons]
    have h2 := subs_two kids
    have hk : ∀ i l, nkid (kids.map fun e => (e.opOf, e.nst)) i l ≤ 2 * (kids[i]?.map (·.subs.length)).getD 0 ∨ kids.length ≤ i := by
      intro i l
      by_cases h : i < kids.length
      · refine .inl ?_
        rw [nkid_at kids i l h]
        have h3 := ih _ (List.getElem_mem h)
        have h4 : 1 ≤ kids[i].subs.length := by rcases kids[i] with ⟨⟩; rw [Ex.subs_mk, List.length_cons]; omega
        simp only [Ex.nest, nestL, h, List.getElem?_eq_getElem, Option.map_some, Option.getD_some]
        split <;> omega
      · exact .inr (by omega)
    unfold nestOf
    split
    · rename_i hl
      rw [List.length_map] at hl
      rcases hk 0 (sgnOf op).2.2.2 with h | h <;> omega
    split
    · rename_i hl
      rw [List.length_map] at hl
      rcases hk 0 (sgnOf op).2.2.1 with h | h <;> rcases hk 1 (sgnOf op).2.2.2 with h' | h' <;> omega
    · omega
end Go.Proofs.YtnljhlmopjgogaaGreatDoor
