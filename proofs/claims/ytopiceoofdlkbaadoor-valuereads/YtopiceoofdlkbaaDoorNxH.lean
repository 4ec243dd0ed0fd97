/-
  declare of package names: the first name of a monitor, variable or method that is there already; else the scope of all.
-/
import Derived.Test.YtopiceoofdlkbaaDoorNxG
namespace Go.Proofs.YtopiceoofdlkbaaDoor
open Go.RowKit
theorem Scope.snoc {W : World} {b c : Nat} {S : List (ByteArray × List (ByteArray × Int))} {B : List Nat} {x : ByteArray × List (ByteArray × Int)} (hl : B.length = S.length) (hm : SMap W b (outer S B ++ [(x.1, .map (some c))])) (hB : ∀ (i : Nat) (h : i < S.length) (h' : i < B.length), B[i] ≠ b ∧ SMap W B[i] (ints S[i].2)) (hc : c ≠ b) (hcm : SMap W c (ints x.2)) : Scope W b (S ++ [x]) (B ++ [c]) := by
  refine ⟨by simp [hl], ?_, fun i h h' => ?_⟩
  · rw [outer_snoc _ _ hl]; exact hm
  · by_cases hi : i < S.length
    · rw [List.getElem_append_left (by omega), List.getElem_append_left hi]
      exact hB i hi (by omega)
    · have e1 : i = S.length := by simp at h; omega
      subst e1
      rw [List.getElem_append_right (by omega), List.getElem_append_right (by omega)]
      simp [hl]
      exact ⟨hc, hcm⟩
theorem scOf_snoc (l : List Mo) (k : Nat) (h : k < l.length) : scOf (l.take (k + 1)) = scOf (l.take k) ++ [(l[k].name, l[k].nms)] := by
  rw [scOf, List.take_succ_eq_append_getElem h, List.map_append]; rfl
theorem scOf_fst (l : List Mo) : (scOf l).map Prod.fst = l.map Mo.name := by simp [scOf, Function.comp_def]
theorem declM_nil (seen : List ByteArray) : declM seen [] = none := rfl
def vps (l : List Va) : List (ByteArray × Int) := l.map fun v => (v.name, v.pos)
def fps (l : List Me) : List (ByteArray × Int) := l.map fun v => (v.name, v.pos)
def vks (l : List Va) : List (ByteArray × Int) := l.map fun v => (v.name, 1)
def fks (l : List Me) : List (ByteArray × Int) := l.map fun v => (v.name, 2)
theorem vks_fst (l : List Va) : (vks l).map Prod.fst = l.map Va.name := by simp [vks]
theorem fks_fst (l : List Me) : (fks l).map Prod.fst = l.map Me.name := by simp [fks]
theorem vks_snoc (l : List Va) (k : Nat) (h : k < l.length) : vks (l.take (k + 1)) = vks (l.take k) ++ [(l[k].name, 1)] := by rw [vks, List.take_succ_eq_append_getElem h, List.map_append]; rfl
theorem fks_snoc (l : List Me) (k : Nat) (h : k < l.length) : fks (l.take (k + 1)) = fks (l.take k) ++ [(l[k].name, 2)] := by rw [fks, List.take_succ_eq_append_getElem h, List.map_append]; rfl
theorem dupN_var (seen : List ByteArray) (l : List Va) (k : Nat) (h : k < l.length) (r : List (ByteArray × Int)) : dupN seen (vps (l.drop k) ++ r) = if hasN seen l[k].name then some l[k].pos else dupN (seen ++ [l[k].name]) (vps (l.drop (k + 1)) ++ r) := by
  rw [List.drop_eq_getElem_cons h]; rfl
theorem dupN_meth (seen : List ByteArray) (l : List Me) (k : Nat) (h : k < l.length) : dupN seen (fps (l.drop k)) = if hasN seen l[k].name then some l[k].pos else dupN (seen ++ [l[k].name]) (fps (l.drop (k + 1))) := by
  rw [List.drop_eq_getElem_cons h]; rfl
theorem vks_pos (l : List Va) : ∀ x ∈ vks l, x.2 ≠ 0 := by intro x hx; obtain ⟨y, _, rfl⟩ := List.mem_map.1 hx; simp
theorem fks_pos (l : List Me) : ∀ x ∈ fks l, x.2 ≠ 0 := by intro x hx; obtain ⟨y, _, rfl⟩ := List.mem_map.1 hx; simp
/-- What declare tells, and leaves. -/
def DeclBack (bs : Nat) (mons : List Mo) (w w' : World) (r : Ending) : Prop := ((declM [] mons = none ∧ r = .returned (.tuple #[.int .i64 0, .int .i64 0]) ∧ ∃ B, Scope w' bs (scOf mons) B) ∨ (∃ a, declM [] mons = some a ∧ r = .returned (.tuple #[.int .i64 60, .int .i64 a]))) ∧ Below bs w w'
end Go.Proofs.YtopiceoofdlkbaaDoor
