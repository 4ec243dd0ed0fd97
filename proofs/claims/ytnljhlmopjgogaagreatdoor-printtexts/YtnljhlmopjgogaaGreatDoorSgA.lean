/-
  The signs of package print: the map that allSigns makes; what is found in it; enclosed.
-/
import Derived.Test.YtnljhlmopjgogaaGreatDoorTrB
import Derived.MapKept
namespace Go.Proofs.YtnljhlmopjgogaaGreatDoor
open Go.RowKit
namespace Px
/-- The signs: the text, the own level, the first kid's, the last one's. -/
def sgn : Nat → ByteArray × Nat × Nat × Nat
  | 5 => (⟨#[33]⟩, 3, 0, 3)
  | 6 => (⟨#[45]⟩, 6, 0, 6)
  | 7 => (⟨#[32, 42, 32]⟩, 6, 0, 6)
  | 8 => (⟨#[32, 43, 32]⟩, 5, 5, 6)
  | 9 => (⟨#[32, 45, 32]⟩, 5, 5, 6)
  | 10 => (⟨#[32, 61, 61, 32]⟩, 4, 5, 5)
  | 11 => (⟨#[32, 33, 61, 32]⟩, 4, 5, 5)
  | 12 => (⟨#[32, 60, 32]⟩, 4, 5, 5)
  | 13 => (⟨#[32, 60, 61, 32]⟩, 4, 5, 5)
  | 14 => (⟨#[32, 62, 32]⟩, 4, 5, 5)
  | 15 => (⟨#[32, 62, 61, 32]⟩, 4, 5, 5)
  | 16 => (⟨#[32, 38, 38, 32]⟩, 2, 2, 3)
  | 17 => (⟨#[32, 124, 124, 32]⟩, 1, 1, 2)
  | _ => (⟨#[]⟩, 0, 0, 0)
def sgnV (m : ByteArray × Nat × Nat × Nat) : Value := .agg #[.string m.1, .int .i64 (m.2.1 : Nat), .int .i64 (m.2.2.1 : Nat), .int .i64 (m.2.2.2 : Nat)]
def signE (i : Nat) : MapEntry := { key := .int .i64 ((i + 5 : Nat) : Int), val := sgnV (sgn (i + 5)), born := i }
def signEs (k : Nat) : List MapEntry := (List.range k).map signE
/-- Whether an op has a sign. -/
def signed (op : Int) : Bool := decide (5 ≤ op ∧ op ≤ 17)
def sgnOf (op : Int) : ByteArray × Nat × Nat × Nat := if signed op then sgn op.toNat else (⟨#[]⟩, 0, 0, 0)
/-- The own level of an op. -/
def own (op : Int) : Nat := if signed op then (sgn op.toNat).2.1 else 6
end Px
open Px
/-- The signs lie in block m. -/
def SignsAt (w : World) (m : Nat) : Prop := w.heap[m]? = some (.map (signEs 13).toArray 13)
theorem SignsAt.lt {w : World} {m : Nat} (h : SignsAt w m) : m < w.heap.size := (Array.getElem?_eq_some_iff.1 h).1
theorem SignsAt.below {w w' : World} {m n : Nat} (h : SignsAt w m) (hb : Below n w w') (hn : m < n) : SignsAt w' m := (hb.block m hn).trans h
theorem signEs_key {k : Nat} {x : MapEntry} (h : x ∈ signEs k) : ∃ i, i < k ∧ x = signE i := by
  obtain ⟨i, hi, rfl⟩ := List.mem_map.1 h
  exact ⟨i, List.mem_range.1 hi, rfl⟩
theorem signEs_isKey (k : Nat) : ∀ x ∈ signEs k, MapKept.IsKey (.int .i64) x.key := by
  intro x hx
  obtain ⟨i, _, rfl⟩ := signEs_key hx
  simp [signE, MapKept.IsKey]
theorem signEs_succ (k : Nat) : signEs (k + 1) = signEs k ++ [signE k] := by simp [signEs, List.range_succ]
theorem alloc_set (w : World) (o o' : Obj) : ({ w.alloc o with heap := (w.alloc o).heap.setIfInBounds w.heap.size o' } : World) = w.alloc o' := by
  have h : (w.alloc o).heap.setIfInBounds w.heap.size o' = (w.alloc o').heap := by
    show (w.heap.push o).setIfInBounds w.heap.size o' = w.heap.push o'
    simp [Array.setIfInBounds, Array.set_push]
  rw [h]
  rfl
theorem put_sign (w : World) (k : Nat) : (Instr.mapUpdate 59 (.map (some w.heap.size)) (.int .i64 ((k + 5 : Nat) : Int)) (sgnV (sgn (k + 5)))).run Tryz.prog (w.alloc (.map (signEs k).toArray k)) = .ok () (w.alloc (.map (signEs (k + 1)).toArray (k + 1))) := by
  have hb : (w.alloc (.map (signEs k).toArray k)).heap[w.heap.size]? = some (.map (signEs k).toArray k) := (MapKept.heap_alloc w _).1
  have hk : MapKept.IsKey (.int .i64) (.int .i64 ((k + 5 : Nat) : Int)) := by simp [MapKept.IsKey]
  rcases MapKept.findNow_spec hk (signEs k) 0 (signEs_isKey k) with ⟨h1, h2⟩ | ⟨j, e, h1, h2, h3⟩
  · have e1 : (signEs k).toArray.push (signE k) = (signEs (k + 1)).toArray := by rw [signEs_succ]; simp
    have e2 := alloc_set w (.map (signEs k).toArray k) (.map (signEs (k + 1)).toArray (k + 1))
    have e3 : ({ key := .int .i64 ((k + 5 : Nat) : Int), val := sgnV (sgn (k + 5)), born := k } : MapEntry) = signE k := rfl
    simp only [Instr.mapUpdate, Sem.run_bind, run_underlying Tryz.underlying59, MapKept.run_getObj_map hb, MapKept.run_checkKey Tryz.underlying3 hk, MapKept.run_findKey Tryz.underlying3 h1, Result.andThen, e3, e1, MapKept.run_setObj_map _ hb, e2]
  · obtain ⟨i, hi, rfl⟩ := signEs_key (List.mem_of_getElem? h2)
    simp [signE] at h3
    omega
theorem sgn_some (op : Int) (h : signed op = true) : ∃ i, i < 13 ∧ op = ((i + 5 : Nat) : Int) := by
  simp [signed] at h
  exact ⟨op.toNat - 5, by omega, by omega⟩
theorem find_sign (op : Int) : (signed op = true ∧ ∃ j, Instr.findNow (.int .i64) (.int .i64 op) (signEs 13) 0 = some (some (j, sgnV (sgn op.toNat)))) ∨ (signed op = false ∧ Instr.findNow (.int .i64) (.int .i64 op) (signEs 13) 0 = some none) := by
  have hk : MapKept.IsKey (.int .i64) (.int .i64 op) := by simp [MapKept.IsKey]
  rcases MapKept.findNow_spec hk (signEs 13) 0 (signEs_isKey 13) with ⟨h1, h2⟩ | ⟨j, e, h1, h2, h3⟩
  · refine .inr ⟨?_, h1⟩
    cases hs : signed op with
    | false => rfl
    | true =>
      obtain ⟨i, hi, rfl⟩ := sgn_some op hs
      exact absurd rfl (h2 (signE i) (List.mem_map.2 ⟨i, List.mem_range.2 hi, rfl⟩))
  · obtain ⟨i, hi, rfl⟩ := signEs_key (List.mem_of_getElem? h2)
    have h4 : ((i + 5 : Nat) : Int) = op := by simpa [signE] using h3
    subst h4
    exact .inl ⟨by simp [signed]; omega, 0 + j, by rw [h1]; rfl⟩
theorem lookup_one {w : World} {m : Nat} (hm : SignsAt w m) (op : Int) : (Instr.lookup 59 (.map (some m)) (.int .i64 op) false).run Tryz.prog w = .ok (sgnV (sgnOf op)) w := by
  have hk : MapKept.IsKey (.int .i64) (.int .i64 op) := by simp [MapKept.IsKey]
  have hm' : w.heap[m]? = some (.map (signEs 13).toArray 13) := hm
  rcases find_sign op with ⟨hs, j, h1⟩ | ⟨hs, h1⟩
  · simp [Instr.lookup, run_underlying Tryz.underlying59, MapKept.run_getObj_map hm', MapKept.run_checkKey Tryz.underlying3 hk, MapKept.run_findKey Tryz.underlying3 h1, Result.andThen, sgnOf, hs]
  · simp [Instr.lookup, run_underlying Tryz.underlying59, MapKept.run_getObj_map hm', MapKept.run_checkKey Tryz.underlying3 hk, MapKept.run_findKey Tryz.underlying3 h1, Result.andThen, sgnOf, hs, Tryz.zeroValue81, sgnV]
theorem lookup_two {w : World} {m : Nat} (hm : SignsAt w m) (op : Int) : (Instr.lookup 59 (.map (some m)) (.int .i64 op) true).run Tryz.prog w = .ok (.tuple #[sgnV (sgnOf op), .bool (signed op)]) w := by
  have hk : MapKept.IsKey (.int .i64) (.int .i64 op) := by simp [MapKept.IsKey]
  have hm' : w.heap[m]? = some (.map (signEs 13).toArray 13) := hm
  rcases find_sign op with ⟨hs, j, h1⟩ | ⟨hs, h1⟩
  · simp [Instr.lookup, run_underlying Tryz.underlying59, MapKept.run_getObj_map hm', MapKept.run_checkKey Tryz.underlying3 hk, MapKept.run_findKey Tryz.underlying3 h1, Result.andThen, sgnOf, hs]
  · simp [Instr.lookup, run_underlying Tryz.underlying59, MapKept.run_getObj_map hm', MapKept.run_checkKey Tryz.underlying3 hk, MapKept.run_findKey Tryz.underlying3 h1, Result.andThen, sgnOf, hs, Tryz.zeroValue81, sgnV]
set_option maxRecDepth 100000 in
set_option maxHeartbeats 4000000 in
theorem allSigns_any (w : World) : Calls Tryz.prog 16 #[] w fun e w' => e = .returned (.map (some w.heap.size)) ∧ w' = w.alloc (.map (signEs 13).toArray 13) := by
  have p0 := put_sign w 0; have p1 := put_sign w 1; have p2 := put_sign w 2; have p3 := put_sign w 3; have p4 := put_sign w 4; have p5 := put_sign w 5; have p6 := put_sign w 6
  have p7 := put_sign w 7; have p8 := put_sign w 8; have p9 := put_sign w 9; have p10 := put_sign w 10; have p11 := put_sign w 11; have p12 := put_sign w 12
  have hz : signEs 0 = [] := rfl
  rw [hz] at p0
  clear hz
  simp only [sgnV, sgn, Nat.reduceAdd, Int.cast_ofNat_Int] at p0 p1 p2 p3 p4 p5 p6 p7 p8 p9 p10 p11 p12
  have hmk : (Instr.makeMap 59 none).run Tryz.prog w = .ok (.map (some w.heap.size)) (w.alloc (.map #[] 0)) := by simp [Instr.makeMap, Result.andThen]
  go_enter Tryz.func16, Tryz.ntmps16
  go_wp2
  go_ret
  exact ⟨rfl, rfl⟩
set_option maxRecDepth 100000 in
set_option maxHeartbeats 1000000 in
theorem enclosed_any (m : Nat) (op level : Int) (w : World) (hm : SignsAt w m) :
    Calls Tryz.prog 47 #[.map (some m), .int .i64 op, .int .i64 level] w fun e w' => e = .returned (.bool (decide ((own op : Int) < level))) ∧ Below w.heap.size w w' := by
  have hl := lookup_two hm op
  cases hs : signed op
  · rw [hs] at hl
    simp only [sgnOf, hs, sgnV, Bool.false_eq_true, if_false] at hl
    have HO : Hid (own op = 6) := by simp [Hid, own, hs]
    go_enter Tryz.func47, Tryz.ntmps47
    go_wp2
    go_ret
    rw [HO.out]
    exact ⟨rfl, (Below.refl _ _).al le_rfl' _⟩
  · rw [hs] at hl
    simp only [sgnOf, hs, sgnV, if_true] at hl
    have HO : Hid (own op = (sgn op.toNat).2.1) := by simp [Hid, own, hs]
    obtain ⟨k, hk⟩ : ∃ k, (sgn op.toNat).2.1 = k := ⟨_, rfl⟩
    rw [hk] at HO hl
    go_enter Tryz.func47, Tryz.ntmps47
    go_wp2
    go_ret
    rw [HO.out]
    exact ⟨rfl, (Below.refl _ _).al le_rfl' _⟩
end Go.Proofs.YtnljhlmopjgogaaGreatDoor
