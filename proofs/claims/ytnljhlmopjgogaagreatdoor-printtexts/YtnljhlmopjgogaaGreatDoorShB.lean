/-
  The sheet of package print as its methods keep it: what has been laid, up to what is too long; number, full, told, lay, begin, end, line.
-/
import Derived.Test.YtnljhlmopjgogaaGreatDoorBuA
import Derived.Test.YtnljhlmopjgogaaGreatDoorSgA
import Derived.Test.YtnljhlmopjgogaaGreatDoorShelf
import Derived.Lib.SmallJoins
namespace Go.Proofs.YtnljhlmopjgogaaGreatDoor
open Go.RowKit
/-- What was laid, c, stands for the text t: it is t, or both are too long. -/
def Okt (t c : List UInt8) : Prop := c.length ≤ t.length ∧ (c = t ∨ 20000 < c.length)
theorem Okt.refl (t : List UInt8) : Okt t t := ⟨Nat.le_refl _, .inl rfl⟩
theorem Okt.app {t c : List UInt8} (h : Okt t c) (s : List UInt8) : Okt (t ++ s) (c ++ s) := by
  refine ⟨by have := h.1; simp; omega, ?_⟩
  rcases h.2 with h | h
  · exact .inl (by rw [h])
  · exact .inr (by simp; omega)
theorem Okt.full {t c : List UInt8} (h : Okt t c) (hf : 20000 < c.length) (s : List UInt8) : Okt (t ++ s) c := ⟨by have := h.1; simp; omega, .inr hf⟩
/-- The table of strconv lies as it was laid. -/
def Tab (w : World) : Prop := Lib.TabIs Tryz.prog w "internal/strconv.uint64pow10" .u64 Lib.pow10Tab
theorem gPow : Tryz.prog.globalNamed "internal/strconv.uint64pow10" = some 2 := by kernel_rfl
theorem Tab.below {w w' : World} {n : Nat} (h : Tab w) (hb : Below n w w') (hn : 2 < n) : Tab w' := by
  unfold Tab Lib.TabIs at h ⊢
  rw [← h]
  simp only [World.var?, gPow]
  simp only [Option.bind_some, hb.block 2 hn]
/-- All but block b and rows of bytes stands; below b all does. -/
def Kept (b : Nat) (w w' : World) : Prop := Below b w w' ∧ Lib.OthersKept 5 (some b) w w'
theorem Kept.refl (b : Nat) (w : World) : Kept b w w := ⟨Below.refl _ _, Lib.OthersKept.refl _ _ _⟩
theorem Kept.trans {b : Nat} {u v w : World} (h : Kept b u v) (k : Kept b v w) : Kept b u w := ⟨h.1.trans k.1, h.2.trans k.2⟩
theorem Kept.al {b : Nat} {u v : World} (h : Kept b u v) (hb : b ≤ u.heap.size) (o : Obj) : Kept b u (v.alloc o) := ⟨h.1.al hb o, h.2.alloc o⟩
theorem others_of {b : Nat} {v w : World} (k : Below v.heap.size v w) : Lib.OthersKept 5 (some b) v w := fun i _ hi _ _ => (k.block i (Array.getElem?_eq_some_iff.1 hi).1).trans hi
theorem Kept.of {b : Nat} {u v w : World} (h : Kept b u v) (hb : b ≤ u.heap.size) (k : Below v.heap.size v w) : Kept b u w := ⟨h.1.tr hb k, h.2.trans (others_of k)⟩
theorem Kept.size {b : Nat} {u v : World} (h : Kept b u v) : u.heap.size ≤ v.heap.size := h.1.size
/-- A box of another type stands. -/
theorem Kept.box {b : Nat} {u v : World} (h : Kept b u v) {k : Nat} {c : Array Value} {T : TypeId} {z : Nat × Nat} (hk : u.heap[k]? = some (.cells c T z)) (hne : k ≠ b) (hT : T ≠ 5) : v.heap[k]? = some (.cells c T z) :=
  h.2 k _ hk (fun e => hne (by cases e; rfl)) (fun c' z' e => hT (by cases e; rfl))
/-- A sheet in block b with signs in m, o open ones and the text t. -/
structure Sh (b m : Nat) (o : Nat) (t : List UInt8) (w : World) : Prop where
  sheet : ∃ c, Okt t c ∧ Sheet b b (.map (some m)) (o : Int) c w
  lt : m < b
  big : 2 < b
  signs : SignsAt w m
  tab : Tab w
theorem Sh.bl {b m o : Nat} {t : List UInt8} {w : World} (h : Sh b m o t w) : b < w.heap.size := by obtain ⟨c, _, h⟩ := h.sheet; exact h.lt
theorem Sh.below {b m o : Nat} {t : List UInt8} {w w' : World} (h : Sh b m o t w) (hb : Below w.heap.size w w') : Sh b m o t w' := by
  have hl := h.bl
  obtain ⟨c, h1, h2⟩ := h.sheet
  exact ⟨⟨c, h1, h2.below hb⟩, h.lt, h.big, h.signs.below hb (by have := h.lt; omega), h.tab.below hb (by have := h.big; omega)⟩
theorem Sh.al {b m o : Nat} {t : List UInt8} {w : World} (h : Sh b m o t w) (x : Obj) : Sh b m o t (w.alloc x) := h.below ((Below.refl _ w).alloc (Nat.le_refl _) x)
theorem Sh.next {b m o o' : Nat} {t t' c : List UInt8} {w w' : World} (h : Sh b m o t w) (hb : Below b w w') (hc : Okt t' c) (hs : Sheet b b (.map (some m)) (o' : Int) c w') : Sh b m o' t' w' :=
  ⟨⟨c, hc, hs⟩, h.lt, h.big, h.signs.below hb h.lt, h.tab.below hb h.big⟩
theorem below_grow2 (w : World) (k : Nat) (os : Array Obj) : Below w.heap.size w (Sort.grow (w.drewN k) os) :=
  ⟨rfl, rfl, rfl, by simp [Sort.grow, World.drewN], fun i hi => by simp [Sort.grow, World.drewN, Array.getElem?_append, hi]⟩
set_option maxHeartbeats 1000000 in
theorem number_any (n : Int) (w : World) (hn : I64 n) (ht : Tab w) : Calls Tryz.prog 35 #[.int .i64 n] w fun e w' => e = .returned (.string ⟨(Lib.itoa n).toArray⟩) ∧ Below w.heap.size w w' := by
  have hc := Tryz.strconv_FormatInt_10 n hn.1 hn.2 w ht
  go_enter Tryz.func35, Tryz.ntmps35
  go_wp2_with (go_at_call 61; refine hc.mono ?_; rintro e w' ⟨rfl, k, os, rfl⟩)
  go_ret
  exact ⟨rfl, below_grow2 w k os⟩
set_option maxHeartbeats 1000000 in
theorem full_any (b : Nat) (mv : Value) (o : Int) (c : List UInt8) (w : World) (h : Sheet b b mv o c w) :
    Calls Tryz.prog 38 #[.pointer (some ⟨b, 0, none⟩)] w fun e w' => e = .returned (.bool (decide (20000 < c.length))) ∧ w' = w := by
  have hc := len_any b b mv o c w h
  go_enter Tryz.func38, Tryz.ntmps38
  go_wp2_with (go_at_call 65; refine hc.mono ?_; rintro e w' ⟨rfl, hw'⟩; have hw2 := hw'.symm; subst hw2)
  go_ret
  exact ⟨ret_bool (by rw [Bool.eq_iff_iff]; simp; omega), rfl⟩
/-- Texts one behind the other. -/
def cat (ps : List ByteArray) : List UInt8 := ps.flatMap (fun p => p.data.toList)
theorem cat_snoc (ps : List ByteArray) (k : Nat) (h : k < ps.length) : cat (ps.take (k + 1)) = cat (ps.take k) ++ ps[k].data.toList := flatMap_snoc _ ps k h
theorem cat_take (ps : List ByteArray) (k : Nat) : (cat (ps.take k)).length ≤ (cat ps).length := by
  have h : cat ps = cat (ps.take k) ++ cat (ps.drop k) := by unfold cat; rw [← List.flatMap_append, List.take_append_drop]
  rw [h, List.length_append]; omega
/-- The texts lie in block g. -/
def PcAt (w : World) (g : Nat) (ps : List ByteArray) : Prop := w.heap[g]? = some (.cells (ps.map Value.string).toArray 9 (0, 0))
theorem PcAt.cell {w : World} {g : Nat} {ps : List ByteArray} (h : PcAt w g ps) (k : Nat) (hk : k < ps.length) : w.cell? ⟨g, k, none⟩ = some (.string ps[k]) := by
  rw [Lib.cell_of_heap h]; simp [hk]
set_option maxRecDepth 100000 in
set_option maxHeartbeats 1000000 in
theorem lay_any (ps : List ByteArray) (g b m o : Nat) (t : List UInt8) (w : World) (hs : Sh b m o t w) (hg : PcAt w g ps) (hgb : g ≠ b) (hn : ps.length ≤ 1000) (hl : t.length + (cat ps).length ≤ 1000000000000) :
    Calls Tryz.prog 48 #[.pointer (some ⟨b, 0, none⟩), .slice (some ⟨g, 0, none⟩) ps.length ps.length] w fun e w' => e = .returned (.tuple #[]) ∧ Sh b m o (t ++ cat ps) w' ∧ Kept b w w' := by
  go_enter Tryz.func48, Tryz.ntmps48
  go_wp2
  go_loopw [8] (fun i wr => ∃ k : Nat, k ≤ ps.length ∧ i = .int .i64 k ∧ Sh b m o (t ++ cat (ps.take k)) wr ∧ Kept b w wr) (fun i _ => ps.length - (intOf i).toNat)
  case atStart => exact ⟨0, by omega, rfl, by simpa [cat] using hs, Kept.refl _ _⟩
  case round =>
    obtain ⟨k, hk, rfl, hS, hK⟩ := hrel
    by_cases hlt : k < ps.length
    · have hc := (show PcAt wr g ps from hK.box hg hgb (by decide)).cell k hlt
      obtain ⟨c, hO, hSh⟩ := hS.sheet
      have hle := hO.1
      have hle2 := cat_take ps (k + 1)
      have hsn := cat_snoc ps k hlt
      rw [hsn, List.length_append] at hle2
      have HSN := hid hsn
      clear hsn
      simp only [List.length_append] at hle
      have hsz : ps[k].size = ps[k].data.toList.length := by simp
      have hws := writeString_any b b (.map (some m)) o c ps[k] wr hSh (by omega) (by have := hS.bl; omega)
      clear hsz hle hle2
      go_wp2_with (go_at_call 62; refine hws.mono ?_; rintro e w1 ⟨rfl, h1, b1, k1⟩)
      go_roundw
      case rel =>
        refine ⟨k + 1, by omega, by go_num, ?_, hK.trans ⟨b1, k1⟩⟩
        rw [HSN.out, ← List.append_assoc]
        exact hS.next b1 (hO.app _) h1
      case measure => simp [intOf]; omega
    · have hk' : ps.take k = ps := List.take_of_length_le (by omega)
      rw [hk'] at hS
      go_wp2
      go_end0
      exact ⟨rfl, hS, hK⟩
/-- So far a line is moved in. -/
def ind (o : Nat) : List UInt8 := List.replicate (2 * o) 32
theorem ind_succ (k : Nat) : ind (k + 1) = ind k ++ [32, 32] := by
  unfold ind
  rw [show 2 * (k + 1) = 2 * k + 1 + 1 from rfl, List.replicate_succ', List.replicate_succ', List.append_assoc]; rfl
set_option maxRecDepth 100000 in
set_option maxHeartbeats 1000000 in
theorem begin_any (ps : List ByteArray) (g b m o : Nat) (t : List UInt8) (w : World) (hs : Sh b m o t w) (hg : PcAt w g ps) (hgb : g ≠ b) (hn : ps.length ≤ 1000) (ho : o ≤ 1000000) (hl : t.length + 2 * o + (cat ps).length ≤ 1000000000000) :
    Calls Tryz.prog 36 #[.pointer (some ⟨b, 0, none⟩), .slice (some ⟨g, 0, none⟩) ps.length ps.length] w fun e w' => e = .returned (.tuple #[]) ∧ Sh b m o (t ++ ind o ++ cat ps) w' ∧ Kept b w w' := by
  have hcell : w.cell? ⟨b, 3, none⟩ = some (.int .i64 (o : Int)) := by obtain ⟨c, _, h⟩ := hs.sheet; exact h.cells.2.1
  go_enter Tryz.func36, Tryz.ntmps36
  go_wp2
  go_loopw [8] (fun i wr => ∃ k : Nat, k ≤ o ∧ i = .int .i64 k ∧ Sh b m o (t ++ ind k) wr ∧ Kept b w wr) (fun i _ => o - (intOf i).toNat)
  case atStart => exact ⟨0, by omega, rfl, by simpa [ind] using hs, Kept.refl _ _⟩
  case round =>
    obtain ⟨k, hk, rfl, hS, hK⟩ := hrel
    by_cases hlt : k < o
    · obtain ⟨c, hO, hSh⟩ := hS.sheet
      have hle := hO.1
      simp only [List.length_append, ind, List.length_replicate] at hle
      have hws := writeString_any b b (.map (some m)) o c ⟨#[32, 32]⟩ wr hSh (by show c.length + 2 ≤ _; omega) (by have := hS.bl; omega)
      clear hle
      go_wp2_with (go_at_call 62; refine hws.mono ?_; rintro e w1 ⟨rfl, h1, b1, k1⟩)
      go_roundw
      case rel =>
        refine ⟨k + 1, by omega, by go_num, ?_, hK.trans ⟨b1, k1⟩⟩
        rw [ind_succ, ← List.append_assoc]
        exact hS.next b1 (hO.app _) h1
      case measure => simp [intOf]; omega
    · have hk' : k = o := by omega
      have hS2 : Sh b m o (t ++ ind o) wr := by rw [← hk']; rw [hk'] at hS ⊢; exact hS
      have hlay := lay_any ps g b m o (t ++ ind o) wr hS2 (hK.box hg hgb (by decide)) hgb hn (by simp only [List.length_append, ind, List.length_replicate]; omega)
      clear hk'
      go_wp2_with (go_at_call 48; refine hlay.mono ?_; rintro e w1 ⟨rfl, h1, k1⟩)
      go_end0
      exact ⟨rfl, h1, hK.trans k1⟩
end Go.Proofs.YtnljhlmopjgogaaGreatDoor
