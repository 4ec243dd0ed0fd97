/-
  Memory for package held: rows, slices, boxes; edges as fifteen cells; maps whose keys are numbers, and the way over such a map.
-/
import Derived.Test.YthdkgfmlihgceaaProg
import Derived.WalkKit
import Derived.WalkSpells
import Derived.WalkLawsBesides
import Derived.ProofKit
import Derived.OpenShut
import Derived.RowKit3
import Derived.Below
import Derived.OwnWalk
import Derived.BigQuiet
import Derived.Deep.QuietTactic
import Derived.Deep.AppendLies
import Derived.Deep.AppendSrc
import Derived.Deep.RegionLaw
import Derived.Deep.RegionHeld3
import Derived.Deep.LoopGhost
import Derived.Deep.DeepCutAuto
import Derived.Deep.Cut
import Derived.MapKept
import Derived.ChangeMaps4
import Derived.Maps.RangeRun
import Derived.Maps.Range
namespace Go.Proofs.Ythdkgfmlihgceaa
open Go.RowKit
theorem hid {p : Prop} (h : p) : Hid p := h
theorem _root_.Go.RowKit.Below.al {n₀ : Nat} {A B : World} (h : Below n₀ A B) (hA : n₀ ≤ A.heap.size) (o : Obj) : Below n₀ A (B.alloc o) := h.alloc (by have := h.size; omega) o
theorem _root_.Go.RowKit.Below.tr {n₀ : Nat} {A B C : World} (h : Below n₀ A B) (hA : n₀ ≤ A.heap.size) (h2 : Below B.heap.size B C) : Below n₀ A C := h.trans (h2.mono (by have := h.size; omega))
theorem le_rfl' {n : Nat} : n ≤ n := Nat.le_refl n
/-- Rows of so many cells each, one behind the other. -/
def RowAt {α : Type} (size : Nat) (cells : α → List Value) (W : World) (b off : Nat) (l : List α) : Prop := ∀ (j : Nat) (h : j < l.length) (i : Nat), i < size → W.cell? ⟨b, off + j * size + i, none⟩ = (cells l[j])[i]?
/-- A slice lies below n₀. -/
def SlAt {α : Type} (size : Nat) (cells : α → List Value) (n₀ : Nat) (W : World) (ad : Option Addr) (cap : Nat) (l : List α) : Prop :=
  l.length ≤ cap ∧ cap ≤ maxLen ∧ (l = [] ∨ ∃ b off, ad = some ⟨b, off, none⟩ ∧ b < n₀ ∧ RowAt size cells W b off l)
theorem RowAt.below {α : Type} {size : Nat} {cells : α → List Value} {n₀ : Nat} {W W' : World} {b off : Nat} {l : List α} (h : RowAt size cells W b off l) (hb : Below n₀ W W') (hlt : b < n₀) : RowAt size cells W' b off l :=
  fun j hj i hi => (hb.cell (p := ⟨b, _, none⟩) hlt).trans (h j hj i hi)
theorem SlAt.below {α : Type} {size : Nat} {cells : α → List Value} {n₀ : Nat} {W W' : World} {ad : Option Addr} {cap : Nat} {l : List α} (h : SlAt size cells n₀ W ad cap l) (hb : Below n₀ W W') : SlAt size cells n₀ W' ad cap l := by
  obtain ⟨h1, h2, h3⟩ := h
  refine ⟨h1, h2, ?_⟩
  rcases h3 with h3 | ⟨b, off, h4, h5, h6⟩
  · exact .inl h3
  · exact .inr ⟨b, off, h4, h5, h6.below hb h5⟩
theorem SlAt.mono {α : Type} {size : Nat} {cells : α → List Value} {n₀ n₁ : Nat} {W : World} {ad : Option Addr} {cap : Nat} {l : List α} (h : SlAt size cells n₀ W ad cap l) (hn : n₀ ≤ n₁) : SlAt size cells n₁ W ad cap l := by
  obtain ⟨h1, h2, h3⟩ := h
  refine ⟨h1, h2, ?_⟩
  rcases h3 with h3 | ⟨b, off, h4, h5, h6⟩
  · exact .inl h3
  · exact .inr ⟨b, off, h4, by omega, h6⟩
theorem cellOf {W : World} {B : Nat} {c : Array Value} {t : TypeId} {z : Nat × Nat} (h : W.heap[B]? = some (.cells c t z)) (i : Nat) : W.cell? ⟨B, i, none⟩ = c[i]? := by
  simp [World.cell?, h]
theorem heapNew (W : World) (o : Obj) : (W.alloc o).heap[W.heap.size]? = some o := (MapKept.heap_alloc W _).1
theorem one_box (w : World) (a : Array Value) (s : TypeId) : (w.alloc (.cells a s)).heap[w.heap.size]? = some (.cells a s (0, 0)) ∧ Below w.heap.size w (w.alloc (.cells a s)) ∧ (w.alloc (.cells a s)).heap.size = w.heap.size + 1 :=
  ⟨heapNew w _, (Below.refl _ w).al le_rfl' _, by simp⟩
def I64 (n : Int) : Prop := -9223372036854775808 ≤ n ∧ n ≤ 9223372036854775807
def icell (z : Int) : List Value := [.int .i64 z]
def ints (l : List Int) : List Value := l.map (Value.int .i64 ·)
/-- An edge, flat: the four numbers that count, and all else. -/
structure Eg where
  src : Int
  dst : Int
  kind : Int
  mon : Int
  var : Int
  op : Int
  s1 : ByteArray
  s2 : ByteArray
  k : Int
  kad : Option Addr
  kl : Nat
  kc : Nat
  epos : Int
  n : Int
  site : Int
  out : Int
  pos : Int
def Eg.cells (x : Eg) : List Value := [.int .i64 x.src, .int .i64 x.dst, .int .i64 x.kind, .int .i64 x.mon, .int .i64 x.var, .int .i64 x.op, .string x.s1, .string x.s2, .int .i64 x.k, .slice x.kad x.kl x.kc, .int .i64 x.epos, .int .i64 x.n, .int .i64 x.site, .int .i64 x.out, .int .i64 x.pos]
/-- All cells of one row of fifteen. -/
theorem row15 {W : World} {b off : Nat} {l : List Eg} (h : RowAt 15 Eg.cells W b off l) (k : Nat) (hk : k < l.length) {x : Eg} (hx : l[k] = x) :
    W.cell? ⟨b, off + k * 15, none⟩ = some (.int .i64 x.src) ∧ W.cell? ⟨b, off + k * 15 + 1, none⟩ = some (.int .i64 x.dst) ∧ W.cell? ⟨b, off + k * 15 + 2, none⟩ = some (.int .i64 x.kind) ∧ W.cell? ⟨b, off + k * 15 + 3, none⟩ = some (.int .i64 x.mon) ∧ W.cell? ⟨b, off + k * 15 + 4, none⟩ = some (.int .i64 x.var) ∧ W.cell? ⟨b, off + k * 15 + 5, none⟩ = some (.int .i64 x.op) ∧ W.cell? ⟨b, off + k * 15 + 6, none⟩ = some (.string x.s1) ∧ W.cell? ⟨b, off + k * 15 + 7, none⟩ = some (.string x.s2) ∧ W.cell? ⟨b, off + k * 15 + 8, none⟩ = some (.int .i64 x.k) ∧ W.cell? ⟨b, off + k * 15 + 9, none⟩ = some (.slice x.kad x.kl x.kc) ∧ W.cell? ⟨b, off + k * 15 + 10, none⟩ = some (.int .i64 x.epos) ∧ W.cell? ⟨b, off + k * 15 + 11, none⟩ = some (.int .i64 x.n) ∧ W.cell? ⟨b, off + k * 15 + 12, none⟩ = some (.int .i64 x.site) ∧ W.cell? ⟨b, off + k * 15 + 13, none⟩ = some (.int .i64 x.out) ∧ W.cell? ⟨b, off + k * 15 + 14, none⟩ = some (.int .i64 x.pos) := by
  subst hx
  refine ⟨?_, ?_, ?_, ?_, ?_, ?_, ?_, ?_, ?_, ?_, ?_, ?_, ?_, ?_, ?_⟩
  · exact h k hk 0 (by omega)
  · exact h k hk 1 (by omega)
  · exact h k hk 2 (by omega)
  · exact h k hk 3 (by omega)
  · exact h k hk 4 (by omega)
  · exact h k hk 5 (by omega)
  · exact h k hk 6 (by omega)
  · exact h k hk 7 (by omega)
  · exact h k hk 8 (by omega)
  · exact h k hk 9 (by omega)
  · exact h k hk 10 (by omega)
  · exact h k hk 11 (by omega)
  · exact h k hk 12 (by omega)
  · exact h k hk 13 (by omega)
  · exact h k hk 14 (by omega)
/-- A flow: what there is of it in memory. -/
structure Fl where
  name : ByteArray
  star : Bool
  locs : Int
  ead : Option Addr
  ecap : Nat
  es : List Eg
  gad : Option Addr
  gl : Nat
  gc : Nat
def Fl.cells (f : Fl) : List Value := [.string f.name, .bool f.star, .int .i64 f.locs, .slice f.ead f.es.length f.ecap, .slice f.gad f.gl f.gc]
def Fl.val (f : Fl) : Value := .agg f.cells.toArray
/-- Numbers are of 64 bits. -/
def Eg.Fine (x : Eg) : Prop := I64 x.src ∧ I64 x.dst ∧ I64 x.kind ∧ I64 x.mon
def Fl.Is (n : Nat) (W : World) (f : Fl) : Prop := SlAt 15 Eg.cells n W f.ead f.ecap f.es ∧ I64 f.locs ∧ ∀ x ∈ f.es, x.Fine
theorem Fl.Is.below {n : Nat} {W W' : World} (hb : Below n W W') {f : Fl} (h : f.Is n W) : f.Is n W' := ⟨h.1.below hb, h.2⟩
theorem Fl.Is.mono {n m : Nat} {W : World} (hn : n ≤ m) {f : Fl} (h : f.Is n W) : f.Is m W := ⟨h.1.mono hn, h.2⟩
theorem info_of {P : Program} {e : TypeId} {z : Option Value} {s b : Nat} (h : (P.info? e).map (fun i => (i.zero, i.size, i.bytes)) = some (z, s, b)) : ∃ i, P.info? e = some i ∧ i.zero = z ∧ i.size = s ∧ i.bytes = b := by
  cases hi : P.info? e with
  | none => rw [hi] at h; cases h
  | some i =>
    rw [hi] at h
    simp only [Option.map_some, Option.some.injEq, Prod.mk.injEq] at h
    exact ⟨i, rfl, h.1, h.2.1, h.2.2⟩
theorem info3 : (Try.prog.info? 3).map (fun i => (i.zero, i.size, i.bytes)) = some (some (.int .i64 0), 1, 8) := by kernel_rfl
theorem info42 : (Try.prog.info? 42).map (fun i => (i.zero, i.size, i.bytes)) = some (some (.agg #[.int .i64 0, .int .i64 0]), 2, 16) := by kernel_rfl
theorem owns_below {W W' : World} {base size k : Nat} {e : TypeId} {v : Value} {xs : List Value} (h : W.ownsRow base e size v k xs) (hb : Below W.heap.size W W') : W'.ownsRow base e size v k xs := by
  obtain ⟨hl, ⟨rfl, hn⟩ | ⟨g, cap, cur, rfl, hB, hh, hc, hm, hcs, hx⟩⟩ := h
  · exact ⟨hl, .inl ⟨rfl, hn⟩⟩
  · exact ⟨hl, .inr ⟨g, cap, cur, rfl, hB, (hb.block g (Array.getElem?_eq_some_iff.1 hh).1).trans hh, hc, hm, hcs, hx⟩⟩
/-- Numbers that a row of its own holds are a slice. -/
theorem sl_own {w : World} {base : Nat} {v : Value} {r : List Int} (h : w.ownsRow base 3 1 v r.length (ints r)) : ∃ ad cp, v = .slice ad r.length cp ∧ SlAt 1 icell w.heap.size w ad cp r := by
  have h0 := h
  obtain ⟨hl, ⟨rfl, hn⟩ | ⟨g, cap, cur, rfl, hB, hh, hc, hm, hcs, hx⟩⟩ := h
  · have : r = [] := List.eq_nil_of_length_eq_zero hn
    subst this
    exact ⟨none, 0, rfl, by simp, by unfold maxLen; omega, .inl rfl⟩
  · refine ⟨_, cap, rfl, hc, hm, .inr ⟨g, 0, rfl, (Array.getElem?_eq_some_iff.1 hh).1, fun j hj i hi => ?_⟩⟩
    have := h0.cells (g := g) rfl j (.int .i64 r[j]) (by rw [ints, List.getElem?_map, List.getElem?_eq_getElem hj]; rfl)
    rw [Addr.add_lit] at this
    obtain rfl : i = 0 := by omega
    simpa [icell] using this
/-- A map from numbers lies in block k. -/
def IMap (W : World) (k : Nat) (V : Int → Option Value) : Prop := ∃ es clock, W.heap[k]? = some (.map es clock) ∧ (∀ x ∈ es.toList, MapKept.IsKey (.int .i64) x.key) ∧ MapKept.Stamped es clock ∧ ∀ n : Int, (∀ x ∈ es.toList, x.key = .int .i64 n → V n = some x.val) ∧ ((∀ x ∈ es.toList, x.key ≠ .int .i64 n) → V n = none)
theorem IMap.lt {W : World} {k : Nat} {V : Int → Option Value} (h : IMap W k V) : k < W.heap.size := by
  obtain ⟨es, c, h, _⟩ := h; exact (Array.getElem?_eq_some_iff.1 h).1
theorem IMap.kept {W W' : World} {k : Nat} {V : Int → Option Value} (h : IMap W k V) (hb : W'.heap[k]? = W.heap[k]?) : IMap W' k V := by
  obtain ⟨es, c, h1, h2⟩ := h; exact ⟨es, c, hb.trans h1, h2⟩
theorem IMap.below {W W' : World} {k n : Nat} {V : Int → Option Value} (h : IMap W k V) (hb : Below n W W') (hn : k < n) : IMap W' k V := h.kept (hb.block k hn)
theorem IMap.al {W : World} {k : Nat} {V : Int → Option Value} (h : IMap W k V) (o : Obj) : IMap (W.alloc o) k V := h.kept (Below.heap_alloc _ _ _ h.lt)
theorem IMap.grown {W W' : World} {k : Nat} {V : Int → Option Value} {row : Option Nat} (h : IMap W k V) (hg : W.grownBy W' row) (hne : some k ≠ row) : IMap W' k V := h.kept (hg.block k h.lt hne)
theorem IMap.new (W : World) : IMap (W.alloc (.map #[] 0)) W.heap.size (fun _ => none) := ⟨#[], 0, (MapKept.heap_alloc W _).1, by simp, MapKept.stamped_empty 0, fun n => ⟨by simp, fun _ => rfl⟩⟩
theorem IMap.not_cells {W : World} {k : Nat} {V : Int → Option Value} (h : IMap W k V) {a : Array Value} {T : TypeId} {f : Nat × Nat} {j : Nat} (hj : W.heap[j]? = some (.cells a T f)) : j ≠ k := by
  obtain ⟨es, c, h1, _⟩ := h
  rintro rfl
  rw [h1] at hj; cases hj
theorem isKeyI (n : Int) : MapKept.IsKey (.int .i64) (.int .i64 n) := rfl
theorem IMap.look {W : World} {k : Nat} {V : Int → Option Value} {T E : TypeId} {z : Value} (h : IMap W k V) (hT : Try.prog.underlying T = some (.map 3 E)) (hz : (zeroValue E).run Try.prog W = .ok z W) (n : Int) :
    (Instr.lookup T (.map (some k)) (.int .i64 n) false).run Try.prog W = .ok ((V n).getD z) W := by
  obtain ⟨es, c, hb, hks, -, h⟩ := h
  rcases MapKept.findNow_spec (isKeyI n) es.toList 0 hks with ⟨h1, h2⟩ | ⟨j, e, h1, h2, h3⟩
  · simp [Instr.lookup, run_underlying hT, MapKept.run_getObj_map hb, MapKept.run_checkKey Try.underlying3 (isKeyI n), MapKept.run_findKey Try.underlying3 h1, Result.andThen, (h n).2 h2, hz]
  · have := (h n).1 e (List.mem_of_getElem? h2) h3
    simp [Instr.lookup, run_underlying hT, MapKept.run_getObj_map hb, MapKept.run_checkKey Try.underlying3 (isKeyI n), MapKept.run_findKey Try.underlying3 h1, Result.andThen, this]
theorem IMap.look2 {W : World} {k : Nat} {V : Int → Option Value} {T E : TypeId} {z : Value} (h : IMap W k V) (hT : Try.prog.underlying T = some (.map 3 E)) (hz : (zeroValue E).run Try.prog W = .ok z W) (n : Int) :
    (Instr.lookup T (.map (some k)) (.int .i64 n) true).run Try.prog W = .ok (.tuple #[(V n).getD z, .bool (V n).isSome]) W := by
  obtain ⟨es, c, hb, hks, -, h⟩ := h
  rcases MapKept.findNow_spec (isKeyI n) es.toList 0 hks with ⟨h1, h2⟩ | ⟨j, e, h1, h2, h3⟩
  · simp [Instr.lookup, run_underlying hT, MapKept.run_getObj_map hb, MapKept.run_checkKey Try.underlying3 (isKeyI n), MapKept.run_findKey Try.underlying3 h1, Result.andThen, (h n).2 h2, hz]
  · have := (h n).1 e (List.mem_of_getElem? h2) h3
    simp [Instr.lookup, run_underlying hT, MapKept.run_getObj_map hb, MapKept.run_checkKey Try.underlying3 (isKeyI n), MapKept.run_findKey Try.underlying3 h1, Result.andThen, this]
def putV (V : Int → Option Value) (n : Int) (v : Value) : Int → Option Value := fun x => if x = n then some v else V x
theorem putV_at (V : Int → Option Value) (n : Int) (v : Value) : putV V n v n = some v := if_pos rfl
theorem putV_ne (V : Int → Option Value) {n m : Int} (v : Value) (h : m ≠ n) : putV V n v m = V m := if_neg h
/-- What a store leaves. -/
theorem IMap.put {W : World} {k : Nat} {V : Int → Option Value} {T E : TypeId} (h : IMap W k V) (hT : Try.prog.underlying T = some (.map 3 E)) (n : Int) (v : Value) :
    ∃ W', (Instr.mapUpdate T (.map (some k)) (.int .i64 n) v).run Try.prog W = .ok () W' ∧ IMap W' k (putV V n v) ∧ W.grownBy W' (some k) ∧ W'.heap.size = W.heap.size := by
  obtain ⟨es, c, hb, hks, hst, h⟩ := h
  have hlt := (Array.getElem?_eq_some_iff.1 hb).1
  have hg : ∀ o, W.grownBy { W with heap := W.heap.setIfInBounds k o } (some k) := fun o => ⟨rfl, rfl, rfl, by simp, fun j _ hj => by
    show (W.heap.setIfInBounds k _)[j]? = _
    rw [Array.getElem?_setIfInBounds_ne (fun e => hj (by rw [e]))]⟩
  rcases MapKept.findNow_spec (isKeyI n) es.toList 0 hks with ⟨h1, h2⟩ | ⟨j, e, h1, h2, h3⟩
  · refine ⟨_, ?_, ?_, hg (.map (es.push ⟨.int .i64 n, v, c⟩) (c + 1)), by simp⟩
    · simp [Instr.mapUpdate, run_underlying hT, MapKept.run_getObj_map hb, MapKept.run_checkKey Try.underlying3 (isKeyI n), MapKept.run_findKey Try.underlying3 h1, MapKept.run_setObj_map _ hb, Result.andThen]
    · refine ⟨es.push ⟨.int .i64 n, v, c⟩, c + 1, by simp [hlt], ?_, MapKept.stamped_push hst h2, ?_⟩
      · intro x hx
        rw [Array.toList_push, List.mem_append, List.mem_singleton] at hx
        rcases hx with hx | rfl
        · exact hks x hx
        · exact isKeyI n
      · intro m
        rw [Array.toList_push]
        constructor
        · intro x hx he
          rw [List.mem_append, List.mem_singleton] at hx
          rcases hx with hx | rfl
          · have hne : m ≠ n := by rintro rfl; exact h2 x hx he
            rw [putV_ne _ _ hne]; exact (h m).1 x hx he
          · have hne : m = n := by simpa using he.symm
            rw [hne, putV_at]
        · intro hx
          have hne : m ≠ n := by rintro rfl; exact hx ⟨.int .i64 m, v, c⟩ (by simp) rfl
          rw [putV_ne _ _ hne]
          exact (h m).2 fun x hx' => hx x (List.mem_append.2 (.inl hx'))
  · have hj : es[j]? = some e := by rw [← Array.getElem?_toList]; exact h2
    have hkeys : (es.modify j fun e => { e with key := Value.int .i64 n, val := v }).toList.map (·.key) = es.toList.map (·.key) := MapKept.modify_keys j _ fun x hx => by rw [hj] at hx; cases hx; exact h3.symm
    have hborn : (es.modify j fun e => { e with key := Value.int .i64 n, val := v }).toList.map (·.born) = es.toList.map (·.born) := by
      apply List.ext_getElem?
      intro i
      rw [List.getElem?_map, List.getElem?_map, Array.toList_modify, List.getElem?_modify]
      by_cases hij : j = i
      · subst hij; cases es.toList[j]? <;> simp
      · simp [hij]
    have hst' : MapKept.Stamped (es.modify j fun e => { e with key := Value.int .i64 n, val := v }) c := by
      obtain ⟨g1, g2, g3⟩ := hst
      refine ⟨fun x hx => ?_, by rw [hborn]; exact g2, by rw [hkeys]; exact g3⟩
      have : x.born ∈ (es.modify j fun e => { e with key := Value.int .i64 n, val := v }).toList.map (·.born) := List.mem_map.2 ⟨x, hx, rfl⟩
      rw [hborn] at this
      obtain ⟨y, hy, hyb⟩ := List.mem_map.1 this
      rw [← hyb]; exact g1 y hy
    refine ⟨_, ?_, ?_, hg (.map (es.modify j fun e => { e with key := .int .i64 n, val := v }) c), by simp⟩
    · simp [Instr.mapUpdate, run_underlying hT, MapKept.run_getObj_map hb, MapKept.run_checkKey Try.underlying3 (isKeyI n), MapKept.run_findKey Try.underlying3 h1, hj, h3, MapKept.run_keyThatStays (isKeyI n), MapKept.run_setObj_map _ hb, Result.andThen]
    · have hmem : ∀ x ∈ (es.modify j fun e => { e with key := Value.int .i64 n, val := v }).toList, (x.key = .int .i64 n ∧ x.val = v) ∨ (x ∈ es.toList ∧ x.key ≠ .int .i64 n) := by
        intro x hx
        obtain ⟨i, hi⟩ := List.getElem?_of_mem hx
        rw [Array.toList_modify, List.getElem?_modify] at hi
        by_cases hij : j = i
        · subst hij
          rw [h2] at hi
          simp at hi
          subst hi
          exact .inl ⟨rfl, rfl⟩
        · have hi2 : es.toList[i]? = some x := by simpa [hij] using hi
          refine .inr ⟨List.mem_of_getElem? hi2, fun he => ?_⟩
          have g1 : (es.toList.map (·.key))[i]? = some (.int .i64 n) := by rw [List.getElem?_map, hi2]; simp [he]
          have g2 : (es.toList.map (·.key))[j]? = some (.int .i64 n) := by rw [List.getElem?_map, h2]; simp [h3]
          obtain ⟨k1, k2⟩ := List.getElem?_eq_some_iff.1 g1
          obtain ⟨k3, k4⟩ := List.getElem?_eq_some_iff.1 g2
          have hp := List.pairwise_iff_getElem.1 hst.2.2
          rcases Nat.lt_or_gt_of_ne hij with hlt2 | hlt2
          · exact hp j i k3 k1 hlt2 (k4.trans k2.symm)
          · exact hp i j k1 k3 hlt2 (k2.trans k4.symm)
      have hback : ∀ m : Int, (∀ x ∈ (es.modify j fun e => { e with key := Value.int .i64 n, val := v }).toList, x.key ≠ .int .i64 m) → ∀ x ∈ es.toList, x.key ≠ .int .i64 m := by
        intro m hx y hy he
        have : Value.int .i64 m ∈ es.toList.map (·.key) := List.mem_map.2 ⟨y, hy, he⟩
        rw [← hkeys] at this
        obtain ⟨z, hz, hze⟩ := List.mem_map.1 this
        exact hx z hz hze
      refine ⟨es.modify j fun e => { e with key := .int .i64 n, val := v }, c, by simp [hlt], ?_, hst', ?_⟩
      · intro x hx
        rcases hmem x hx with ⟨g, _⟩ | ⟨g, _⟩
        · rw [g]; exact isKeyI n
        · exact hks x g
      · intro m
        constructor
        · intro x hx he
          rcases hmem x hx with ⟨g1, g2⟩ | ⟨g1, g2⟩
          · have hne : m = n := by rw [g1] at he; simpa using he.symm
            rw [hne, putV_at, g2]
          · have hne : m ≠ n := by rintro rfl; exact g2 he
            rw [putV_ne _ _ hne]; exact (h m).1 x g1 he
        · intro hx
          have h5 := hback m hx
          have hne : m ≠ n := by rintro rfl; exact h5 e (List.mem_of_getElem? h2) h3
          rw [putV_ne _ _ hne]
          exact (h m).2 h5
/-- 'for k, v := range m' under way: the iterator in block r, the map in block k; which keys are still to come, how many. -/
def IRan (W : World) (k r : Nat) (V : Int → Option Value) (left : Int → Prop) (cnt : Nat) : Prop := ∃ es clock since seen c0, W.heap[k]? = some (.map es clock) ∧ W.heap[r]? = some (.mapIter (some k) since seen c0) ∧ (∀ x ∈ es.toList, MapKept.IsKey (.int .i64) x.key) ∧ MapKept.Stamped es clock ∧ (∀ n : Int, (∀ x ∈ es.toList, x.key = .int .i64 n → V n = some x.val) ∧ ((∀ x ∈ es.toList, x.key ≠ .int .i64 n) → V n = none)) ∧ (∀ x ∈ es.toList, x.born < since) ∧ since ≤ c0 ∧ since ≤ clock ∧ (leftOf es seen).size = cnt ∧
  (∀ (n : Int), ∀ x ∈ es.toList, x.key = .int .i64 n → (left n ↔ seen.contains x.born = false)) ∧ (∀ n, left n → (V n).isSome = true)
theorem IRan.map {W : World} {k r : Nat} {V : Int → Option Value} {left : Int → Prop} {cnt : Nat} (h : IRan W k r V left cnt) : IMap W k V := by
  obtain ⟨es, clock, since, seen, c0, h1, _, h2, h3, h4, _⟩ := h
  exact ⟨es, clock, h1, h2, h3, h4⟩
theorem IRan.lt {W : World} {k r : Nat} {V : Int → Option Value} {left : Int → Prop} {cnt : Nat} (h : IRan W k r V left cnt) : r < W.heap.size := by
  obtain ⟨es, clock, since, seen, c0, h1, h2, _⟩ := h
  exact (Array.getElem?_eq_some_iff.1 h2).1
theorem IRan.ne {W : World} {k r : Nat} {V : Int → Option Value} {left : Int → Prop} {cnt : Nat} (h : IRan W k r V left cnt) : r ≠ k := by
  obtain ⟨es, clock, since, seen, c0, h1, h2, _⟩ := h
  rintro rfl
  rw [h1] at h2; cases h2
theorem IRan.kept {W W' : World} {k r : Nat} {V : Int → Option Value} {left : Int → Prop} {cnt : Nat} (h : IRan W k r V left cnt) (hk : W'.heap[k]? = W.heap[k]?) (hr : W'.heap[r]? = W.heap[r]?) : IRan W' k r V left cnt := by
  obtain ⟨es, clock, since, seen, c0, h1, h2, h3⟩ := h
  exact ⟨es, clock, since, seen, c0, hk.trans h1, hr.trans h2, h3⟩
theorem IMap.range {W : World} {k : Nat} {V : Int → Option Value} {T E : TypeId} (h : IMap W k V) (hT : Try.prog.underlying T = some (.map 3 E)) :
    ∃ W' cnt, (Instr.range T (.map (some k))).run Try.prog W = .ok (.pointer (some ⟨W.heap.size, 0, none⟩)) W' ∧ IRan W' k W.heap.size V (fun n => (V n).isSome = true) cnt ∧ Below W.heap.size W W' ∧ W'.heap.size = W.heap.size + 1 := by
  have hlt := h.lt
  obtain ⟨es, clock, hb, hks, hst, h⟩ := h
  refine ⟨_, _, run_range_map W T 3 E k es clock hT hb, ⟨es, clock, clock, #[], clock, (Below.heap_alloc _ _ _ hlt).trans hb, heapNew W _, hks, hst, h, hst.1, Nat.le_refl _, Nat.le_refl _, rfl, fun n x hx he => ?_, fun n hn => hn⟩, (Below.refl _ W).al le_rfl' _, by simp⟩
  show (V n).isSome = true ↔ _
  rw [(h n).1 x hx he]; simp
theorem IRan.next {W : World} {k r : Nat} {V : Int → Option Value} {left : Int → Prop} {cnt : Nat} (h : IRan W k r V left cnt) (ty : TypeId) :
    (cnt = 0 ∧ (∀ n, ¬ left n) ∧ (Instr.next (.pointer (some ⟨r, 0, none⟩)) false ty).run Try.prog W = .ok (.tuple #[.bool false]) W) ∨
    ∃ (n : Int) (v : Value) (W' : World) (cnt' : Nat), left n ∧ V n = some v ∧ (Instr.next (.pointer (some ⟨r, 0, none⟩)) false ty).run Try.prog W = .ok (.tuple #[.bool true, .int .i64 n, v]) W' ∧
      IRan W' k r V (fun m => left m ∧ m ≠ n) cnt' ∧ cnt' < cnt ∧ W.grownBy W' (some r) ∧ W'.heap.size = W.heap.size ∧ (Instr.entry (.pointer (some ⟨r, 0, none⟩))).run Try.prog W' = .ok (.tuple #[.int .i64 n, v]) W' := by
  have hne := h.ne
  obtain ⟨es, clock, since, seen, c0, hb, hr, hks, hst, h, hold, hs0, hsc, rfl, hl, hlV⟩ := h
  rcases run_next_at (P := Try.prog) W ty r k since c0 seen es clock hr hb hold hs0 with ⟨h0, hrun⟩ | ⟨e, he, w1, hal, hrun⟩
  · refine .inl ⟨h0, fun n hn => ?_, hrun⟩
    have hV := hlV n hn
    by_cases hx : ∃ x ∈ es.toList, x.key = .int .i64 n
    · obtain ⟨x, hx, hk⟩ := hx
      have := (hl n x hx hk).1 hn
      have hs := all_seen es seen h0 x hx
      rw [this] at hs; cases hs
    · rw [(h n).2 (fun x hx' hk => hx ⟨x, hx', hk⟩)] at hV; cases hV
  · obtain ⟨hem, hes⟩ := mem_left he
    obtain ⟨n, hn⟩ : ∃ n, e.key = .int .i64 n := by
      have := hks e hem
      cases hk : e.key <;> rw [hk] at this <;> simp [MapKept.IsKey] at this
      subst this; exact ⟨_, rfl⟩
    have hr1 : w1.heap[r]? = some (.mapIter (some k) since seen c0) := by rcases hal with rfl | rfl <;> exact hr
    have hb1 : w1.heap[k]? = some (.map es clock) := by rcases hal with rfl | rfl <;> exact hb
    have hset := MapKept.heap_set (o' := .mapIter (some k) since (seen.push e.born) clock) hr1
    have hb' : (ChangeMaps.setBlock w1 r (.mapIter (some k) since (seen.push e.born) clock)).heap[k]? = some (.map es clock) := (hset.2 k (fun e1 => hne e1.symm)).trans hb1
    have hg : W.grownBy (ChangeMaps.setBlock w1 r (.mapIter (some k) since (seen.push e.born) clock)) (some r) := by
      have hw : w1.os = W.os ∧ w1.tape = W.tape ∧ w1.output = W.output ∧ w1.heap = W.heap := by rcases hal with rfl | rfl <;> exact ⟨rfl, rfl, rfl, rfl⟩
      refine ⟨hw.1, hw.2.1, hw.2.2.1, by simp [ChangeMaps.setBlock, hw.2.2.2], fun i _ hi => ?_⟩
      show (w1.heap.setIfInBounds r _)[i]? = _
      rw [Array.getElem?_setIfInBounds_ne (fun e => hi (by rw [e])), hw.2.2.2]
    have hsz : (ChangeMaps.setBlock w1 r (.mapIter (some k) since (seen.push e.born) clock)).heap.size = W.heap.size := by
      rcases hal with rfl | rfl <;> simp [ChangeMaps.setBlock]
    have hV : V n = some e.val := (h n).1 e hem hn
    rw [hn] at hrun
    refine .inr ⟨n, e.val, _, _, (hl n e hem hn).2 hes, hV, hrun, ⟨es, clock, since, seen.push e.born, clock, hb', hset.1, hks, hst, h, hold, hsc, hsc, rfl, fun m x hx hk => ?_, fun m hm => hlV m hm.1⟩, ?_, hg, hsz, ?_⟩
    · have hborn : (x.born = e.born) ↔ m = n := by
        constructor
        · intro hbb
          have := born_inj hst.2.1 hx hem hbb
          rw [this, hn] at hk; simpa using hk.symm
        · rintro rfl
          have := entry_eq_of_key ((MapKept.stamped_iff es clock).1 hst).2.2 hx hem (hk.trans hn.symm)
          rw [this]
      have e1 : (seen.push e.born).contains x.born = (seen.contains x.born || (x.born == e.born)) := by
        rw [contains_push]
      rw [e1, Bool.or_eq_false_iff, ← hl m x hx hk]
      constructor
      · rintro ⟨h1, h2⟩
        exact ⟨h1, by rw [beq_eq_false_iff_ne]; exact fun g => h2 (hborn.1 g)⟩
      · rintro ⟨h1, h2⟩
        exact ⟨h1, fun g => by rw [hborn.2 g] at h2; simp at h2⟩
    · exact left_shrinks es seen e he
    · have := run_entry_at (P := Try.prog) (ChangeMaps.setBlock w1 r (.mapIter (some k) since (seen.push e.born) clock)) r k since seen es clock e hset.1 hb' hem hst.2.1
      rw [hn] at this
      exact this
end Go.Proofs.Ythdkgfmlihgceaa
