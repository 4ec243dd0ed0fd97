/-
  Statements and blocks that are made beside the reader; without their addresses.
-/
import Derived.Test.YtaekbgljbgmchaaGreatDoorPzL
namespace Go.Proofs.YtaekbgljbgmchaaGreatDoor
open Go.RowKit
open Lx (Out)
open Pz
theorem St.cells_len (s : St) : s.cells.length = 12 := by rcases s with ⟨_, _, _, _, ⟨⟩, _, _, _, _⟩; rfl
theorem Bl.cells_len (b : Bl) : b.cells.length = 1 := rfl
theorem Bl.Is.carry {n₀ : Nat} {W W' : World} (hc : ∀ k o v, W.cell? ⟨k, o, none⟩ = some v → W'.cell? ⟨k, o, none⟩ = some v) {b : Bl} : b.Is n₀ W → b.Is n₀ W' :=
  Bl.ind (P := fun s => s.Is n₀ W → s.Is n₀ W') (Q := fun b => b.Is n₀ W → b.Is n₀ W') (fun _ _ _ _ _ _ _ _ _ ih h => St.Is.up ⟨h.down.1, h.down.2.1.carry hc, h.down.2.2.1.carry Bl.cells_len hc, fun b hb' => ih b hb' (h.down.2.2.2 b hb')⟩)
    (fun _ _ _ ih h => Bl.Is.up ⟨h.down.1.carry St.cells_len hc, fun s hs => ih s hs (h.down.2 s hs)⟩) b
theorem St.Is.carry {n₀ : Nat} {W W' : World} (hc : ∀ k o v, W.cell? ⟨k, o, none⟩ = some v → W'.cell? ⟨k, o, none⟩ = some v) {s : St} : s.Is n₀ W → s.Is n₀ W' :=
  St.ind (P := fun s => s.Is n₀ W → s.Is n₀ W') (Q := fun b => b.Is n₀ W → b.Is n₀ W') (fun _ _ _ _ _ _ _ _ _ ih h => St.Is.up ⟨h.down.1, h.down.2.1.carry hc, h.down.2.2.1.carry Bl.cells_len hc, fun b hb' => ih b hb' (h.down.2.2.2 b hb')⟩)
    (fun _ _ _ ih h => Bl.Is.up ⟨h.down.1.carry St.cells_len hc, fun s hs => ih s hs (h.down.2 s hs)⟩) s
theorem St.Is.mono {n₀ n₁ : Nat} {W : World} (hn : n₀ ≤ n₁) {s : St} : s.Is n₀ W → s.Is n₁ W :=
  St.ind (P := fun s => s.Is n₀ W → s.Is n₁ W) (Q := fun b => b.Is n₀ W → b.Is n₁ W) (fun _ _ _ _ _ _ _ _ _ ih h => St.Is.up ⟨h.down.1, h.down.2.1.mono hn, h.down.2.2.1.mono hn, fun b hb' => ih b hb' (h.down.2.2.2 b hb')⟩)
    (fun _ _ _ ih h => Bl.Is.up ⟨h.down.1.mono hn, fun s hs => ih s hs (h.down.2 s hs)⟩) s
def St.By (Q : Nat → Bool) (w : World) (s : St) : Prop := s.Is w.heap.size (only Q w)
def Bl.By (Q : Nat → Bool) (w : World) (b : Bl) : Prop := b.Is w.heap.size (only Q w)
theorem St.By.kq {Q : Nat → Bool} {w w' : World} {s : St} (hs : s.By Q w) (h : Kq Q w w') : s.By Q w' := (St.Is.carry (only_step h.block) hs).mono h.size
theorem St.By.weak {Q Q' : Nat → Bool} {w : World} {s : St} (hs : s.By Q w) (h : ∀ k, Q k = true → k < w.heap.size → Q' k = true) : s.By Q' w := St.Is.carry (only_weak h) hs
theorem St.By.mono {m n : Nat} {w : World} {s : St} (hs : s.By (from_ n) w) (h : m ≤ n) : s.By (from_ m) w := hs.weak fun _ hk _ => from_iff.2 (Nat.le_trans h (from_iff.1 hk))
theorem Bl.By.kq {Q : Nat → Bool} {w w' : World} {b : Bl} (hb : b.By Q w) (h : Kq Q w w') : b.By Q w' := (Bl.Is.carry (only_step h.block) hb).mono h.size
theorem Bl.By.weak {Q Q' : Nat → Bool} {w : World} {b : Bl} (hb : b.By Q w) (h : ∀ k, Q k = true → k < w.heap.size → Q' k = true) : b.By Q' w := Bl.Is.carry (only_weak h) hb
theorem Bl.By.mono {m n : Nat} {w : World} {b : Bl} (hb : b.By (from_ n) w) (h : m ≤ n) : b.By (from_ m) w := hb.weak fun _ hk _ => from_iff.2 (Nat.le_trans h (from_iff.1 hk))
theorem Bl.By.is {Q : Nat → Bool} {w : World} {b : Bl} (h : b.By Q w) : b.Is w.heap.size w := Bl.Is.carry (fun k o v hv => (only_cell Q w k o v hv).2.2) h
mutual
/-- A statement, a block without their addresses. -/
def St.clr : St → St
  | .mk kind mon name n e _ _ blocks pos => .mk kind mon name n e.clr none 0 (Bl.clrL blocks) pos
def Bl.clr : Bl → Bl
  | .mk _ _ body => .mk none 0 (St.clrL body)
def St.clrL : List St → List St
  | [] => []
  | s :: r => s.clr :: St.clrL r
def Bl.clrL : List Bl → List Bl
  | [] => []
  | b :: r => b.clr :: Bl.clrL r
end
theorem St.clrL_eq (l : List St) : St.clrL l = l.map St.clr := by
  induction l with
  | nil => simp [St.clrL]
  | cons a l ih => simp [St.clrL, ih]
theorem Bl.clrL_eq (l : List Bl) : Bl.clrL l = l.map Bl.clr := by
  induction l with
  | nil => simp [Bl.clrL]
  | cons a l ih => simp [Bl.clrL, ih]
/-- What a function that reads statements comes to. -/
def BlBack (b g cap : Nat) (toks : List Out) (x : Bl × S) (w : World) (r : Ending) (w' : World) : Prop :=
  ∃ ad cp body, r = .returned (.slice ad (body : List St).length cp) ∧ (Bl.mk ad cp body).clr = x.1 ∧ (Bl.mk ad cp body).By (from_ w.heap.size) w' ∧ At b g cap toks x.2 w' ∧ Kp b w w'
/-- What a function that reads a statement comes to. -/
def StBack (b g cap : Nat) (toks : List Out) (x : St × S) (w : World) (r : Ending) (w' : World) : Prop :=
  ∃ kind mon name n eop emon ename en ead ecp ekids epos ad cp blocks pos, r = .returned (.agg #[.int .i64 kind, .string mon, .string name, .int .i64 n, .int .i64 eop, .string emon, .string ename, .int .i64 en, .slice ead (ekids : List Ex).length ecp, .int .i64 epos, .slice ad (blocks : List Bl).length cp, .int .i64 pos]) ∧
    (St.mk kind mon name n (.mk eop emon ename en ead ecp ekids epos) ad cp blocks pos).clr = x.1 ∧ (St.mk kind mon name n (.mk eop emon ename en ead ecp ekids epos) ad cp blocks pos).By (from_ w.heap.size) w' ∧ At b g cap toks x.2 w' ∧ Kp b w w'
theorem twelve {w : World} {k : Nat} {a b c d e f g h i j l m : Value} {T : TypeId} (hh : w.heap[k]? = some (.cells #[a, b, c, d, e, f, g, h, i, j, l, m] T (0, 0))) :
    (w.cell? ⟨k, 0, none⟩ = some a ∧ w.cell? ⟨k, 1, none⟩ = some b ∧ w.cell? ⟨k, 2, none⟩ = some c ∧ w.cell? ⟨k, 3, none⟩ = some d ∧ w.cell? ⟨k, 4, none⟩ = some e ∧ w.cell? ⟨k, 5, none⟩ = some f ∧ w.cell? ⟨k, 6, none⟩ = some g ∧ w.cell? ⟨k, 7, none⟩ = some h ∧ w.cell? ⟨k, 8, none⟩ = some i ∧ w.cell? ⟨k, 9, none⟩ = some j ∧ w.cell? ⟨k, 10, none⟩ = some l ∧ w.cell? ⟨k, 11, none⟩ = some m) ∧ (∀ i, w.frozen? ⟨k, i, none⟩ = false) ∧ k < w.heap.size :=
  ⟨⟨by rw [cellB hh]; rfl, by rw [cellB hh]; rfl, by rw [cellB hh]; rfl, by rw [cellB hh]; rfl, by rw [cellB hh]; rfl, by rw [cellB hh]; rfl, by rw [cellB hh]; rfl, by rw [cellB hh]; rfl, by rw [cellB hh]; rfl, by rw [cellB hh]; rfl, by rw [cellB hh]; rfl, by rw [cellB hh]; rfl⟩, frozB hh, ltB hh⟩
/-- A statement without blocks. -/
theorem StBy.leaf {Q : Nat → Bool} {w : World} {kind : Int} {mon name : ByteArray} {n : Int} {e : Ex} {pos : Int} (hnum : I64 kind ∧ I64 n ∧ I64 pos ∧ Len mon ∧ Len name) (he : e.By Q w) : (St.mk kind mon name n e none 0 [] pos).By Q w :=
  St.Is.up ⟨hnum, he, ⟨Nat.le_refl _, by unfold maxLen; omega, .inl rfl⟩, by simp⟩
/-- No expression. -/
theorem By.zero {Q : Nat → Bool} {w : World} : (Ex.mk 0 ⟨#[]⟩ ⟨#[]⟩ 0 none 0 [] 0).By Q w := By.leaf ⟨i64_small (by decide) (by decide), i64_small (by decide) (by decide), i64_small (by decide) (by decide), len_e0, len_e0⟩
/-- A statement with one block, in a new slice. -/
theorem StBy.one {Q : Nat → Bool} {w : World} {kind : Int} {mon name : ByteArray} {n : Int} {e : Ex} {pos : Int} {k : Nat} {T : TypeId} {x : Bl} (hkq : Q k = true) (hnum : I64 kind ∧ I64 n ∧ I64 pos ∧ Len mon ∧ Len name) (he : e.By Q w) (h : w.heap[k]? = some (.cells #[x.slice] T (0, 0))) (hx : x.By Q w) :
    (St.mk kind mon name n e (some ⟨k, 0, none⟩) 1 [x] pos).By Q w := by
  refine St.Is.up ⟨hnum, he, ⟨Nat.le_refl _, by unfold maxLen; omega, .inr ⟨k, 0, rfl, ltB h, fun j hj i hi => ?_⟩⟩, fun y hy => by rw [List.mem_singleton.1 hy]; exact hx⟩
  obtain rfl : j = 0 := by simpa using hj
  obtain rfl : i = 0 := by omega
  rw [only_in Q w k _ hkq, cellB h]; rfl
end Go.Proofs.YtaekbgljbgmchaaGreatDoor
