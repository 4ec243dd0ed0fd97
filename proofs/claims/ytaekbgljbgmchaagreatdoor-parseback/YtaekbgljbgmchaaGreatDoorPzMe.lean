/-
  Variables, methods, monitors and roles that are made beside the reader; without their addresses.
-/
import Derived.Test.YtaekbgljbgmchaaGreatDoorPzY
import Derived.Test.YtaekbgljbgmchaaGreatDoorPzX
namespace Go.Proofs.YtaekbgljbgmchaaGreatDoor
open Go.RowKit
open Lx (Out)
open Pz
theorem Va.cells_len (v : Va) : v.cells.length = 6 := rfl
theorem Me.cells_len (m : Me) : m.cells.length = 3 := rfl
theorem Mo.cells_len (m : Mo) : m.cells.length = 4 := rfl
theorem Ro.cells_len (r : Ro) : r.cells.length = 5 := rfl
def Va.clr (v : Va) : Va := v
def Me.clr (m : Me) : Me := ⟨m.name, m.body.clr, m.pos⟩
def Mo.clr (m : Mo) : Mo := ⟨m.name, none, 0, m.vars.map Va.clr, none, 0, m.meths.map Me.clr, m.pos⟩
def Ro.clr (r : Ro) : Ro := ⟨r.name, r.star, r.count, r.body.clr, r.pos⟩
def Pr.clr (p : Pr) : Pr := ⟨none, 0, p.mons.map Mo.clr, none, 0, p.roles.map Ro.clr⟩
def Va.By (_ : Nat → Bool) (_ : World) (v : Va) : Prop := v.Is
def Me.By (Q : Nat → Bool) (w : World) (m : Me) : Prop := m.Is w.heap.size (only Q w)
def Mo.By (Q : Nat → Bool) (w : World) (m : Mo) : Prop := m.Is w.heap.size (only Q w)
def Ro.By (Q : Nat → Bool) (w : World) (r : Ro) : Prop := r.Is w.heap.size (only Q w)
theorem Me.Is.carry {n₀ : Nat} {W W' : World} (hc : ∀ k o v, W.cell? ⟨k, o, none⟩ = some v → W'.cell? ⟨k, o, none⟩ = some v) {m : Me} (h : m.Is n₀ W) : m.Is n₀ W' := ⟨h.1, h.2.1, h.2.2.carry hc⟩
theorem Mo.Is.carry {n₀ : Nat} {W W' : World} (hc : ∀ k o v, W.cell? ⟨k, o, none⟩ = some v → W'.cell? ⟨k, o, none⟩ = some v) {m : Mo} (h : m.Is n₀ W) : m.Is n₀ W' := ⟨h.1, ⟨h.2.1.1.carry Va.cells_len hc, h.2.1.2⟩, h.2.2.1.carry Me.cells_len hc, fun x hx => (h.2.2.2 x hx).carry hc⟩
theorem Ro.Is.carry {n₀ : Nat} {W W' : World} (hc : ∀ k o v, W.cell? ⟨k, o, none⟩ = some v → W'.cell? ⟨k, o, none⟩ = some v) {r : Ro} (h : r.Is n₀ W) : r.Is n₀ W' := ⟨h.1, h.2.1, h.2.2.1, h.2.2.2.carry hc⟩
theorem Va.By.kq {Q : Nat → Bool} {w w' : World} {m : Va} (h : m.By Q w) (_ : Kq Q w w') : m.By Q w' := h
theorem Va.By.weak {Q Q' : Nat → Bool} {w : World} {m : Va} (h : m.By Q w) (_ : ∀ k, Q k = true → k < w.heap.size → Q' k = true) : m.By Q' w := h
theorem Me.By.kq {Q : Nat → Bool} {w w' : World} {m : Me} (h : m.By Q w) (k : Kq Q w w') : m.By Q w' := (Me.Is.carry (only_step k.block) h).mono k.size
theorem Me.By.weak {Q Q' : Nat → Bool} {w : World} {m : Me} (h : m.By Q w) (k : ∀ k, Q k = true → k < w.heap.size → Q' k = true) : m.By Q' w := Me.Is.carry (only_weak k) h
theorem Me.By.mono {m n : Nat} {w : World} {x : Me} (h : x.By (from_ n) w) (k : m ≤ n) : x.By (from_ m) w := h.weak fun _ hk _ => from_iff.2 (Nat.le_trans k (from_iff.1 hk))
theorem Mo.By.kq {Q : Nat → Bool} {w w' : World} {m : Mo} (h : m.By Q w) (k : Kq Q w w') : m.By Q w' := (Mo.Is.carry (only_step k.block) h).mono k.size
theorem Mo.By.weak {Q Q' : Nat → Bool} {w : World} {m : Mo} (h : m.By Q w) (k : ∀ k, Q k = true → k < w.heap.size → Q' k = true) : m.By Q' w := Mo.Is.carry (only_weak k) h
theorem Mo.By.mono {m n : Nat} {w : World} {x : Mo} (h : x.By (from_ n) w) (k : m ≤ n) : x.By (from_ m) w := h.weak fun _ hk _ => from_iff.2 (Nat.le_trans k (from_iff.1 hk))
theorem Ro.By.kq {Q : Nat → Bool} {w w' : World} {m : Ro} (h : m.By Q w) (k : Kq Q w w') : m.By Q w' := (Ro.Is.carry (only_step k.block) h).mono k.size
theorem Ro.By.weak {Q Q' : Nat → Bool} {w : World} {m : Ro} (h : m.By Q w) (k : ∀ k, Q k = true → k < w.heap.size → Q' k = true) : m.By Q' w := Ro.Is.carry (only_weak k) h
theorem Ro.By.mono {m n : Nat} {w : World} {x : Ro} (h : x.By (from_ n) w) (k : m ≤ n) : x.By (from_ m) w := h.weak fun _ hk _ => from_iff.2 (Nat.le_trans k (from_iff.1 hk))
/-- What the functions that read variables, methods, monitors, roles come to. -/
def VaBk (b g cap : Nat) (toks : List Out) (x : Va × S) (w : World) (r : Ending) (w' : World) : Prop :=
  ∃ nm ty lo hi ini po, r = .returned (.agg #[.string nm, .int .i64 ty, .int .i64 lo, .int .i64 hi, .int .i64 ini, .int .i64 po]) ∧ (Va.mk nm ty lo hi ini po).clr = x.1 ∧ (Va.mk nm ty lo hi ini po).By (from_ w.heap.size) w' ∧ At b g cap toks x.2 w' ∧ Kp b w w'
def MeBk (b g cap : Nat) (toks : List Out) (x : Me × S) (w : World) (r : Ending) (w' : World) : Prop :=
  ∃ nm ad cp body po, r = .returned (.agg #[.string nm, .slice ad (body : List St).length cp, .int .i64 po]) ∧ (Me.mk nm (.mk ad cp body) po).clr = x.1 ∧ (Me.mk nm (.mk ad cp body) po).By (from_ w.heap.size) w' ∧ At b g cap toks x.2 w' ∧ Kp b w w'
def MoBk (b g cap : Nat) (toks : List Out) (x : Mo × S) (w : World) (r : Ending) (w' : World) : Prop :=
  ∃ nm vad vcp vars mad mcp meths po, r = .returned (.agg #[.string nm, .slice vad (vars : List Va).length vcp, .slice mad (meths : List Me).length mcp, .int .i64 po]) ∧ (Mo.mk nm vad vcp vars mad mcp meths po).clr = x.1 ∧ (Mo.mk nm vad vcp vars mad mcp meths po).By (from_ w.heap.size) w' ∧ At b g cap toks x.2 w' ∧ Kp b w w'
def RoBk (b g cap : Nat) (toks : List Out) (x : Ro × S) (w : World) (r : Ending) (w' : World) : Prop :=
  ∃ nm star cnt ad cp body po, r = .returned (.agg #[.string nm, .bool star, .int .i64 cnt, .slice ad (body : List St).length cp, .int .i64 po]) ∧ (Ro.mk nm star cnt (.mk ad cp body) po).clr = x.1 ∧ (Ro.mk nm star cnt (.mk ad cp body) po).By (from_ w.heap.size) w' ∧ At b g cap toks x.2 w' ∧ Kp b w w'
theorem truth_ok {toks : List Out} {s : S} (h : Ok toks s) : I64 (truth s).1 ∧ Ok toks (truth s).2 := by
  unfold truth
  split
  · exact ⟨by show I64 1; unfold I64; decide, h.pass⟩
  · exact ⟨by show I64 0; unfold I64; decide, h.want _⟩
theorem typed_ok {toks : List Out} {s : S} (hn : Nn toks) (h : Ok toks s) : (typed s).1.Is ∧ Ok toks (typed s).2 := by
  have h0 : I64 0 := by unfold I64; decide
  have hl : Len e0 := len_e0
  unfold typed
  split
  · have h1 := truth_ok (h.pass.want s_eq)
    exact ⟨⟨hl, by show I64 1; unfold I64; decide, h0, h0, h1.1, h0⟩, h1.2⟩
  · split
    · have h1 := integer_fit hn (h.pass.want s_eq)
      exact ⟨⟨hl, by show I64 2; unfold I64; decide, h0, h0, h1.1, h0⟩, h1.2⟩
    · have h2 := bounds_ok hn h
      have h1 := integer_fit hn (h2.2.2.want s_eq)
      exact ⟨⟨hl, by show I64 3; unfold I64; decide, h2.1, h2.2.1, h1.1, h0⟩, h1.2⟩
theorem vari_c (b g cap : Nat) (toks : List Out) (s : S) (w : World) (h : At b g cap toks s w) (hn : Nn toks) :
    Calls Tryz.prog 158 #[.pointer (some ⟨b, 0, none⟩)] w (VaBk b g cap toks (vari s) w) := by
  refine (vari_any b g cap toks s w h hn).mono ?_
  rintro r w' ⟨h1, h2, h3⟩
  have hf := take_fit h.ok 1
  have ht := (typed_ok hn ((h.ok.take 1).want s_colon)).1
  exact ⟨_, _, _, _, _, _, h1, rfl, ⟨len_of hf.1, ht.2.1, ht.2.2.1, ht.2.2.2.1, ht.2.2.2.2.1, i64_nat hf.2.2⟩, h2, h3⟩
end Go.Proofs.YtaekbgljbgmchaaGreatDoor
