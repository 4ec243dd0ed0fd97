/-
  The reader of package parse in memory, and its small methods: token, sees, pass, fail, refuse, want, take, name, number, declared, path.
-/
import Derived.Test.YtaekbgljbgmchaaGreatDoorPzA
import Derived.Lib.SmallJoins
import Derived.BigQuiet
namespace Go.Proofs.YtaekbgljbgmchaaGreatDoor
open Go.RowKit
/-- All blocks but b stand. -/
structure Kp (b : Nat) (w w' : World) : Prop where
  os : w'.os = w.os
  tape : w'.tape = w.tape
  output : w'.output = w.output
  size : w.heap.size ≤ w'.heap.size
  block : ∀ k, k < w.heap.size → k ≠ b → w'.heap[k]? = w.heap[k]?
theorem Kp.refl (b : Nat) (w : World) : Kp b w w := ⟨rfl, rfl, rfl, Nat.le_refl _, fun _ _ _ => rfl⟩
theorem Kp.trans {b : Nat} {u v w : World} (h : Kp b u v) (k : Kp b v w) : Kp b u w :=
  ⟨k.os.trans h.os, k.tape.trans h.tape, k.output.trans h.output, Nat.le_trans h.size k.size, fun i hi hb => (k.block i (Nat.lt_of_lt_of_le hi h.size) hb).trans (h.block i hi hb)⟩
theorem Kp.of {b : Nat} {w w' : World} (h : Below w.heap.size w w') : Kp b w w' := ⟨h.os, h.tape, h.output, h.size, fun k hk _ => h.block k hk⟩
theorem Kp.tr {b : Nat} {u v w : World} (h : Kp b u v) (k : Below v.heap.size v w) : Kp b u w := h.trans (.of k)
theorem Kp.al {b : Nat} {u v : World} (h : Kp b u v) (o : Obj) : Kp b u (v.alloc o) := h.tr ((Below.refl _ _).alloc (Nat.le_refl _) o)
theorem Kp.drew {b : Nat} {u v : World} (h : Kp b u v) : Kp b u v.drew := ⟨h.os, h.tape, h.output, h.size, h.block⟩
theorem Kp.set {b : Nat} {u v : World} (h : Kp b u v) {p : Addr} (hp : p.block = b ∨ u.heap.size ≤ p.block) (x : Value) : Kp b u (v.setCell p x) := by
  refine ⟨h.os, h.tape, h.output, by simpa using h.size, fun k hk hb => ?_⟩
  rw [← h.block k hk hb]
  have hne : k ≠ p.block := by rcases hp with hp | hp <;> omega
  simp [World.setCell, Array.getElem?_modify, hne.symm]
theorem Kp.cell {b : Nat} {w w' : World} (h : Kp b w w') {p : Addr} (hp : p.block < w.heap.size) (hb : p.block ≠ b) : w'.cell? p = w.cell? p := World.cell?_of_block (h.block _ hp hb)
theorem Kp.box {b : Nat} {w w' : World} (h : Kp b w w') {k : Nat} {o : Obj} (hk : w.heap[k]? = some o) (hb : k ≠ b) : w'.heap[k]? = some o := by
  rw [h.block k (Array.getElem?_eq_some_iff.1 hk).1 hb]; exact hk
theorem cellB {w : World} {k : Nat} {c : Array Value} {T : TypeId} {z : Nat × Nat} (h : w.heap[k]? = some (.cells c T z)) (i : Nat) : w.cell? ⟨k, i, none⟩ = c[i]? := Lib.cell_of_heap h i
theorem frozB {w : World} {k : Nat} {c : Array Value} {T : TypeId} (h : w.heap[k]? = some (.cells c T (0, 0))) (i : Nat) : w.frozen? ⟨k, i, none⟩ = false := Lib.frozen_of_heap h i
theorem ltB {w : World} {k : Nat} {o : Obj} (h : w.heap[k]? = some o) : k < w.heap.size := (Array.getElem?_eq_some_iff.1 h).1
theorem newB (w : World) (c : Array Value) (T : TypeId) : (w.alloc (.cells c T)).heap[w.heap.size]? = some (.cells c T (0, 0)) := by rw [← World.alloc_eq]; simp
namespace Pz
open Lx (Out)
/-- A list of tokens that ends as it should. -/
structure Tk (l : List Out) : Prop where
  ne : l ≠ []
  last : ∀ t, l.getLast? = some t → t.kind = 5
  txt : ∀ t ∈ l, t.kind = 5 → t.text = e0
  fit : ∀ t ∈ l, I64 t.kind ∧ I64 t.n ∧ t.pos ≤ 100000 ∧ t.text.size ≤ 100000
theorem Tk.tail {t : Out} {l : List Out} (h : Tk (t :: l)) (hk : t.kind ≠ 5) : Tk l := by
  have hne : l ≠ [] := by rintro rfl; exact hk (h.last t rfl)
  refine ⟨hne, fun x hx => h.last x ?_, fun x hx => h.txt x (List.mem_cons_of_mem _ hx), fun x hx => h.fit x (List.mem_cons_of_mem _ hx)⟩
  cases l with
  | nil => exact absurd rfl hne
  | cons a l => rw [List.getLast?_cons_cons]; exact hx
theorem last1_eq (l : List Out) (h : l ≠ []) : last1 l = [l.getLast h] := by
  obtain ⟨a, x, rfl⟩ : ∃ a x, l = a ++ [x] := ⟨l.dropLast, l.getLast h, (List.dropLast_concat_getLast h).symm⟩
  unfold last1
  simp
theorem Tk.last1 {l : List Out} (h : Tk l) : Tk (last1 l) := by
  rw [last1_eq l h.ne]
  have hm : l.getLast h.ne ∈ l := List.getLast_mem h.ne
  refine ⟨by simp, fun t ht => ?_, fun t ht => ?_, fun t ht => ?_⟩
  · simp at ht; exact h.last t (by rw [List.getLast?_eq_some_getLast h.ne, ht])
  · simp at ht; subst ht; exact h.txt _ hm
  · simp at ht; subst ht; exact h.fit _ hm
theorem hd_mem (s : S) (h : s.rest ≠ []) : s.hd ∈ s.rest := by
  unfold S.hd
  cases hr : s.rest with
  | nil => exact absurd hr h
  | cons a l => simp
theorem rest_eq (s : S) (h : s.rest ≠ []) : s.rest = s.hd :: s.rest.tail := by
  unfold S.hd
  cases hr : s.rest with
  | nil => exact absurd hr h
  | cons a l => simp
/-- What is left of the tokens is one of their ends, and ends as it should. -/
structure Ok (toks : List Out) (s : S) : Prop where
  suf : ∃ pre, toks = pre ++ s.rest
  tk : Tk s.rest
theorem Ok.len {toks : List Out} {s : S} (h : Ok toks s) : 1 ≤ s.rest.length ∧ s.rest.length ≤ toks.length := by
  obtain ⟨pre, hp⟩ := h.suf
  have := List.length_pos_iff.2 h.tk.ne
  rw [hp]; simp; omega
theorem Ok.at {toks : List Out} {s : S} (h : Ok toks s) : ∃ hlt : toks.length - s.rest.length < toks.length, toks[toks.length - s.rest.length] = s.hd := by
  have hl := h.len
  refine ⟨by omega, ?_⟩
  obtain ⟨pre, hp⟩ := h.suf
  have hr := rest_eq s h.tk.ne
  have h2 : toks = pre ++ s.hd :: s.rest.tail := by rw [hp]; congr 1
  have h3 : toks.length - s.rest.length = pre.length := by rw [hp]; simp
  simp only [h3]
  have : toks[pre.length]? = some s.hd := by rw [h2]; simp
  exact (List.getElem?_eq_some_iff.1 this).2
theorem Ok.fail {toks : List Out} {s : S} (h : Ok toks s) (e a : Int) : Ok toks (s.fail e a) := by
  unfold S.fail
  split
  · obtain ⟨pre, hp⟩ := h.suf
    refine ⟨⟨pre ++ s.rest.take (s.rest.length - 1), ?_⟩, h.tk.last1⟩
    show _ = _ ++ s.rest.drop _
    rw [List.append_assoc, List.take_append_drop]; exact hp
  · exact h
theorem Ok.refuse {toks : List Out} {s : S} (h : Ok toks s) (e : Int) : Ok toks (s.refuse e) := h.fail _ _
theorem Ok.pass {toks : List Out} {s : S} (h : Ok toks s) : Ok toks s.pass := by
  unfold S.pass
  split
  · exact h
  · rename_i hk
    have hr := rest_eq s h.tk.ne
    obtain ⟨pre, hp⟩ := h.suf
    refine ⟨⟨pre ++ [s.hd], ?_⟩, ?_⟩
    · show toks = pre ++ [s.hd] ++ s.rest.tail
      rw [List.append_assoc, List.singleton_append, ← hr]; exact hp
    · have := h.tk; rw [hr] at this; exact this.tail hk
theorem Ok.want {toks : List Out} {s : S} (h : Ok toks s) (x : ByteArray) : Ok toks (s.want x) := by
  unfold S.want
  split
  · exact h.pass
  · exact (h.refuse 40).pass
theorem Ok.take {toks : List Out} {s : S} (h : Ok toks s) (k : Int) : Ok toks (s.take k).2 := by
  unfold S.take
  split
  · exact h.pass
  · exact h.refuse 40
theorem Ok.opn {toks : List Out} {s : S} (h : Ok toks s) (o : Int) : Ok toks ⟨s.rest, o, s.err, s.pos⟩ := ⟨h.suf, h.tk⟩
theorem fail_opn (s : S) (e a : Int) : (s.fail e a).opn = s.opn := by unfold S.fail; split <;> rfl
theorem pass_opn (s : S) : s.pass.opn = s.opn := by unfold S.pass; split <;> rfl
theorem want_opn (s : S) (x : ByteArray) : (s.want x).opn = s.opn := by
  unfold S.want; split
  · exact pass_opn s
  · rw [pass_opn]; exact fail_opn _ _ _
theorem take_opn (s : S) (k : Int) : (s.take k).2.opn = s.opn := by
  unfold S.take; split
  · exact pass_opn s
  · exact fail_opn _ _ _
theorem last1_len (l : List Out) : (last1 l).length ≤ l.length := by unfold last1; simp
theorem fail_len (s : S) (e a : Int) : (s.fail e a).rest.length ≤ s.rest.length := by
  unfold S.fail; split
  · exact last1_len _
  · exact Nat.le_refl _
theorem pass_len (s : S) : s.pass.rest.length ≤ s.rest.length := by
  unfold S.pass; split
  · exact Nat.le_refl _
  · show s.rest.tail.length ≤ _; simp
theorem want_len (s : S) (x : ByteArray) : (s.want x).rest.length ≤ s.rest.length := by
  unfold S.want; split
  · exact pass_len s
  · exact Nat.le_trans (pass_len _) (fail_len _ _ _)
theorem take_len (s : S) (k : Int) : (s.take k).2.rest.length ≤ s.rest.length := by
  unfold S.take; split
  · exact pass_len s
  · exact fail_len _ _ _
/-- The reader lies in block b, its tokens in block g. -/
structure At (b g cap : Nat) (toks : List Out) (s : S) (w : World) : Prop where
  box : w.heap[b]? = some (.cells #[.slice (some ⟨g, 0, none⟩) toks.length cap, .int .i64 ((toks.length - s.rest.length : Nat) : Int), .int .i64 s.opn, .int .i64 s.err, .int .i64 s.pos] 123 (0, 0))
  row : ∀ (j : Nat) (h : j < toks.length), w.cell? ⟨g, j * 4, none⟩ = some (.int .i64 toks[j].kind) ∧ w.cell? ⟨g, j * 4 + 1, none⟩ = some (.string toks[j].text) ∧ w.cell? ⟨g, j * 4 + 2, none⟩ = some (.int .i64 toks[j].n) ∧ w.cell? ⟨g, j * 4 + 3, none⟩ = some (.int .i64 (toks[j].pos : Int))
  gb : g ≠ b
  glt : g < w.heap.size
  cp : toks.length ≤ cap ∧ cap ≤ maxLen
  small : toks.length ≤ 100000
  ok : Ok toks s
theorem At.lt {b g cap : Nat} {toks : List Out} {s : S} {w : World} (h : At b g cap toks s w) : b < w.heap.size := ltB h.box
theorem At.below {b g cap : Nat} {toks : List Out} {s : S} {w w' : World} (h : At b g cap toks s w) (hb : Below w.heap.size w w') : At b g cap toks s w' :=
  ⟨by rw [hb.block b h.lt]; exact h.box, fun j hj => by
    have := h.row j hj
    rw [hb.cell (p := ⟨g, j * 4, none⟩) h.glt, hb.cell (p := ⟨g, j * 4 + 1, none⟩) h.glt, hb.cell (p := ⟨g, j * 4 + 2, none⟩) h.glt, hb.cell (p := ⟨g, j * 4 + 3, none⟩) h.glt]; exact this, h.gb, Nat.lt_of_lt_of_le h.glt hb.size, h.cp, h.small, h.ok⟩
theorem At.al {b g cap : Nat} {toks : List Out} {s : S} {w : World} (h : At b g cap toks s w) (o : Obj) : At b g cap toks s (w.alloc o) := h.below ((Below.refl _ _).alloc (Nat.le_refl _) o)
theorem At.drew {b g cap : Nat} {toks : List Out} {s : S} {w : World} (h : At b g cap toks s w) : At b g cap toks s w.drew := h.below ⟨rfl, rfl, rfl, Nat.le_refl _, fun _ _ => rfl⟩
theorem At.keep {b g cap : Nat} {toks : List Out} {s s' : S} {w w' : World} (h : At b g cap toks s w) (hb : Kp b w w') (hbox : w'.heap[b]? = some (.cells #[.slice (some ⟨g, 0, none⟩) toks.length cap, .int .i64 ((toks.length - s'.rest.length : Nat) : Int), .int .i64 s'.opn, .int .i64 s'.err, .int .i64 s'.pos] 123 (0, 0))) (ho : Ok toks s') : At b g cap toks s' w' :=
  ⟨hbox, fun j hj => by
    have := h.row j hj
    rw [hb.cell (p := ⟨g, j * 4, none⟩) h.glt h.gb, hb.cell (p := ⟨g, j * 4 + 1, none⟩) h.glt h.gb, hb.cell (p := ⟨g, j * 4 + 2, none⟩) h.glt h.gb, hb.cell (p := ⟨g, j * 4 + 3, none⟩) h.glt h.gb]; exact this, h.gb, Nat.lt_of_lt_of_le h.glt hb.size, h.cp, h.small, ho⟩
theorem At.cells {b g cap : Nat} {toks : List Out} {s : S} {w : World} (h : At b g cap toks s w) :
    w.cell? ⟨b, 0, none⟩ = some (.slice (some ⟨g, 0, none⟩) toks.length cap) ∧ w.cell? ⟨b, 1, none⟩ = some (.int .i64 ((toks.length - s.rest.length : Nat) : Int)) ∧ w.cell? ⟨b, 2, none⟩ = some (.int .i64 s.opn) ∧ w.cell? ⟨b, 3, none⟩ = some (.int .i64 s.err) ∧ w.cell? ⟨b, 4, none⟩ = some (.int .i64 s.pos) ∧ ∀ i, w.frozen? ⟨b, i, none⟩ = false :=
  ⟨by rw [cellB h.box]; rfl, by rw [cellB h.box]; rfl, by rw [cellB h.box]; rfl, by rw [cellB h.box]; rfl, by rw [cellB h.box]; rfl, frozB h.box⟩
theorem setB {w : World} {k i : Nat} {c : Array Value} {T : TypeId} {z : Nat × Nat} (h : w.heap[k]? = some (.cells c T z)) (x : Value) : (w.setCell ⟨k, i, none⟩ x).heap[k]? = some (.cells (c.setIfInBounds i x) T z) := by
  simp [World.setCell, Array.getElem?_modify, h]
end Pz
end Go.Proofs.YtaekbgljbgmchaaGreatDoor
