/-
  The reader's take, name, number, declared, path.
-/
import Derived.Test.YtaekbgljbgmchaaGreatDoorPzC
namespace Go.Proofs.YtaekbgljbgmchaaGreatDoor
open Go.RowKit
open Lx (Out)
open Pz
/-- A box of four cells: its cells, and that they may be written. -/
theorem four {w : World} {k : Nat} {a b c d : Value} {T : TypeId} (h : w.heap[k]? = some (.cells #[a, b, c, d] T (0, 0))) :
    w.cell? ⟨k, 0, none⟩ = some a ∧ w.cell? ⟨k, 1, none⟩ = some b ∧ w.cell? ⟨k, 2, none⟩ = some c ∧ w.cell? ⟨k, 3, none⟩ = some d ∧ (∀ i, w.frozen? ⟨k, i, none⟩ = false) ∧ k < w.heap.size :=
  ⟨by rw [cellB h]; rfl, by rw [cellB h]; rfl, by rw [cellB h]; rfl, by rw [cellB h]; rfl, frozB h, ltB h⟩
/-- A box of six cells. -/
theorem six {w : World} {k : Nat} {a b c d e f : Value} {T : TypeId} (h : w.heap[k]? = some (.cells #[a, b, c, d, e, f] T (0, 0))) :
    w.cell? ⟨k, 0, none⟩ = some a ∧ w.cell? ⟨k, 1, none⟩ = some b ∧ w.cell? ⟨k, 2, none⟩ = some c ∧ w.cell? ⟨k, 3, none⟩ = some d ∧ w.cell? ⟨k, 4, none⟩ = some e ∧ w.cell? ⟨k, 5, none⟩ = some f ∧ (∀ i, w.frozen? ⟨k, i, none⟩ = false) ∧ k < w.heap.size :=
  ⟨by rw [cellB h]; rfl, by rw [cellB h]; rfl, by rw [cellB h]; rfl, by rw [cellB h]; rfl, by rw [cellB h]; rfl, by rw [cellB h]; rfl, frozB h, ltB h⟩
theorem bel_box {w w' : World} {k : Nat} {o : Obj} (h : w.heap[k]? = some o) (hb : Below w.heap.size w w') : w'.heap[k]? = some o := by rw [hb.block k (ltB h)]; exact h
theorem bel_al (w : World) (o : Obj) : Below w.heap.size w (w.alloc o) := (Below.refl _ _).alloc (Nat.le_refl _) o
theorem Pz.At.put {b g cap : Nat} {toks : List Out} {s : S} {w : World} (h : At b g cap toks s w) {p : Addr} (hb : p.block ≠ b) (hg : p.block ≠ g) (x : Value) : At b g cap toks s (w.setCell p x) := by
  have hblk : ∀ k, k ≠ p.block → (w.setCell p x).heap[k]? = w.heap[k]? := fun k hk => by simp [World.setCell, Array.getElem?_modify, hk.symm]
  refine ⟨by rw [hblk b hb.symm]; exact h.box, fun j hj => ?_, h.gb, by simpa using h.glt, h.cp, h.small, h.ok⟩
  have := h.row j hj
  rw [World.cell?_of_block (a := ⟨g, j * 4, none⟩) (hblk g hg.symm), World.cell?_of_block (a := ⟨g, j * 4 + 1, none⟩) (hblk g hg.symm), World.cell?_of_block (a := ⟨g, j * 4 + 2, none⟩) (hblk g hg.symm), World.cell?_of_block (a := ⟨g, j * 4 + 3, none⟩) (hblk g hg.symm)]
  exact this
set_option maxRecDepth 100000 in
set_option maxHeartbeats 2000000 in
theorem take_any (k : Int) (b g cap : Nat) (toks : List Out) (s : S) (w : World) (h : At b g cap toks s w) :
    Calls Tryz.prog 154 #[.pointer (some ⟨b, 0, none⟩), .int .i64 k] w fun e w' => e = .returned (.agg #[.int .i64 (s.take k).1.kind, .string (s.take k).1.text, .int .i64 (s.take k).1.n, .int .i64 ((s.take k).1.pos : Int)]) ∧ At b g cap toks (s.take k).2 w' ∧ Kp b w w' := by
  have hb := h.lt
  have hgl := h.glt
  have A := h.al (.cells #[.int .i64 0, .string ⟨#[]⟩, .int .i64 0, .int .i64 0] 57)
  have bR := newB w #[.int .i64 0, .string ⟨#[]⟩, .int .i64 0, .int .i64 0] 57
  have h1 := token_any b g cap toks s _ A
  have hne : w.heap.size ≠ b := by omega
  have K : Kp b w (w.alloc (.cells #[.int .i64 0, .string ⟨#[]⟩, .int .i64 0, .int .i64 0] 57)) := (Kp.refl b w).al _
  cases hq : (s.hd.kind != k)
  · have HQ : Hid (s.take k = (s.hd, s.pass)) := by show _ = _; unfold S.take; rw [if_pos (by simpa using hq)]
    obtain ⟨t, ht⟩ : ∃ t, s.hd = t := ⟨_, rfl⟩
    rw [ht] at h1 hq HQ
    clear ht h
    obtain ⟨tk, tt, tn, tp, te⟩ := t
    go_enter Tryz.func154, Tryz.ntmps154
    go_wp2_with (first
      | (go_at_call 62; refine h1.mono ?_; rintro r w1 ⟨rfl, b1⟩; have A := A.below b1; have K := K.tr b1; have bR := bel_box bR b1; have A := A.al (.cells #[.int .i64 tk, .string tt, .int .i64 tn, .int .i64 (tp : Int)] 57); have K := K.al (.cells #[.int .i64 tk, .string tt, .int .i64 tn, .int .i64 (tp : Int)] 57); have bR := bel_box bR (bel_al _ (.cells #[.int .i64 tk, .string tt, .int .i64 tn, .int .i64 (tp : Int)] 57)); have bT := newB w1 #[.int .i64 tk, .string tt, .int .i64 tn, .int .i64 (tp : Int)] 57; have hz1 := K.size; have hne1 : w1.heap.size ≠ b := (by have := b1.size; simp only [World.size_alloc] at this; omega))
      | (go_at_call 110; (with_reducible refine (pass_any b g cap toks _ _ A).mono ?_); rintro r w3 ⟨rfl, A, k3⟩; have K := K.trans k3; obtain ⟨x0, x1, x2, x3, xf, xl⟩ := four (k3.box bR hne); obtain ⟨y0, y1, y2, y3, yf, yl⟩ := four (k3.box bT hne1)))
    refine bodyPost_ret (v := .agg #[.int .i64 tk, .string tt, .int .i64 tn, .int .i64 (tp : Int)]) ?_ rfl ⟨by rw [HQ.out], ?_⟩
    · simp [results, Tryz.results154, go_sem, x0, x1, x2, x3]
    · rw [HQ.out]
      refine ⟨?_, ?_⟩
      · repeat (refine Pz.At.put ?_ hne (by show w.heap.size ≠ g; omega) _)
        exact A
      · repeat (refine Kp.set ?_ (.inr (Nat.le_refl _)) _)
        exact K
  · have HQ : Hid (s.take k = (noTok, s.refuse 40)) := by show _ = _; unfold S.take; rw [if_neg (by simpa using hq)]
    obtain ⟨t, ht⟩ : ∃ t, s.hd = t := ⟨_, rfl⟩
    rw [ht] at h1 hq
    clear ht h
    obtain ⟨tk, tt, tn, tp, te⟩ := t
    go_enter Tryz.func154, Tryz.ntmps154
    go_wp2_with (first
      | (go_at_call 62; refine h1.mono ?_; rintro r w1 ⟨rfl, b1⟩; have A := A.below b1; have K := K.tr b1; have bR := bel_box bR b1; have A := A.al (.cells #[.int .i64 tk, .string tt, .int .i64 tn, .int .i64 (tp : Int)] 57); have K := K.al (.cells #[.int .i64 tk, .string tt, .int .i64 tn, .int .i64 (tp : Int)] 57); have bR := bel_box bR (bel_al _ (.cells #[.int .i64 tk, .string tt, .int .i64 tn, .int .i64 (tp : Int)] 57)); have bT := newB w1 #[.int .i64 tk, .string tt, .int .i64 tn, .int .i64 (tp : Int)] 57; have hz1 := K.size; have hne1 : w1.heap.size ≠ b := (by have := b1.size; simp only [World.size_alloc] at this; omega))
      | (go_at_call 63; (with_reducible refine (refuse_any 40 b g cap toks _ _ A).mono ?_); rintro r w3 ⟨rfl, A, k3⟩; have K := K.trans k3; obtain ⟨x0, x1, x2, x3, xf, xl⟩ := four (k3.box bR hne)))
    refine bodyPost_ret (v := .agg #[.int .i64 0, .string ⟨#[]⟩, .int .i64 0, .int .i64 0]) ?_ rfl ⟨by rw [HQ.out]; rfl, ?_⟩
    · simp [results, Tryz.results154, go_sem, x0, x1, x2, x3]
    · rw [HQ.out]
      refine ⟨?_, ?_⟩
      · repeat (refine Pz.At.put ?_ hne (by show w.heap.size ≠ g; omega) _)
        exact A
      · repeat (refine Kp.set ?_ (.inr (Nat.le_refl _)) _)
        exact K
set_option maxRecDepth 100000 in
set_option maxHeartbeats 2000000 in
theorem nameTok_any (b g cap : Nat) (toks : List Out) (s : S) (w : World) (A : At b g cap toks s w) :
    Calls Tryz.prog 193 #[.pointer (some ⟨b, 0, none⟩)] w fun e w' => e = .returned (.string (s.take 1).1.text) ∧ At b g cap toks (s.take 1).2 w' ∧ Kp b w w' := by
  have f1 := fld1
  have K := Kp.refl b w
  go_enter Tryz.func193, Tryz.ntmps193
  go_wp2_with (first
      | (go_at_call 154; (with_reducible refine (take_any 1 b g cap toks _ _ (by first | exact A | exact A.al _ | exact (A.al _).al _)).mono ?_); rintro r w1 ⟨rfl, A, k⟩; have K : Kp b w w1 := (by first | exact K.trans k | exact (K.al _).trans k | exact ((K.al _).al _).trans k)))
  go_ret
  exact ⟨rfl, A, K⟩
set_option maxRecDepth 100000 in
set_option maxHeartbeats 2000000 in
theorem numTok_any (b g cap : Nat) (toks : List Out) (s : S) (w : World) (A : At b g cap toks s w) :
    Calls Tryz.prog 120 #[.pointer (some ⟨b, 0, none⟩)] w fun e w' => e = .returned (.int .i64 (s.take 2).1.n) ∧ At b g cap toks (s.take 2).2 w' ∧ Kp b w w' := by
  have f1 := fld2
  have K := Kp.refl b w
  go_enter Tryz.func120, Tryz.ntmps120
  go_wp2_with (first
      | (go_at_call 154; (with_reducible refine (take_any 2 b g cap toks _ _ (by first | exact A | exact A.al _ | exact (A.al _).al _)).mono ?_); rintro r w1 ⟨rfl, A, k⟩; have K : Kp b w w1 := (by first | exact K.trans k | exact (K.al _).trans k | exact ((K.al _).al _).trans k)))
  go_ret
  exact ⟨rfl, A, K⟩
set_option maxRecDepth 100000 in
set_option maxHeartbeats 2000000 in
theorem declared_any (b g cap : Nat) (toks : List Out) (s : S) (w : World) (A : At b g cap toks s w) :
    Calls Tryz.prog 117 #[.pointer (some ⟨b, 0, none⟩)] w fun e w' => e = .returned (.tuple #[.string (s.take 1).1.text, .int .i64 ((s.take 1).1.pos : Int)]) ∧ At b g cap toks (s.take 1).2 w' ∧ Kp b w w' := by
  have K := Kp.refl b w
  have h1 := take_any 1 b g cap toks s w A
  obtain ⟨t, ht⟩ : ∃ t, (s.take 1).1 = t := ⟨_, rfl⟩
  rw [ht] at h1 ⊢
  clear ht
  obtain ⟨tk, tt, tn, tp, te⟩ := t
  go_enter Tryz.func117, Tryz.ntmps117
  go_wp2_with (go_at_call 154; (with_reducible refine h1.mono ?_); rintro r w1 ⟨rfl, A, k⟩; obtain ⟨x0, x1, x2, x3, xf, xl⟩ := four (newB w1 #[.int .i64 tk, .string tt, .int .i64 tn, .int .i64 (tp : Int)] 57))
  go_quiet (fail)
  go_wp2
  go_ret2
  exact ⟨rfl, (A.al _).below ⟨rfl, rfl, rfl, Nat.le_refl _, fun _ _ => rfl⟩, (k.al _).tr ⟨rfl, rfl, rfl, Nat.le_refl _, fun _ _ => rfl⟩⟩
set_option maxRecDepth 100000 in
set_option maxHeartbeats 2000000 in
theorem path_any (b g cap : Nat) (toks : List Out) (s : S) (w : World) (A : At b g cap toks s w) :
    Calls Tryz.prog 174 #[.pointer (some ⟨b, 0, none⟩)] w fun e w' => e = .returned (.tuple #[.string (path s).1.1, .string (path s).1.2]) ∧ At b g cap toks (path s).2 w' ∧ Kp b w w' := by
  have K := Kp.refl b w
  go_enter Tryz.func174, Tryz.ntmps174
  go_wp2_with (first
      | (go_at_call 193; (with_reducible refine (nameTok_any b g cap toks _ _ (by first | exact A | exact A.al _ | exact (A.al _).al _)).mono ?_); rintro r w1 ⟨rfl, A, k⟩; have K : Kp b w w1 := (by first | exact K.trans k | exact (K.al _).trans k | exact ((K.al _).al _).trans k))
      | (go_at_call 156; (with_reducible refine (want_any _ b g cap toks _ _ (by first | exact A | exact A.al _ | exact (A.al _).al _)).mono ?_); rintro r w1 ⟨rfl, A, k⟩; have K : Kp b w w1 := (by first | exact K.trans k | exact (K.al _).trans k | exact ((K.al _).al _).trans k)))
  go_ret2
  exact ⟨rfl, A, K⟩
end Go.Proofs.YtaekbgljbgmchaaGreatDoor
