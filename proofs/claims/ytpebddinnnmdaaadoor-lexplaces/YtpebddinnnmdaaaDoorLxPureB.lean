/-
  A text's tokens with blanks between are told again; two texts with a note between tell the tokens of both.
-/
import Derived.Test.YtpebddinnnmdaaaDoorLxPureA
namespace Go.Proofs.YtpebddinnnmdaaaDoor
open Go.RowKit
namespace Lx
/-- A byte that ends every token ahead of it, as the end does. -/
def Brk (h : UInt8) : Prop := nameByte h = false ∧ digit h = false ∧ ∀ c : Int, signLen c (h.toNat : Int) = signLen c 0
theorem brk32 : Brk 32 := ⟨by decide, by decide, fun c => by simp only [show ((32 : UInt8).toNat : Int) = 32 from rfl]; unfold signLen; (repeat' split) <;> simp_all <;> omega⟩
theorem brk35 : Brk 35 := ⟨by decide, by decide, fun c => by simp only [show ((35 : UInt8).toNat : Int) = 35 from rfl]; unfold signLen; (repeat' split) <;> simp_all <;> omega⟩
theorem brk10 : Brk 10 := ⟨by decide, by decide, fun c => by simp only [show ((10 : UInt8).toNat : Int) = 10 from rfl]; unfold signLen; (repeat' split) <;> simp_all <;> omega⟩
theorem takeWhile_brk (p : UInt8 → Bool) (h : UInt8) (hp : p h = false) (l r : List UInt8) : (l ++ h :: r).takeWhile p = l.takeWhile p := by
  induction l with
  | nil => simp [hp]
  | cons c l ih => cases hc : p c <;> simp [hc, ih]
theorem signLen_two (c d : Int) : signLen c d ≤ 2 := by unfold signLen; (repeat' split) <;> omega
theorem signLen_end (c : UInt8) : signLen (c.toNat : Int) 0 ≤ 1 := by
  unfold signLen
  (repeat' split) <;> simp_all <;> omega
theorem signLen_one (c : UInt8) (d : Int) (h : signLen (c.toNat : Int) d = 1) : signLen (c.toNat : Int) 0 = 1 := by
  unfold signLen at h ⊢
  (repeat' split at h) <;> simp_all
theorem tok_stable (h : UInt8) (hb : Brk h) (c : UInt8) (l r : List UInt8) : tokL ((c :: l) ++ h :: r) = tokL (c :: l) := by
  have e : ∀ x, tokL (c :: x) = if letter c then nameT ((c :: x).takeWhile nameByte) else if digit c then numT ((c :: x).takeWhile digit) else signT (c :: x) := fun _ => rfl
  rw [List.cons_append, e, e, ← List.cons_append, takeWhile_brk nameByte h hb.1, takeWhile_brk digit h hb.2.1]
  split
  · rfl
  · split
    · rfl
    · cases l with
      | nil =>
        show (if signLen (c.toNat : Int) (h.toNat : Int) = 0 then badT 10 else ⟨4, ([c] ++ h :: r).take (signLen (c.toNat : Int) (h.toNat : Int)), 0, 0⟩) = (if signLen (c.toNat : Int) 0 = 0 then badT 10 else ⟨4, [c].take (signLen (c.toNat : Int) 0), 0, 0⟩)
        rw [hb.2.2, List.take_append_of_le_length (by simpa using signLen_end c)]
      | cons d l =>
        show (if signLen (c.toNat : Int) (d.toNat : Int) = 0 then badT 10 else ⟨4, ((c :: d :: l) ++ h :: r).take (signLen (c.toNat : Int) (d.toNat : Int)), 0, 0⟩) = (if signLen (c.toNat : Int) (d.toNat : Int) = 0 then badT 10 else ⟨4, (c :: d :: l).take (signLen (c.toNat : Int) (d.toNat : Int)), 0, 0⟩)
        rw [List.take_append_of_le_length (by have := signLen_two (c.toNat : Int) (d.toNat : Int); simp; omega)]
theorem takeWhile_self (p : UInt8 → Bool) (l : List UInt8) : (l.takeWhile p).takeWhile p = l.takeWhile p := by
  induction l with
  | nil => rfl
  | cons c l ih => cases hc : p c <;> simp [hc, ih]
theorem nameT_text (x : List UInt8) (h : (nameT x).err = 0) : (nameT x).text = x := by
  unfold nameT at h ⊢; split
  · rfl
  · rename_i hw; rw [if_neg hw] at h; split
    · rename_i h2; rw [if_pos h2] at h; simp [badT] at h
    · rfl
theorem numT_text (x : List UInt8) (h : (numT x).err = 0) : (numT x).text = x := by
  unfold numT at h ⊢; split
  · rename_i h2; rw [if_pos h2] at h; simp [badT] at h
  · rename_i h1; rw [if_neg h1] at h; split
    · rfl
    · rename_i h2; rw [if_neg h2] at h; simp [badT] at h
/-- A token's own text tells it; it begins as the list does. -/
theorem tok_self (c : UInt8) (l : List UInt8) (h : (tokL (c :: l)).err = 0) : tokL (tokL (c :: l)).text = tokL (c :: l) ∧ (∃ r, (tokL (c :: l)).text = c :: r) ∧ (tokL (c :: l)).text.length ≤ (c :: l).length := by
  have e : ∀ x, tokL (c :: x) = if letter c then nameT ((c :: x).takeWhile nameByte) else if digit c then numT ((c :: x).takeWhile digit) else signT (c :: x) := fun _ => rfl
  rw [e] at h ⊢
  cases hl : letter c
  · cases hd : digit c
    · simp only [hl, hd, Bool.false_eq_true, if_false] at h ⊢
      have es : ∀ x, tokL (c :: x) = signT (c :: x) := fun x => by rw [e]; simp [hl, hd]
      cases l with
      | nil =>
        have e1 : signT [c] = if signLen (c.toNat : Int) 0 = 0 then badT 10 else ⟨4, [c].take (signLen (c.toNat : Int) 0), 0, 0⟩ := rfl
        have h1 := signLen_end c
        rw [e1] at h ⊢
        by_cases h0 : signLen (c.toNat : Int) 0 = 0
        · rw [if_pos h0] at h; simp [badT] at h
        · have h2 : signLen (c.toNat : Int) 0 = 1 := by omega
          rw [if_neg h0, h2]
          refine ⟨?_, ⟨[], rfl⟩, by simp⟩
          show tokL [c] = _
          rw [es, e1, if_neg h0, h2]
      | cons d l =>
        have e1 : ∀ x, signT (c :: d :: x) = if signLen (c.toNat : Int) (d.toNat : Int) = 0 then badT 10 else ⟨4, (c :: d :: x).take (signLen (c.toNat : Int) (d.toNat : Int)), 0, 0⟩ := fun _ => rfl
        have h1 := signLen_two (c.toNat : Int) (d.toNat : Int)
        rw [e1] at h ⊢
        by_cases h0 : signLen (c.toNat : Int) (d.toNat : Int) = 0
        · rw [if_pos h0] at h; simp [badT] at h
        · rw [if_neg h0]
          by_cases h2 : signLen (c.toNat : Int) (d.toNat : Int) = 1
          · rw [h2]
            refine ⟨?_, ⟨[], rfl⟩, by simp⟩
            show tokL [c] = _
            have h3 := signLen_one c _ h2
            rw [es]
            show (if signLen (c.toNat : Int) 0 = 0 then badT 10 else ⟨4, [c].take (signLen (c.toNat : Int) 0), 0, 0⟩) = _
            rw [h3]; rfl
          · have h2' : signLen (c.toNat : Int) (d.toNat : Int) = 2 := by omega
            rw [h2']
            refine ⟨?_, ⟨[d], rfl⟩, by simp⟩
            show tokL [c, d] = _
            rw [es, e1, if_neg h0, h2']; rfl
    · simp only [hl, hd, Bool.false_eq_true, if_false, if_true] at h ⊢
      rw [numT_text _ h]
      have hx : (c :: l).takeWhile digit = c :: l.takeWhile digit := by simp [hd]
      refine ⟨?_, ⟨_, hx⟩, (List.takeWhile_sublist _).length_le⟩
      have hs := takeWhile_self digit (c :: l)
      rw [hx] at hs ⊢
      rw [e, hs]; simp [hl, hd]
  · simp only [hl, if_true] at h ⊢
    rw [nameT_text _ h]
    have hx : (c :: l).takeWhile nameByte = c :: l.takeWhile nameByte := by simp [nameByte, hl]
    refine ⟨?_, ⟨_, hx⟩, (List.takeWhile_sublist _).length_le⟩
    have hs := takeWhile_self nameByte (c :: l)
    rw [hx] at hs ⊢
    rw [e, hs]; simp [hl]
theorem skip_head : ∀ (l : List UInt8) (b : Bool) (c : UInt8) (r : List UInt8), l.drop (skipC b l) = c :: r → blank c = false ∧ c ≠ 35 := by
  intro l
  induction l with
  | nil => intro b c r h; simp at h
  | cons x l ih =>
    intro b c r h
    cases b with
    | true =>
      simp only [skipC] at h
      split at h
      · exact ih false c r (by simpa using h)
      · exact ih true c r (by simpa using h)
    | false =>
      simp only [skipC] at h
      split at h
      · exact ih true c r (by simpa using h)
      · rename_i h35
        split at h
        · exact ih false c r (by simpa using h)
        · rename_i hb
          simp at h
          rw [← h.1]
          exact ⟨by simpa using hb, h35⟩
def Good (t : T) : Prop := t.err = 0 ∧ tokL t.text = t ∧ ∃ c r, t.text = c :: r ∧ blank c = false ∧ c ≠ 35
theorem good_of {l : List UInt8} {R : RL} (h : Scans l R) : ∀ ts, R = .done ts → ∀ t ∈ ts, Good t := by
  induction h with
  | nil l h => intro ts e t ht; cases e; simp at ht
  | bad l c r h he => intro ts e; cases e
  | tok l c r R h he hR ih =>
    intro ts e t ht
    cases hRR : R with
    | fail e' k => rw [hRR] at e; cases e
    | done us =>
      rw [hRR] at e
      have e2 : tokL (c :: r) :: us = ts := by injection e
      rw [← e2] at ht
      rcases List.mem_cons.1 ht with rfl | ht
      · obtain ⟨h1, ⟨r', h2⟩, _⟩ := tok_self c r he
        obtain ⟨h3, h4⟩ := skip_head _ _ _ _ h
        exact ⟨he, h1, c, r', h2, h3, h4⟩
      · exact ih us hRR t ht
theorem skip_zero (c : UInt8) (l : List UInt8) (h : blank c = false) (h35 : c ≠ 35) : skipC false (c :: l) = 0 := by simp [skipC, h, h35]
theorem blank_step {l : List UInt8} {R : RL} (h : Scans l R) : ∀ ts, R = .done ts → Scans (32 :: l) (.done ts) := by
  have hs : ∀ l, skipC false (32 :: l) = skipC false l + 1 := fun l => by simp [skipC, blank]
  cases h with
  | nil _ h => intro ts e; cases e; exact .nil _ (by rw [hs]; simpa using h)
  | bad _ c r h he => intro ts e; cases e
  | tok _ c r R h he hR =>
    intro ts e
    cases hRR : R with
    | fail e' k => rw [hRR] at e; cases e
    | done us =>
      rw [hRR] at e hR
      have := Scans.tok (32 :: l) c r (.done us) (by rw [hs]; simpa using h) he hR
      rw [← e]; exact this
/-- TOLD AGAIN. -/
theorem again (ts : List T) (h : ∀ t ∈ ts, Good t) : Scans (ts.flatMap fun t => t.text ++ [32]) (.done ts) := by
  induction ts with
  | nil => exact .nil _ (by simp)
  | cons t ts ih =>
    obtain ⟨h0, h1, c, r, h2, h3, h4⟩ := h t (by simp)
    have hrest := blank_step (ih (fun t ht => h t (by simp [ht]))) ts rfl
    have e1 : ((t :: ts).flatMap fun t => t.text ++ [32]) = (c :: r) ++ 32 :: (ts.flatMap fun t => t.text ++ [32]) := by
      rw [List.flatMap_cons, h2]; simp
    have hst := tok_stable 32 brk32 c r (ts.flatMap fun t => t.text ++ [32])
    rw [← h2, h1] at hst
    have hsk : skipC false ((c :: r) ++ 32 :: (ts.flatMap fun t => t.text ++ [32])) = 0 := skip_zero c _ h3 h4
    rw [e1]
    have := Scans.tok ((c :: r) ++ 32 :: (ts.flatMap fun t => t.text ++ [32])) c (r ++ 32 :: (ts.flatMap fun t => t.text ++ [32])) (.done ts) (by rw [hsk]; rfl)
      (by rw [← List.cons_append, ← h2, hst]; exact h0) (by rw [← List.cons_append, ← h2, hst]; simpa using hrest)
    rw [← List.cons_append, ← h2, hst] at this
    rw [← h2]
    exact this
/-- What is passed over between two texts. -/
def Gap (g : List UInt8) : Prop := (∃ b r, g = b :: r ∧ Brk b) ∧ ∀ (b : Bool) (t : List UInt8), skipC b (g ++ t) = g.length + skipC false t
theorem skip_all (g t : List UInt8) (hg : Gap g) : ∀ (l : List UInt8) (b : Bool), skipC b l = l.length → skipC b (l ++ (g ++ t)) = l.length + (g.length + skipC false t) := by
  intro l
  induction l with
  | nil => intro b _; simpa using hg.2 b t
  | cons x l ih =>
    intro b h
    cases b with
    | true =>
      simp only [skipC, List.length_cons] at h
      simp only [List.cons_append, skipC, List.length_cons]
      split at h
      · rename_i h10; rw [if_pos h10, ih false (by omega)]; omega
      · rename_i h10; rw [if_neg h10, ih true (by omega)]; omega
    | false =>
      simp only [skipC, List.length_cons] at h
      simp only [List.cons_append, skipC, List.length_cons]
      split at h
      · rename_i h35; rw [if_pos h35, ih true (by omega)]; omega
      · rename_i h35
        rw [if_neg h35]
        split at h
        · rename_i hb; rw [if_pos hb, ih false (by omega)]; omega
        · omega
theorem skip_part (x : List UInt8) : ∀ (l : List UInt8) (b : Bool), skipC b l < l.length → skipC b (l ++ x) = skipC b l := by
  intro l
  induction l with
  | nil => intro b h; simp at h
  | cons y l ih =>
    intro b h
    cases b with
    | true =>
      simp only [skipC, List.length_cons] at h
      simp only [List.cons_append, skipC]
      split at h
      · rename_i h10; rw [if_pos h10, if_pos h10, ih false (by omega)]
      · rename_i h10; rw [if_neg h10, if_neg h10, ih true (by omega)]
    | false =>
      simp only [skipC, List.length_cons] at h
      simp only [List.cons_append, skipC]
      split at h
      · rename_i h35; rw [if_pos h35, if_pos h35, ih true (by omega)]
      · rename_i h35
        rw [if_neg h35, if_neg h35]
        split at h
        · rename_i hb; rw [if_pos hb, if_pos hb, ih false (by omega)]
        · rename_i hb; rw [if_neg hb, if_neg hb]
def addR (ts : List T) (m : Nat) : RL → RL
  | .done us => .done (ts ++ us)
  | .fail e k => .fail e (k + m)
theorem glue0 {l : List UInt8} (hl : l.drop (skipC false l) = []) (g t : List UInt8) (hg : Gap g) {R : RL} (hR : Scans t R) : Scans (l ++ (g ++ t)) (addR [] (l.length + g.length) R) := by
  have hall : skipC false l = l.length := by
    have h1 := skipC_le false l
    have h2 := congrArg List.length hl
    rw [List.length_drop, List.length_nil] at h2; omega
  have hsk := skip_all g t hg l false hall
  have hdr : ∀ m, (l ++ (g ++ t)).drop (l.length + (g.length + m)) = t.drop m := by
    intro m; rw [List.drop_append, List.drop_of_length_le (by omega), List.nil_append, List.drop_append, List.drop_of_length_le (by omega), List.nil_append]; congr 1; omega
  cases hR with
  | nil _ h => exact .nil _ (by rw [hsk, hdr]; exact h)
  | bad _ c r h he =>
    have := Scans.bad (l ++ (g ++ t)) c r (by rw [hsk, hdr]; exact h) he
    rw [hsk] at this
    show Scans _ (.fail _ (skipC false t + (l.length + g.length)))
    rw [show skipC false t + (l.length + g.length) = l.length + (g.length + skipC false t) by omega]; exact this
  | tok _ c r R h he hR =>
    have := Scans.tok (l ++ (g ++ t)) c r R (by rw [hsk, hdr]; exact h) he hR
    rw [hsk] at this
    cases R with
    | done us => exact this
    | fail e k =>
      show Scans _ (.fail e (k + (tokL (c :: r)).text.length + skipC false t + (l.length + g.length)))
      rw [show k + (tokL (c :: r)).text.length + skipC false t + (l.length + g.length) = k + (tokL (c :: r)).text.length + (l.length + (g.length + skipC false t)) by omega]; exact this
/-- TWO TEXTS WITH A GAP BETWEEN. -/
theorem glue {l : List UInt8} {R0 : RL} (h : Scans l R0) (g t : List UInt8) (hg : Gap g) {R : RL} (hR : Scans t R) : ∀ ts, R0 = .done ts → Scans (l ++ (g ++ t)) (addR ts (l.length + g.length) R) := by
  induction h with
  | nil l h => intro ts e; cases e; exact glue0 h g t hg hR
  | bad l c r h he => intro ts e; cases e
  | tok l c r R1 h he hR1 ih =>
    intro ts e
    cases hRR : R1 with
    | fail e' k => rw [hRR] at e; cases e
    | done us =>
      rw [hRR] at e
      have e2 : tokL (c :: r) :: us = ts := by injection e
      have ih2 := ih us hRR
      have hlt : skipC false l < l.length := by
        have h2 := congrArg List.length h
        rw [List.length_drop, List.length_cons] at h2; omega
      have hlen : (c :: r).length = l.length - skipC false l := by rw [← h, List.length_drop]
      obtain ⟨_, _, htl⟩ := tok_self c r he
      obtain ⟨⟨b, gr, rfl, hb⟩, _⟩ := hg
      have hst : tokL (c :: (r ++ (b :: gr ++ t))) = tokL (c :: r) := by
        have := tok_stable b hb c r (gr ++ t)
        simpa using this
      have hsk := skip_part (b :: gr ++ t) l false hlt
      have h3 : (l ++ (b :: gr ++ t)).drop (skipC false (l ++ (b :: gr ++ t))) = c :: (r ++ (b :: gr ++ t)) := by
        rw [hsk, List.drop_append_of_le_length (by omega), h]; rfl
      have := Scans.tok (l ++ (b :: gr ++ t)) c (r ++ (b :: gr ++ t)) _ h3 (by rw [hst]; exact he) (by
        rw [hst, ← List.cons_append, List.drop_append_of_le_length htl]; exact ih2)
      rw [hst, hsk] at this
      rw [← e2]
      cases R with
      | done vs => exact this
      | fail e k =>
        have hd : ((c :: r).drop (tokL (c :: r)).text.length).length = (c :: r).length - (tokL (c :: r)).text.length := List.length_drop
        show Scans _ (.fail e (k + (l.length + (b :: gr).length)))
        rw [show k + (l.length + (b :: gr).length) = k + (((c :: r).drop (tokL (c :: r)).text.length).length + (b :: gr).length) + (tokL (c :: r)).text.length + skipC false l by rw [hd]; omega]
        exact this
theorem gap1 : Gap [35, 32, 97, 32, 110, 111, 116, 101, 10] := by
  refine ⟨⟨_, _, rfl, brk35⟩, fun b t => ?_⟩
  cases b <;> simp [skipC] <;> omega
theorem gap2 : Gap [10, 35, 32, 97, 32, 110, 111, 116, 101, 10] := by
  refine ⟨⟨_, _, rfl, brk10⟩, fun b t => ?_⟩
  cases b <;> simp [skipC, blank] <;> omega
end Lx
end Go.Proofs.YtpebddinnnmdaaaDoor
