/-
  Tokens of a text without their places: what is told hangs on the bytes from a place on alone; a text's tokens with blanks between are told again; two texts with a note between tell the tokens of both.
-/
import Derived.Test.YtpebddinnnmdaaaDoorLxH
namespace Go.Proofs.YtpebddinnnmdaaaDoor
open Go.RowKit
namespace Lx
/-- A token without its place, and an error's number. -/
structure T where
  kind : Int
  text : List UInt8
  n : Int
  err : Int
def badT (e : Int) : T := ⟨0, [], 0, e⟩
def nameT (x : List UInt8) : T := if words.contains x then ⟨3, x, 0, 0⟩ else if 32 < x.length then badT 12 else ⟨1, x, 0, 0⟩
def numT (x : List UInt8) : T := if 1 < x.length ∧ x.head? = some 48 then badT 11 else if decVal x ≤ 9223372036854775807 then ⟨2, x, (decVal x : Nat), 0⟩ else badT 11
def second : List UInt8 → Int
  | _ :: d :: _ => (d.toNat : Int)
  | _ => 0
def signT (l : List UInt8) : T := match l with
  | [] => badT 10
  | c :: _ => if signLen (c.toNat : Int) (second l) = 0 then badT 10 else ⟨4, l.take (signLen (c.toNat : Int) (second l)), 0, 0⟩
/-- The token at the head of a list of bytes. -/
def tokL (l : List UInt8) : T := match l with
  | [] => badT 10
  | c :: _ => if letter c then nameT (l.takeWhile nameByte) else if digit c then numT (l.takeWhile digit) else signT l
def ofOut (o : Out) : T := ⟨o.kind, o.text.data.toList, o.n, o.err⟩
theorem tokL_out (s : ByteArray) (a : Nat) (ha : a < s.size) : tokL (s.data.toList.drop a) = ofOut (tokOut s a) := by
  have hdc := drop_cons s a ha
  cases hl : letter s[a]
  · cases hd : digit s[a]
    · rw [tokOut_sign s a ha hl hd]
      have hsec : second (s.data.toList.drop a) = byteAt s (a + 1) := by
        rw [hdc]
        by_cases h1 : a + 1 < s.size
        · rw [drop_cons s (a + 1) h1, byteAt_lt s (a + 1) h1]; rfl
        · rw [drop_over s (a + 1) (by omega), byteAt_over s (a + 1) h1]; rfl
      have hb := byteAt_lt s a ha
      have e : tokL (s.data.toList.drop a) = signT (s.data.toList.drop a) := by rw [hdc]; simp [tokL, hl, hd]
      rw [e]
      have e2 : signT (s.data.toList.drop a) = if signLen (byteAt s a) (byteAt s (a + 1)) = 0 then badT 10 else ⟨4, (s.data.toList.drop a).take (signLen (byteAt s a) (byteAt s (a + 1))), 0, 0⟩ := by
        rw [← hsec, hb]; rw [hdc]; rfl
      rw [e2]
      unfold signOut
      by_cases h0 : signLen (byteAt s a) (byteAt s (a + 1)) = 0
      · rw [if_pos h0, if_pos h0]; rfl
      · rw [if_neg h0, if_neg h0]
        simp only [ofOut, extract_list, Nat.add_sub_cancel_left]
    · rw [tokOut_digit s a ha hl hd]
      have e : tokL (s.data.toList.drop a) = numT ((s.data.toList.drop a).takeWhile digit) := by rw [hdc]; simp [tokL, hl, hd]
      rw [e, ← extract_span]
      have hh : (s.extract a (spanEnd digit s a)).data.toList.head? = some s[a] := by rw [extract_span, hdc]; simp [hd]
      have hsz : (s.extract a (spanEnd digit s a)).data.toList.length = (s.extract a (spanEnd digit s a)).size := by rw [Array.length_toList]; rfl
      have hb := byteAt_lt s a ha
      unfold numT numOut
      rw [hh, hsz, hb]
      have e48 : (some s[a] = some (48 : UInt8)) ↔ ((s[a].toNat : Int) = 48) := by
        constructor
        · intro h; rw [Option.some.inj h]; decide
        · intro h; rw [show s[a] = 48 from u8_eq _ 48 h]
      simp only [e48]
      split
      · rfl
      · split <;> rfl
  · rw [tokOut_letter s a ha hl]
    have e : tokL (s.data.toList.drop a) = nameT ((s.data.toList.drop a).takeWhile nameByte) := by rw [hdc]; simp [tokL, hl]
    rw [e, ← extract_span]
    have hsz : (s.extract a (spanEnd nameByte s a)).data.toList.length = (s.extract a (spanEnd nameByte s a)).size := by rw [Array.length_toList]; rfl
    unfold nameT nameOut word
    rw [hsz, ByteArray.toList_eq]
    split
    · rfl
    · split <;> rfl
/-- How a list of bytes is told. -/
inductive RL where
  | done (l : List T)
  | fail (e : Int) (k : Nat)
def consR (t : T) (m : Nat) : RL → RL
  | .done l => .done (t :: l)
  | .fail e k => .fail e (k + t.text.length + m)
inductive Scans : List UInt8 → RL → Prop
  | nil (l : List UInt8) (h : l.drop (skipC false l) = []) : Scans l (.done [])
  | bad (l : List UInt8) (c : UInt8) (r : List UInt8) (h : l.drop (skipC false l) = c :: r) (he : (tokL (c :: r)).err ≠ 0) : Scans l (.fail (tokL (c :: r)).err (skipC false l))
  | tok (l : List UInt8) (c : UInt8) (r : List UInt8) (R : RL) (h : l.drop (skipC false l) = c :: r) (he : (tokL (c :: r)).err = 0) (hR : Scans ((c :: r).drop (tokL (c :: r)).text.length) R) : Scans l (consR (tokL (c :: r)) (skipC false l) R)
theorem Scans.det {l : List UInt8} {R R' : RL} (h : Scans l R) (h' : Scans l R') : R = R' := by
  induction h generalizing R' with
  | nil l h =>
    cases h' with
    | nil => rfl
    | bad _ c r h2 => rw [h] at h2; cases h2
    | tok _ c r R h2 => rw [h] at h2; cases h2
  | bad l c r h he =>
    cases h' with
    | nil _ h2 => rw [h] at h2; cases h2
    | bad _ c' r' h2 => rw [h] at h2; cases h2; rfl
    | tok _ c' r' R h2 he2 => rw [h] at h2; cases h2; exact absurd he2 he
  | tok l c r R h he hR ih =>
    cases h' with
    | nil _ h2 => rw [h] at h2; cases h2
    | bad _ c' r' h2 he2 => rw [h] at h2; cases h2; exact absurd he he2
    | tok _ c' r' R2 h2 he2 hR2 => rw [h] at h2; cases h2; rw [ih hR2]
/-- What the scan from a place on tells, behind acc, is what is told of the bytes from there on. -/
def Fits (acc : List Out) (k : Nat) : ScanR → RL → Prop
  | .done l, .done ts => ∃ o, l = acc ++ o ∧ o.map ofOut = ts
  | .fail e j, .fail e' k' => e = e' ∧ j = k + k'
  | _, _ => False
theorem scan_fits (s : ByteArray) : ∀ (f k : Nat) (acc : List Out), k ≤ s.size → s.size ≤ skip s k + f → ∃ R, Scans (s.data.toList.drop k) R ∧ Fits acc k (scanF s f (skip s k) acc) R := by
  intro f
  have hdd : ∀ k, (s.data.toList.drop k).drop (skipC false (s.data.toList.drop k)) = s.data.toList.drop (skip s k) := by intro k; rw [List.drop_drop]; rfl
  induction f with
  | zero =>
    intro k acc hk hf
    refine ⟨.done [], .nil _ ?_, [], by simp, rfl⟩
    rw [hdd, drop_over s _ (by omega)]
  | succ f ih =>
    intro k acc hk hf
    by_cases hlt : skip s k < s.size
    · have hcons : (s.data.toList.drop k).drop (skipC false (s.data.toList.drop k)) = s[skip s k] :: s.data.toList.drop (skip s k + 1) := by rw [hdd, drop_cons s _ hlt]
      have htok : tokL (s[skip s k] :: s.data.toList.drop (skip s k + 1)) = ofOut (tokOut s (skip s k)) := by rw [← drop_cons s _ hlt]; exact tokL_out s _ hlt
      by_cases he : (tokOut s (skip s k)).err = 0
      · have hto := tok_ok s _ hlt he
        have hlen : (tokOut s (skip s k)).text.data.toList.length = (tokOut s (skip s k)).text.size := by rw [Array.length_toList]; rfl
        obtain ⟨R, hS, hF⟩ := ih (skip s k + (tokOut s (skip s k)).text.size) (acc ++ [tokOut s (skip s k)]) hto.2 (by have := le_skip s (skip s k + (tokOut s (skip s k)).text.size); omega)
        have hS2 : Scans ((s[skip s k] :: s.data.toList.drop (skip s k + 1)).drop (tokL (s[skip s k] :: s.data.toList.drop (skip s k + 1))).text.length) R := by
          rw [htok, ← drop_cons s _ hlt, List.drop_drop]
          show Scans (s.data.toList.drop (skip s k + (tokOut s (skip s k)).text.data.toList.length)) R
          rw [hlen]; exact hS
        refine ⟨_, .tok _ _ _ R hcons (by rw [htok]; exact he) hS2, ?_⟩
        rw [scanF, if_pos hlt, if_pos he]
        cases hR : R with
        | done ts =>
          rw [hR] at hF
          cases hsc : scanF s f (skip s (skip s k + (tokOut s (skip s k)).text.size)) (acc ++ [tokOut s (skip s k)]) with
          | done l =>
            rw [hsc] at hF
            obtain ⟨o, h1, h2⟩ := hF
            exact ⟨tokOut s (skip s k) :: o, by rw [h1]; simp, by rw [List.map_cons, h2, htok]⟩
          | fail e j => rw [hsc] at hF; exact hF.elim
        | fail e' k' =>
          rw [hR] at hF
          cases hsc : scanF s f (skip s (skip s k + (tokOut s (skip s k)).text.size)) (acc ++ [tokOut s (skip s k)]) with
          | done l => rw [hsc] at hF; exact hF.elim
          | fail e j =>
            rw [hsc] at hF
            obtain ⟨h1, h2⟩ := hF
            refine ⟨h1, ?_⟩
            rw [htok]
            show j = k + (k' + (tokOut s (skip s k)).text.data.toList.length + skipC false (s.data.toList.drop k))
            rw [hlen, h2]
            unfold skip; omega
      · refine ⟨_, .bad _ _ _ hcons (by rw [htok]; exact he), ?_⟩
        rw [scanF, if_pos hlt, if_neg he]
        exact ⟨by rw [htok]; rfl, rfl⟩
    · refine ⟨.done [], .nil _ (by rw [hdd, drop_over s _ (by omega)]), ?_⟩
      rw [scanF, if_neg hlt]
      exact ⟨[], by simp, rfl⟩
/-- A whole text's. -/
theorem scan_told (s : ByteArray) : ∃ R, Scans s.data.toList R ∧ Fits [] 0 (scan s) R := by
  have := scan_fits s s.size 0 [] (by omega) (by omega)
  simpa [scan] using this
theorem scan_of (s : ByteArray) (R : RL) (h : Scans s.data.toList R) : Fits [] 0 (scan s) R := by
  obtain ⟨R', h1, h2⟩ := scan_told s
  rw [h.det h1]; exact h2
end Lx
end Go.Proofs.YtpebddinnnmdaaaDoor
