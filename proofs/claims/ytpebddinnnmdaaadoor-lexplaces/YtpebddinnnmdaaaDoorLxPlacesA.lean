/-
  Where a text's tokens stand: each is what stands there, each place is the first behind the one ahead at which a token can begin, the end is the text's end.
-/
import Derived.Test.YtpebddinnnmdaaaDoorLxAgain
namespace Go.Proofs.YtpebddinnnmdaaaDoor
open Go.RowKit
namespace Lx
theorem tok_facts (s : ByteArray) (a : Nat) (ha : a < s.size) (he : (tokOut s a).err = 0) : (tokOut s a).pos = a ∧ (tokOut s a).kind ≠ 5 ∧ (tokOut s a).text = s.extract a (a + (tokOut s a).text.size) := by
  have hx : ∀ b, a ≤ b → b ≤ s.size → s.extract a b = s.extract a (a + (s.extract a b).size) := by
    intro b h1 h2
    have : (s.extract a b).size = b - a := by simp; omega
    rw [this, show a + (b - a) = b by omega]
  cases hl : letter s[a]
  · cases hd : digit s[a]
    · rw [tokOut_sign s a ha hl hd] at he ⊢
      have hle := signLen_le s a ha
      unfold signOut at he ⊢
      split
      · rename_i h; rw [if_pos h] at he; simp [bad] at he
      · exact ⟨rfl, by show (4 : Int) ≠ 5; decide, hx _ (by omega) hle⟩
    · rw [tokOut_digit s a ha hl hd] at he ⊢
      have hle := spanEnd_le digit s a (by omega)
      have hge := le_spanEnd digit s a
      unfold numOut at he ⊢
      split
      · rename_i h; rw [if_pos h] at he; simp [bad] at he
      · rename_i h1; rw [if_neg h1] at he
        split
        · exact ⟨rfl, by show (2 : Int) ≠ 5; decide, hx _ hge hle⟩
        · rename_i h2; rw [if_neg h2] at he; simp [bad] at he
  · rw [tokOut_letter s a ha hl] at he ⊢
    have hle := spanEnd_le nameByte s a (by omega)
    have hge := le_spanEnd nameByte s a
    unfold nameOut at he ⊢
    split
    · exact ⟨rfl, by show (3 : Int) ≠ 5; decide, hx _ hge hle⟩
    · rename_i h1; rw [if_neg h1] at he
      split
      · rename_i h2; rw [if_pos h2] at he; simp [bad] at he
      · exact ⟨rfl, by show (1 : Int) ≠ 5; decide, hx _ hge hle⟩
/-- Tokens stand one behind the other from a place on, with nothing but blanks and notes between. -/
def Chain (s : ByteArray) : Nat → List Out → Prop
  | k, [] => s.size ≤ skip s k
  | k, o :: r => o.pos = skip s k ∧ o.pos < s.size ∧ o.err = 0 ∧ o = tokOut s o.pos ∧ Chain s (o.pos + o.text.size) r
theorem scanF_chain (s : ByteArray) : ∀ (f k : Nat) (acc l : List Out), s.size ≤ skip s k + f → scanF s f (skip s k) acc = .done l → ∃ r, l = acc ++ r ∧ Chain s k r := by
  intro f
  induction f with
  | zero => intro k acc l hf h; simp only [scanF] at h; injection h with h; exact ⟨[], by simp [h], by show s.size ≤ _; omega⟩
  | succ f ih =>
    intro k acc l hf h
    simp only [scanF] at h
    split at h
    · rename_i hlt
      split at h
      · rename_i he
        have hto := tok_ok s _ hlt he
        have hp := tok_facts s _ hlt he
        obtain ⟨r, h1, h2⟩ := ih _ _ _ (by have := le_skip s (skip s k + (tokOut s (skip s k)).text.size); omega) h
        refine ⟨tokOut s (skip s k) :: r, by rw [h1]; simp, hp.1, by rw [hp.1]; exact hlt, he, by rw [hp.1], ?_⟩
        rw [hp.1]; exact h2
      · cases h
    · rename_i hlt
      injection h with h
      exact ⟨[], by simp [h], by show s.size ≤ _; omega⟩
/-- The end of the token ahead of the i-th. -/
def fromAt (l : List Out) (k i : Nat) : Nat := match i with
  | 0 => k
  | i + 1 => match l[i]? with | some o => o.pos + o.text.size | none => 0
theorem fromAt_succ (l : List Out) (k i : Nat) (h : i < l.length) : fromAt l k (i + 1) = l[i].pos + l[i].text.size := by simp [fromAt, h]
theorem chain_at (s : ByteArray) : ∀ (l : List Out) (k : Nat), Chain s k l → ∀ (i : Nat) (h : i < l.length), l[i].pos = skip s (fromAt l k i) ∧ l[i].pos < s.size ∧ l[i].err = 0 ∧ l[i] = tokOut s l[i].pos := by
  intro l
  induction l with
  | nil => intro k _ i h; simp at h
  | cons o r ih =>
    intro k hc i h
    obtain ⟨h1, h2, h3, h4, h5⟩ := hc
    cases i with
    | zero => exact ⟨h1, h2, h3, h4⟩
    | succ i =>
      have := ih _ h5 i (by simpa using h)
      have e : fromAt (o :: r) k (i + 1) = fromAt r (o.pos + o.text.size) i := by
        cases i with
        | zero => simp [fromAt]
        | succ i => simp [fromAt]
      rw [e]
      simpa using this
theorem chain_end (s : ByteArray) : ∀ (l : List Out) (k : Nat), Chain s k l → s.size ≤ skip s (fromAt l k l.length) := by
  intro l
  induction l with
  | nil => intro k hc; exact hc
  | cons o r ih =>
    intro k hc
    obtain ⟨h1, h2, h3, h4, h5⟩ := hc
    have := ih _ h5
    have e : fromAt (o :: r) k (o :: r).length = fromAt r (o.pos + o.text.size) r.length := by
      cases r with
      | nil => simp [fromAt]
      | cons x r => simp [fromAt]
    rw [e]; exact this
/-- All that LexPlaces asks of the i-th token. -/
theorem places (s : ByteArray) (l : List Out) (h : scan s = .done l) (i : Nat) (hi : i < (l ++ [endTok s]).length) :
    (l ++ [endTok s])[i].pos = skip s (fromAt (l ++ [endTok s]) 0 i) ∧ fromAt (l ++ [endTok s]) 0 i ≤ (l ++ [endTok s])[i].pos ∧ fromAt (l ++ [endTok s]) 0 i ≤ s.size ∧ (l ++ [endTok s])[i].pos + (l ++ [endTok s])[i].text.size ≤ s.size ∧
    (l ++ [endTok s])[i].text = s.extract (l ++ [endTok s])[i].pos ((l ++ [endTok s])[i].pos + (l ++ [endTok s])[i].text.size) ∧
    (i < l.length → (l ++ [endTok s])[i].kind ≠ 5 ∧ 1 ≤ (l ++ [endTok s])[i].text.size) ∧ (i = l.length → (l ++ [endTok s])[i] = endTok s) := by
  obtain ⟨r, h1, hc⟩ := scanF_chain s s.size 0 [] l (by omega) h
  rw [List.nil_append] at h1
  subst h1
  have hsame : ∀ j, j ≤ l.length → fromAt (l ++ [endTok s]) 0 j = fromAt l 0 j := by
    intro j hj
    cases j with
    | zero => rfl
    | succ j => simp only [fromAt]; rw [List.getElem?_append_left (by omega)]
  have hle : ∀ j, j ≤ l.length → fromAt l 0 j ≤ s.size := by
    intro j hj
    cases j with
    | zero => simp [fromAt]
    | succ j =>
      rw [fromAt_succ l 0 j (by omega)]
      obtain ⟨c1, c2, c3, c4⟩ := chain_at s l 0 hc j (by omega)
      have h2 := tok_ok s l[j].pos c2 (by rw [← c4]; exact c3)
      rw [← c4] at h2; exact h2.2
  have hil : i ≤ l.length := by simp at hi; omega
  rw [hsame i hil]
  by_cases hlt : i < l.length
  · rw [List.getElem_append_left hlt]
    obtain ⟨c1, c2, c3, c4⟩ := chain_at s l 0 hc i hlt
    have he : (tokOut s l[i].pos).err = 0 := by rw [← c4]; exact c3
    have h2 := tok_ok s l[i].pos c2 he
    have h3 := tok_facts s l[i].pos c2 he
    rw [← c4] at h2 h3
    exact ⟨c1, by rw [c1]; exact le_skip s _, hle i hil, h2.2, h3.2.2, fun _ => ⟨h3.2.1, h2.1⟩, fun h => by omega⟩
  · have hie : i = l.length := by omega
    subst hie
    have hce := chain_end s l 0 hc
    have hsl := skip_le s (fromAt l 0 l.length) (hle _ (Nat.le_refl _))
    have e : (l ++ [endTok s])[l.length] = endTok s := by simp
    rw [e]
    refine ⟨by show s.size = _; omega, by show _ ≤ s.size; exact hle _ (Nat.le_refl _), hle _ (Nat.le_refl _), by show s.size + 0 ≤ s.size; omega, ?_, fun h => by omega, fun _ => rfl⟩
    show (⟨#[]⟩ : ByteArray) = s.extract s.size (s.size + 0)
    apply ByteArray.ext
    apply Array.toList_inj.1
    rw [extract_list]; simp
/-- One byte of what is passed over; 'note': within a note ahead of it. -/
theorem gap_step (s : ByteArray) (b : Bool) (k P : Nat) (h : k + skipC b (s.data.toList.drop k) = P) (hlt : k < P) (hP : P ≤ s.size) :
    ∃ hk : k < s.size, (k + 1) + skipC ((b && s[k] != 10) || s[k] == 35) (s.data.toList.drop (k + 1)) = P ∧ (((b && s[k] != 10) || s[k] == 35) = false → blank s[k] = true) := by
  have hk : k < s.size := by omega
  refine ⟨hk, ?_⟩
  rw [drop_cons s k hk] at h
  generalize s[k] = c at *
  generalize s.data.toList.drop (k + 1) = r at *
  cases b with
  | true =>
    simp only [skipC] at h
    by_cases h10 : c = 10
    · rw [if_pos h10] at h
      subst h10
      exact ⟨by simpa using (show k + 1 + skipC false r = P by omega), fun _ => by decide⟩
    · rw [if_neg h10] at h
      have e : ((true && c != 10) || c == 35) = true := by simp [h10]
      rw [e]
      exact ⟨by omega, fun h => by cases h⟩
  | false =>
    simp only [skipC] at h
    by_cases h35 : c = 35
    · rw [if_pos h35] at h
      have e : ((false && c != 10) || c == 35) = true := by simp [h35]
      rw [e]
      exact ⟨by omega, fun h => by cases h⟩
    · rw [if_neg h35] at h
      have e : ((false && c != 10) || c == 35) = false := by simp [h35]
      rw [e]
      split at h
      · rename_i hb; exact ⟨by omega, fun _ => hb⟩
      · omega
end Lx
end Go.Proofs.YtpebddinnnmdaaaDoor
