/-
  The tokens of a text end as they should; newReader of package parse.
-/
import Derived.Test.YtaekbgljbgmchaaGreatDoorPzSt
import Derived.Test.YtaekbgljbgmchaaGreatDoorPzMt
import Derived.Test.YtaekbgljbgmchaaGreatDoorPzLo
namespace Go.Proofs.YtaekbgljbgmchaaGreatDoor
open Go.RowKit
open Lx (Out)
open Pz
theorem owns_shape {w : World} {B e size n : Nat} {v : Value} {xs : List Value} (h : w.ownsRow B e size v n xs) (hn : 0 < n) : ∃ g cap, v = .slice (some ⟨g, 0, none⟩) n cap ∧ B ≤ g ∧ g < w.heap.size ∧ n ≤ cap ∧ cap ≤ maxLen ∧ ∀ j, j < n * size → w.cell? ⟨g, j, none⟩ = xs[j]? := by
  have h0 := h
  obtain ⟨hl, ⟨rfl, rfl⟩ | ⟨g, cap, cur, rfl, hB, hh, hc, hm, hcs, hx⟩⟩ := h
  · omega
  · exact ⟨g, cap, rfl, hB, (Array.getElem?_eq_some_iff.1 hh).1, hc, hm, fun j hj => h0.cellAt j hj⟩
namespace Lx
/-- What holds of every token that Scan tells. -/
def Fine (s : ByteArray) (t : Out) : Prop := t.kind ≠ 5 ∧ (0 ≤ t.kind ∧ t.kind ≤ 5) ∧ (0 ≤ t.n ∧ t.n ≤ 9223372036854775807) ∧ t.pos ≤ s.size ∧ t.text.size ≤ s.size
theorem ext_size (s : ByteArray) (a b : Nat) : (s.extract a b).size ≤ s.size := by rw [ByteArray.size_extract]; omega
theorem fine_mk (s : ByteArray) (k : Int) (x : ByteArray) (n : Int) (p : Nat) (e : Int) (h1 : k ≠ 5) (h2 : 0 ≤ k ∧ k ≤ 5) (h3 : 0 ≤ n ∧ n ≤ 9223372036854775807) (h4 : p ≤ s.size) (h5 : x.size ≤ s.size) : Fine s ⟨k, x, n, p, e⟩ := ⟨h1, h2, h3, h4, h5⟩
theorem tok_fine (s : ByteArray) (k : Nat) (h : k < s.size) (he : (tokOut s k).err = 0) : Fine s (tokOut s k) := by
  cases hl : letter s[k]
  · cases hd : digit s[k]
    · rw [tokOut_sign s k h hl hd] at he ⊢
      unfold signOut at he ⊢
      split at he
      · simp [bad] at he
      · rw [if_neg (by assumption)]
        exact fine_mk _ _ _ _ _ _ (by decide) (by decide) (by decide) (Nat.le_of_lt h) (ext_size _ _ _)
    · rw [tokOut_digit s k h hl hd] at he ⊢
      unfold numOut at he ⊢
      split at he
      · simp [bad] at he
      · rw [if_neg (by assumption)]
        split at he
        · rw [if_pos (by assumption)]
          exact fine_mk _ _ _ _ _ _ (by decide) (by decide) ⟨by omega, by omega⟩ (Nat.le_of_lt h) (ext_size _ _ _)
        · simp [bad] at he
  · rw [tokOut_letter s k h hl] at he ⊢
    unfold nameOut at he ⊢
    split
    · exact fine_mk _ _ _ _ _ _ (by decide) (by decide) (by decide) (Nat.le_of_lt h) (ext_size _ _ _)
    · split
      · simp_all [bad]
      · exact fine_mk _ _ _ _ _ _ (by decide) (by decide) (by decide) (Nat.le_of_lt h) (ext_size _ _ _)
theorem scan_fine (s : ByteArray) : ∀ (f k : Nat) (acc : List Out), (∀ t ∈ acc, Fine s t) → ∀ l, scanF s f k acc = .done l → ∀ t ∈ l, Fine s t := by
  intro f
  induction f with
  | zero => intro k acc ha l hl; rw [scanF] at hl; injection hl with hl; subst hl; exact ha
  | succ f ih =>
    intro k acc ha l hl
    rw [scanF] at hl
    split at hl
    · rename_i hk
      split at hl
      · rename_i he
        refine ih _ _ (fun t ht => ?_) l hl
        rcases List.mem_append.1 ht with ht | ht
        · exact ha t ht
        · rw [List.mem_singleton.1 ht]; exact tok_fine s k hk he
      · cases hl
    · injection hl with hl; subst hl; exact ha
theorem scan_len (s : ByteArray) : ∀ (f k : Nat) (acc : List Out), ∀ l, scanF s f k acc = .done l → l.length ≤ acc.length + f := by
  intro f
  induction f with
  | zero => intro k acc l hl; rw [scanF] at hl; injection hl with hl; subst hl; omega
  | succ f ih =>
    intro k acc l hl
    rw [scanF] at hl
    split at hl
    · split at hl
      · have := ih _ _ l hl
        simp at this; omega
      · cases hl
    · injection hl with hl; subst hl; omega
theorem outs_fine (s : ByteArray) (hs : s.size ≤ 20000) (he : errOf s = 0) (hfail : ∀ e k, scan s = .fail e k → e ≠ 0) : Pz.Tk (outs s) ∧ (∀ t ∈ outs s, 0 ≤ t.n) ∧ (outs s).length ≤ 20001 := by
  cases hsc : scan s with
  | fail e k => have := hfail e k hsc; simp [errOf, hsc] at he; exact absurd he this
  | done l =>
    have hf := scan_fine s _ _ [] (by simp) l hsc
    have hl := scan_len s _ _ [] l hsc
    have ho : outs s = l ++ [endTok s] := by simp [outs, hsc]
    rw [ho]
    have he5 : (endTok s).kind = 5 := rfl
    refine ⟨⟨by simp, fun t ht => ?_, fun t ht h5 => ?_, fun t ht => ?_⟩, fun t ht => ?_, by simp at hl ⊢; omega⟩
    · simp at ht; rw [← ht]; exact he5
    · rcases List.mem_append.1 ht with ht | ht
      · exact absurd h5 (hf t ht).1
      · rw [List.mem_singleton.1 ht]; rfl
    · rcases List.mem_append.1 ht with ht | ht
      · obtain ⟨h1, h2, h3, h4, h5⟩ := hf t ht
        exact ⟨by unfold I64; omega, by unfold I64; omega, by omega, by omega⟩
      · rw [List.mem_singleton.1 ht]
        exact ⟨show I64 5 by unfold I64; decide, show I64 0 by unfold I64; decide, by show s.size ≤ _; omega, by show (ByteArray.mk #[]).size ≤ _; decide⟩
    · rcases List.mem_append.1 ht with ht | ht
      · exact (hf t ht).2.2.1.1
      · rw [List.mem_singleton.1 ht]; exact Int.le_refl 0
end Lx
theorem flat4 (l : List Out) (j : Nat) (h : j < l.length) (i : Nat) (hi : i < 4) : (Lx.cellsOf l)[j * 4 + i]? = (Lx.cells1 l[j])[i]? := flat_get 4 Lx.cells1 (fun _ => rfl) i hi l j h
/-- A reader that was just made. -/
def NewR (s : ByteArray) (w : World) (r : Ending) (w' : World) : Prop :=
  ∃ b g cap toks, r = .returned (.pointer (some ⟨b, 0, none⟩)) ∧ At b g cap toks (reader s) w' ∧ Nn toks ∧ w.heap.size ≤ b ∧ w.heap.size ≤ g ∧ (reader s).rest.length ≤ 20001 ∧ (reader s).rest = toks ∧ Below w.heap.size w w'
theorem at_new {w : World} {b g cap : Nat} {toks : List Out} {s : S} (hr : s.rest = toks) (hbox : w.heap[b]? = some (.cells #[.slice (some ⟨g, 0, none⟩) toks.length cap, .int .i64 0, .int .i64 s.opn, .int .i64 s.err, .int .i64 s.pos] 123 (0, 0))) (hrow : ∀ j, j < toks.length * 4 → w.cell? ⟨g, j, none⟩ = (Lx.cellsOf toks)[j]?) (hgb : g ≠ b) (hg : g < w.heap.size) (hc : toks.length ≤ cap ∧ cap ≤ maxLen) (hsm : toks.length ≤ 100000) (htk : Tk toks) : At b g cap toks s w := by
  refine ⟨by rw [hr]; simpa using hbox, fun j hj => ?_, hgb, hg, hc, hsm, ⟨⟨[], by rw [hr]; rfl⟩, by rw [hr]; exact htk⟩⟩
  have h0 := hrow (j * 4) (by omega)
  have h1 := hrow (j * 4 + 1) (by omega)
  have h2 := hrow (j * 4 + 2) (by omega)
  have h3 := hrow (j * 4 + 3) (by omega)
  rw [flat4 toks j hj 1 (by omega)] at h1
  rw [flat4 toks j hj 2 (by omega)] at h2
  rw [flat4 toks j hj 3 (by omega)] at h3
  have h0' := flat4 toks j hj 0 (by omega)
  rw [Nat.add_zero] at h0'
  rw [h0'] at h0
  exact ⟨h0, h1, h2, h3⟩
theorem scan_no (s : ByteArray) (e : Int) (k : Nat) (h : Lx.scan s = .fail e k) : e ≠ 0 := by
  have : ∀ (f k0 : Nat) (acc : List Out), Lx.scanF s f k0 acc = .fail e k → e ≠ 0 := by
    intro f
    induction f with
    | zero => intro k0 acc h; rw [Lx.scanF] at h; cases h
    | succ f ih =>
      intro k0 acc h
      rw [Lx.scanF] at h
      split at h
      · split at h
        · exact ih _ _ h
        · injection h with h1 h2; subst h1; assumption
      · cases h
  exact this _ _ _ h
set_option maxRecDepth 100000 in
set_option maxHeartbeats 2000000 in
theorem newReader_any (s : ByteArray) (w : World) (hs : s.size ≤ 20000) (hE : HasErr w) :
    Calls Tryz.prog 28 #[.string s] w (NewR s w) := by
  have h1 := scan_any s w hs hE
  cases q : (Lx.errOf s != 0)
  · have hq : Lx.errOf s = 0 := by simpa using q
    obtain ⟨htk, hnn, hlen⟩ := Lx.outs_fine s hs hq (scan_no s)
    have HRd : Hid (reader s = ⟨Lx.outs s, 0, 0, 0⟩) := by show _ = _; unfold reader; rw [if_pos hq]
    have hat : Lx.atOf s = 0 := by
      cases hsc : Lx.scan s with
      | fail e k => have := scan_no s e k hsc; simp [Lx.errOf, hsc] at hq; exact absurd hq this
      | done l => simp [Lx.atOf, hsc]
    have hpos : 0 < (Lx.outs s).length := List.length_pos_iff.2 htk.ne
    rw [hq, hat] at h1
    clear q hq hat hE
    go_enter Tryz.func28, Tryz.ntmps28
    go_wp2_with (go_at_call 26; refine h1.mono ?_; rintro r w1 ⟨v, rfl, hown, b1⟩; obtain ⟨g, gcap, rfl, hg1, hg2, hg3, hg4, hg5⟩ := owns_shape hown hpos)
    go_ret
    refine ⟨w1.heap.size, g, gcap, Lx.outs s, rfl, ?_, hnn, b1.size, hg1, by rw [HRd.out]; exact hlen, by rw [HRd.out], b1.al (Nat.le_refl _) _⟩
    refine at_new (by rw [HRd.out]) (by rw [HRd.out]; exact newB w1 _ _) (fun j hj => ?_) (by omega) (by simp; omega) ⟨hg3, hg4⟩ (by omega) htk
    rw [(bel_al w1 _).cell (p := ⟨g, j, none⟩) hg2]
    exact hg5 j hj
  · have hq : Lx.errOf s ≠ 0 := by simpa using q
    have HRd : Hid (reader s = ⟨[⟨5, e0, 0, 0, 0⟩], 0, Lx.errOf s, Lx.atOf s⟩) := by show _ = _; unfold reader; rw [if_neg hq]
    go_enter Tryz.func28, Tryz.ntmps28
    go_wp2_with (go_at_call 26; refine h1.mono ?_; rintro r w1 ⟨v, rfl, hown, b1⟩)
    go_ret
    have htk : Tk [⟨5, e0, 0, 0, 0⟩] := ⟨by simp, fun t ht => by simp at ht; rw [← ht], fun t ht _ => by rw [List.mem_singleton.1 ht], fun t ht => by rw [List.mem_singleton.1 ht]; exact ⟨show I64 5 by unfold I64; decide, show I64 0 by unfold I64; decide, by decide, by decide⟩⟩
    refine ⟨w1.heap.size + 1, w1.heap.size, 1, [⟨5, e0, 0, 0, 0⟩], rfl, ?_, fun t ht => by rw [List.mem_singleton.1 ht]; exact Int.le_refl 0, by have := b1.size; omega, b1.size, by rw [HRd.out]; show 1 ≤ 20001; decide, by rw [HRd.out], (b1.al (Nat.le_refl _) _).al (Nat.le_refl _) _⟩
    refine at_new (by rw [HRd.out]) (by rw [HRd.out]; exact newB' _ _ _ _ (by simp)) (fun j hj => ?_) (by omega) (by simp; omega) ⟨by decide, by unfold maxLen; omega⟩ (by decide) htk
    rw [(bel_al _ _).cell (p := ⟨w1.heap.size, j, none⟩) (by simp), cellB (newB w1 _ _), ← Array.getElem?_toList]
    rfl
end Go.Proofs.YtaekbgljbgmchaaGreatDoor
