/-
  The document's own token at a place is the one that the plain Lean function says: signs.
-/
import Derived.Test.YtpebddinnnmdaaaDoorLxW
import Derived.Deep.QuietTactic
import Derived.BigQuiet
namespace Go.Proofs.YtpebddinnnmdaaaDoor
open Go.RowKit
namespace Lx
/-- The signs, the longer ones first. -/
def signs : List (List UInt8) := [[46, 46], [61, 61], [33, 61], [60, 61], [62, 61], [38, 38], [124, 124], [123], [125], [40], [41], [59], [58], [61], [60], [62], [43], [45], [42], [33], [46]]
/-- Whether a text stands at a place. -/
def standsAt (s : ByteArray) (a : Nat) (x : List UInt8) : Bool := decide (x.length ≤ s.size - a) && ((s.data.toList.drop a).take x.length == x)
theorem stands1 (s : ByteArray) (a : Nat) (p : UInt8) (ha : a < s.size) : standsAt s a [p] = (byteAt s a == (p.toNat : Int)) := by
  unfold standsAt
  rw [byteAt_lt s a ha, drop_cons s a ha, Bool.eq_iff_iff]
  simp
  constructor
  · rintro ⟨_, h⟩; rw [h]
  · intro h; exact ⟨by omega, u8_eq _ _ h⟩
theorem stands2 (s : ByteArray) (a : Nat) (p q : UInt8) (ha : a < s.size) (hq : q ≠ 0) : standsAt s a [p, q] = (byteAt s a == (p.toNat : Int) && byteAt s (a + 1) == (q.toNat : Int)) := by
  unfold standsAt
  rw [byteAt_lt s a ha, drop_cons s a ha, Bool.eq_iff_iff]
  by_cases h1 : a + 1 < s.size
  · rw [byteAt_lt s (a + 1) h1, drop_cons s (a + 1) h1]
    simp
    constructor
    · rintro ⟨_, h, h'⟩; rw [h, h']; simp
    · rintro ⟨h, h'⟩; exact ⟨by omega, u8_eq _ _ h, u8_eq _ _ h'⟩
  · rw [byteAt_over s (a + 1) h1]
    have hq' : ¬ (0 : Int) = (q.toNat : Int) := by
      intro h; apply hq; apply UInt8.toNat_inj.1; simp; omega
    simp [hq']
    intro h; omega
/-- Whether a sign is met by a byte and the one behind it. -/
def meets (c d : Int) (x : List UInt8) : Bool := match x with | [p] => c == (p.toNat : Int) | [p, q] => (c == (p.toNat : Int) && d == (q.toNat : Int)) | _ => false
theorem stands_meets (s : ByteArray) (a : Nat) (ha : a < s.size) : ∀ x ∈ signs, standsAt s a x = meets (byteAt s a) (byteAt s (a + 1)) x := by
  intro x hx
  simp only [signs, List.mem_cons, List.not_mem_nil, or_false] at hx
  rcases hx with rfl | rfl | rfl | rfl | rfl | rfl | rfl | rfl | rfl | rfl | rfl | rfl | rfl | rfl | rfl | rfl | rfl | rfl | rfl | rfl | rfl
  all_goals first | exact stands1 s a _ ha | exact stands2 s a _ _ ha (by decide)
theorem signLen_of (c d : Int) (h : ∀ x ∈ signs, meets c d x = false) : signLen c d = 0 := by
  simp [signs, meets] at h
  unfold signLen
  (repeat' split) <;> simp_all
theorem signLen_hit (c d : Int) (k : Nat) (hk : k < signs.length) (h : meets c d signs[k] = true) (hn : ∀ (j : Nat) (hj : j < signs.length), j < k → meets c d signs[j] = false) : signLen c d = signs[k].length ∧ signs[k].length ≠ 0 := by
  have hk2 : k < 21 := hk
  have h0 := hn 0 (by decide)
  have h1 := hn 1 (by decide)
  have h2 := hn 2 (by decide)
  have h3 := hn 3 (by decide)
  have h4 := hn 4 (by decide)
  have hc : k = 0 ∨ k = 1 ∨ k = 2 ∨ k = 3 ∨ k = 4 ∨ k = 5 ∨ k = 6 ∨ k = 7 ∨ k = 8 ∨ k = 9 ∨ k = 10 ∨ k = 11 ∨ k = 12 ∨ k = 13 ∨ k = 14 ∨ k = 15 ∨ k = 16 ∨ k = 17 ∨ k = 18 ∨ k = 19 ∨ k = 20 := by omega
  clear hn hk2
  rcases hc with rfl | rfl | rfl | rfl | rfl | rfl | rfl | rfl | rfl | rfl | rfl | rfl | rfl | rfl | rfl | rfl | rfl | rfl | rfl | rfl | rfl
  · simp [signs, meets] at h
    obtain ⟨rfl, rfl⟩ := h
    exact ⟨rfl, by simp [signs]⟩
  · simp [signs, meets] at h
    obtain ⟨rfl, rfl⟩ := h
    exact ⟨rfl, by simp [signs]⟩
  · simp [signs, meets] at h
    obtain ⟨rfl, rfl⟩ := h
    exact ⟨rfl, by simp [signs]⟩
  · simp [signs, meets] at h
    obtain ⟨rfl, rfl⟩ := h
    exact ⟨rfl, by simp [signs]⟩
  · simp [signs, meets] at h
    obtain ⟨rfl, rfl⟩ := h
    exact ⟨rfl, by simp [signs]⟩
  · simp [signs, meets] at h
    obtain ⟨rfl, rfl⟩ := h
    exact ⟨rfl, by simp [signs]⟩
  · simp [signs, meets] at h
    obtain ⟨rfl, rfl⟩ := h
    exact ⟨rfl, by simp [signs]⟩
  · simp [signs, meets] at h h0 h1 h2 h3 h4
    simp_all [signs, signLen]
  · simp [signs, meets] at h h0 h1 h2 h3 h4
    simp_all [signs, signLen]
  · simp [signs, meets] at h h0 h1 h2 h3 h4
    simp_all [signs, signLen]
  · simp [signs, meets] at h h0 h1 h2 h3 h4
    simp_all [signs, signLen]
  · simp [signs, meets] at h h0 h1 h2 h3 h4
    simp_all [signs, signLen]
  · simp [signs, meets] at h h0 h1 h2 h3 h4
    simp_all [signs, signLen]
  · simp [signs, meets] at h h0 h1 h2 h3 h4
    simp_all [signs, signLen]
  · simp [signs, meets] at h h0 h1 h2 h3 h4
    simp_all [signs, signLen]
  · simp [signs, meets] at h h0 h1 h2 h3 h4
    simp_all [signs, signLen]
  · simp [signs, meets] at h h0 h1 h2 h3 h4
    simp_all [signs, signLen]
  · simp [signs, meets] at h h0 h1 h2 h3 h4
    simp_all [signs, signLen]
  · simp [signs, meets] at h h0 h1 h2 h3 h4
    simp_all [signs, signLen]
  · simp [signs, meets] at h h0 h1 h2 h3 h4
    simp_all [signs, signLen]
  · simp [signs, meets] at h h0 h1 h2 h3 h4
    simp_all [signs, signLen]
theorem sign_none (s : ByteArray) (a : Nat) (ha : a < s.size) (h : ∀ (j : Nat) (hj : j < signs.length), standsAt s a signs[j] = false) : signOut s a = ⟨0, ⟨#[]⟩, 0, 0, 10⟩ := by
  unfold signOut
  rw [if_pos (signLen_of _ _ (fun x hx => by
    obtain ⟨j, hj, rfl⟩ := List.getElem_of_mem hx
    rw [← stands_meets s a ha _ hx]; exact h j hj))]
  rfl
theorem sign_hit (s : ByteArray) (a k : Nat) (ha : a < s.size) (hk : k < signs.length) (h : standsAt s a signs[k] = true) (hn : ∀ (j : Nat) (hj : j < signs.length), j < k → standsAt s a signs[j] = false) : signOut s a = ⟨4, ⟨(signs[k]).toArray⟩, 0, a, 0⟩ := by
  have hm := signLen_hit (byteAt s a) (byteAt s (a + 1)) k hk (by rw [← stands_meets s a ha _ (List.getElem_mem _)]; exact h) (fun j hj hjk => by rw [← stands_meets s a ha _ (List.getElem_mem _)]; exact hn j hj hjk)
  unfold signOut
  rw [if_neg (by rw [hm.1]; exact hm.2), hm.1]
  congr 1
  apply ByteArray.ext
  apply Array.toList_inj.1
  rw [extract_list, Nat.add_sub_cancel_left]
  unfold standsAt at h
  simp only [Bool.and_eq_true] at h
  simpa using h.2
end Lx
set_option maxHeartbeats 1000000 in
theorem signs_any (w : World) :
    Calls Tryd.prog 39 #[] w fun e w' => e = .returned (.slice (some ⟨w.heap.size, 0, none⟩) 21 21) ∧ w' = w.alloc (.cells (textCells Lx.signs) 9) := by
  go_enter Tryd.func39, Tryd.ntmps39
  go_wp2
  go_ret
  exact ⟨rfl, rfl⟩
theorem signs_row (w : World) :
    Calls Tryd.prog 39 #[] w fun e w' => ∃ b, e = .returned (.slice (some ⟨b, 0, none⟩) 21 21) ∧ HoldsTexts w' b Lx.signs ∧ Below w.heap.size w w' := by
  refine (signs_any w).mono ?_
  rintro e w' ⟨rfl, rfl⟩
  exact ⟨_, rfl, textCells_cell _ _ _, (Below.refl _ _).alloc (Nat.le_refl _) _⟩
theorem stands_eq (s x : ByteArray) (a : Nat) (l : List UInt8) (hx : x.toList = l) (h : x.size ≤ s.size - a) : Lx.standsAt s a l = ((s.extract a (a + x.size)).toList == x.toList) := by
  have hl : l.length = x.size := by rw [← hx, ByteArray.toList_eq]; simp
  unfold Lx.standsAt
  rw [hl, decide_eq_true h, Bool.true_and, hx, ByteArray.toList_eq, Lx.extract_list, Nat.add_sub_cancel_left]
theorem stands_short (s x : ByteArray) (a : Nat) (l : List UInt8) (hx : x.toList = l) (h : ¬ x.size ≤ s.size - a) : Lx.standsAt s a l = false := by
  have hl : l.length = x.size := by rw [← hx, ByteArray.toList_eq]; simp
  unfold Lx.standsAt
  rw [hl, decide_eq_false h, Bool.false_and]
set_option maxHeartbeats 2000000 in
theorem oneSign_any (s : ByteArray) (a : Nat) (w : World) (hs : s.size ≤ 20000) (ha : a < s.size) (hl : Lx.letter s[a] = false) (hd : Lx.digit s[a] = false) :
    Calls Tryd.prog 24 #[.string s, .int .i64 (a : Int)] w fun e w' => e = .returned (.tuple #[Value.agg #[.int .i64 (Lx.signOut s a).kind, .string (Lx.signOut s a).text, .int .i64 (Lx.signOut s a).n, .int .i64 ((Lx.signOut s a).pos : Int)], .int .i64 (Lx.signOut s a).err]) ∧ Below w.heap.size w w' := by
  go_enter Tryd.func24, Tryd.ntmps24
  go_wp2_with (first | (go_at_call 28; refine (refLetter_any _ _).mono ?_; rintro e w' ⟨rfl, hw'⟩; have hw2 := hw'.symm; subst hw2) | (go_at_call 29; refine (refDigit_any _ _).mono ?_; rintro e w' ⟨rfl, hw'⟩; have hw2 := hw'.symm; subst hw2) | (go_at_call 39; refine (signs_row _).mono ?_; rintro e w1 ⟨b, rfl, hrow, hb1⟩; obtain ⟨m0, m1, m2, m3, mf, mlt⟩ := box4 hb1))
  have hbw : Below w.heap.size w w1 := ((Below.refl _ _).alloc (Nat.le_refl _) _).trans (hb1.mono (by simp))
  go_loopw [12] (fun i wr => ∃ k : Nat, k ≤ 21 ∧ i = .int .i64 k ∧ (∃ n, wr = w1.drewN n) ∧ ∀ (j : Nat) (hj : j < Lx.signs.length), j < k → Lx.standsAt s a Lx.signs[j] = false) (fun i _ => 21 - (intOf i).toNat)
  case atStart => exact ⟨0, by omega, rfl, ⟨0, rfl⟩, fun j hj h => by omega⟩
  case round =>
    obtain ⟨k, hk, rfl, ⟨n, rfl⟩, hq⟩ := hrel
    have HQ := hid hq
    clear hq
    by_cases hlt : k < 21
    · have hkl : k < Lx.signs.length := hlt
      have hc := hrow k hkl
      have ht := toList_mk (Lx.signs[k])
      have HX : Hid ((⟨(Lx.signs[k]).toArray⟩ : ByteArray) = ⟨(Lx.signs[k]).toArray⟩) := rfl
      have HE := hid (stands_eq s ⟨(Lx.signs[k]).toArray⟩ a Lx.signs[k] ht)
      have HS := hid (stands_short s ⟨(Lx.signs[k]).toArray⟩ a Lx.signs[k] ht)
      have HH := hid (fun h => Lx.sign_hit s a k ha hkl h HQ.out)
      generalize (⟨(Lx.signs[k]).toArray⟩ : ByteArray) = x at *
      clear ht HX
      by_cases hfit : x.size ≤ s.size - a
      · have hfi : (x.size : Int) ≤ (s.size : Int) - (a : Int) := by omega
        cases he : ((s.extract a (a + x.size)).toList == x.toList)
        · go_wp2_with fail
          go_quiet (fail)
          go_wp2
          go_roundw
          case rel =>
            refine ⟨k + 1, by omega, by go_num, ⟨_, rfl⟩, fun j hj h => ?_⟩
            by_cases hjk : j < k
            · exact HQ.out j hj hjk
            · obtain rfl : j = k := by omega
              rw [HE.out hfit]; exact he
          case measure => simp [intOf]; omega
        · have HR : Hid (Lx.signOut s a = ⟨4, x, 0, a, 0⟩) := HH.out (by rw [HE.out hfit]; exact he)
          go_wp2_with fail
          go_quiet (fail)
          go_wp2
          refine bodyPost_ret (v := .tuple #[Value.agg #[.int .i64 4, .string x, .int .i64 0, .int .i64 (a : Int)], .int .i64 0]) ?_ rfl ⟨by rw [HR.out] <;> rfl, ?_⟩
          · simp [results, Tryd.results24, go_sem, m0, m1, m2, m3]
          · repeat (refine Below.setCell ?_ (by simp) _)
            first | exact hbw | exact below_drewN hbw _
      · have hfi : decide ((x.size : Int) ≤ (s.size : Int) - (a : Int)) = false := by rw [decide_eq_false_iff_not]; omega
        go_wp2_with fail
        go_quiet (fail)
        go_wp2
        go_roundw
        case rel =>
          refine ⟨k + 1, by omega, by go_num, ⟨_, rfl⟩, fun j hj h => ?_⟩
          by_cases hjk : j < k
          · exact HQ.out j hj hjk
          · obtain rfl : j = k := by omega
            exact HS.out hfit
        case measure => simp [intOf]; omega
    · have HR := hid (Lx.sign_none s a ha (fun j hj => HQ.out j hj (by have h21 : j < 21 := hj; omega)))
      have hk2 : 21 ≤ k := by omega
      go_wp2
      refine bodyPost_ret (v := .tuple #[Value.agg #[.int .i64 0, .string ⟨#[]⟩, .int .i64 0, .int .i64 0], .int .i64 10]) ?_ rfl ⟨by rw [HR.out] <;> rfl, ?_⟩
      · simp [results, Tryd.results24, go_sem, m0, m1, m2, m3]
      · repeat (refine Below.setCell ?_ (by simp) _)
        first | exact hbw | exact below_drewN hbw _
theorem one_any (s : ByteArray) (a : Nat) (w : World) (hs : s.size ≤ 20000) (ha : a < s.size) :
    Calls Tryd.prog 24 #[.string s, .int .i64 (a : Int)] w fun e w' => e = .returned (.tuple #[Value.agg #[.int .i64 (Lx.tokOut s a).kind, .string (Lx.tokOut s a).text, .int .i64 (Lx.tokOut s a).n, .int .i64 ((Lx.tokOut s a).pos : Int)], .int .i64 (Lx.tokOut s a).err]) ∧ Below w.heap.size w w' := by
  cases hl : Lx.letter s[a]
  · cases hd : Lx.digit s[a]
    · rw [Lx.tokOut_sign s a ha hl hd]; exact oneSign_any s a w hs ha hl hd
    · rw [Lx.tokOut_digit s a ha hl hd]; exact oneNum_any s a w hs ha hl hd
  · rw [Lx.tokOut_letter s a ha hl]; exact oneName_any s a w hs ha hl
end Go.Proofs.YtpebddinnnmdaaaDoor
