/-
  The document's own token at a place is the one that the plain Lean function says: numbers.
-/
import Derived.Test.YtpebddinnnmdaaaDoorLxV
namespace Go.Proofs.YtpebddinnnmdaaaDoor
open Go.RowKit
set_option maxHeartbeats 2000000 in
theorem oneNum_any (s : ByteArray) (a : Nat) (w : World) (hs : s.size ≤ 20000) (ha : a < s.size) (hl : Lx.letter s[a] = false) (hd : Lx.digit s[a] = true) :
    Calls Tryd.prog 24 #[.string s, .int .i64 (a : Int)] w fun e w' => e = .returned (.tuple #[Value.agg #[.int .i64 (Lx.numOut s a).kind, .string (Lx.numOut s a).text, .int .i64 (Lx.numOut s a).n, .int .i64 ((Lx.numOut s a).pos : Int)], .int .i64 (Lx.numOut s a).err]) ∧ Below w.heap.size w w' := by
  have hle := Lx.spanEnd_le Lx.digit s a (by omega)
  have hge := Lx.le_spanEnd Lx.digit s a
  have HNO := hid (Lx.numOut_eq s a ha hd)
  have HNUM : Hid (∀ w : World, Calls Tryd.prog 38 #[.string (s.extract a (Lx.spanEnd Lx.digit s a))] w fun e w' => ∃ v : Int, e = .returned (.tuple #[.int .i64 v, .bool (Lx.numOk (s.extract a (Lx.spanEnd Lx.digit s a)))]) ∧ (Lx.numOk (s.extract a (Lx.spanEnd Lx.digit s a)) = true → v = ((Lx.decVal (s.extract a (Lx.spanEnd Lx.digit s a)).data.toList : Nat) : Int)) ∧ w' = w) := by
    intro w
    obtain ⟨hne, hall⟩ := Lx.digits_of s a ha hd
    have hxs : (s.extract a (Lx.spanEnd Lx.digit s a)).size = Lx.spanEnd Lx.digit s a - a := by simp; omega
    refine number_any (s.extract a (Lx.spanEnd Lx.digit s a)) w (by omega) ?_ hall
    have e : (s.extract a (Lx.spanEnd Lx.digit s a)).data.toList.length = (s.extract a (Lx.spanEnd Lx.digit s a)).size := by rw [Array.length_toList]; rfl
    rcases Nat.eq_zero_or_pos (s.extract a (Lx.spanEnd Lx.digit s a)).size with h | h
    · rw [h] at e; exact absurd (List.eq_nil_of_length_eq_zero e) hne
    · exact h
  go_enter Tryd.func24, Tryd.ntmps24
  go_wp2_with (first | (go_at_call 28; refine (refLetter_any _ _).mono ?_; rintro e w' ⟨rfl, hw'⟩; have hw2 := hw'.symm; subst hw2) | (go_at_call 29; refine (refDigit_any _ _).mono ?_; rintro e w' ⟨rfl, hw'⟩; have hw2 := hw'.symm; subst hw2))
  go_loop [7] (fun i => ∃ k : Nat, a ≤ k ∧ k ≤ s.size ∧ i = .int .i64 k ∧ Lx.spanEnd Lx.digit s k = Lx.spanEnd Lx.digit s a) (fun i => s.size - (intOf i).toNat)
  case atStart => exact ⟨a, by omega, by omega, rfl, rfl⟩
  case round =>
    obtain ⟨k, hak, hk, rfl, hq⟩ := hrel
    have HQ := hid hq
    clear hq
    have hend : ∀ (hk2 : Lx.spanEnd Lx.digit s k = k), k = Lx.spanEnd Lx.digit s a := fun h => by rw [← HQ.out, h]
    have HEND := hid hend
    clear hend
    by_cases hlt : k < s.size
    · cases hk1 : Lx.digit s[k]
      · have HN : Hid (k = Lx.spanEnd Lx.digit s a) := HEND.out (Lx.spanEnd_stop _ _ _ hlt hk1)
        have hkk := HN.out
        subst hkk
        clear HN HEND HQ
        cases hok : Lx.numOk (s.extract a (Lx.spanEnd Lx.digit s a))
        · have HR : Hid (Lx.numOut s a = ⟨0, ⟨#[]⟩, 0, 0, 11⟩) := by show _ = _; rw [HNO.out, hok]; rfl
          go_wp2_with (first
            | (go_at_call 28; refine (refLetter_any _ _).mono ?_; rintro e w' ⟨rfl, hw'⟩; have hw2 := hw'.symm; subst hw2)
            | (go_at_call 29; refine (refDigit_any _ _).mono ?_; rintro e w' ⟨rfl, hw'⟩; have hw2 := hw'.symm; subst hw2)
            | (go_at_call 38; refine (HNUM.out _).mono ?_; rw [hok]; rintro e w' ⟨v, rfl, hv, hw'⟩; have hw2 := hw'.symm; subst hw2; clear hv))
          refine bodyPost_ret (v := .tuple #[Value.agg #[.int .i64 0, .string ⟨#[]⟩, .int .i64 0, .int .i64 0], .int .i64 11]) ?_ rfl ⟨by rw [HR.out] <;> rfl, ?_⟩
          · simp [results, Tryd.results24, go_sem]
          · repeat (refine Below.setCell ?_ (by simp) _)
            exact (Below.refl _ _).alloc (Nat.le_refl _) _
        · have HR : Hid (Lx.numOut s a = ⟨2, (s.extract a (Lx.spanEnd Lx.digit s a)), ((Lx.decVal (s.extract a (Lx.spanEnd Lx.digit s a)).data.toList : Nat) : Int), a, 0⟩) := by show _ = _; rw [HNO.out, hok]; rfl
          go_wp2_with (first
            | (go_at_call 28; refine (refLetter_any _ _).mono ?_; rintro e w' ⟨rfl, hw'⟩; have hw2 := hw'.symm; subst hw2)
            | (go_at_call 29; refine (refDigit_any _ _).mono ?_; rintro e w' ⟨rfl, hw'⟩; have hw2 := hw'.symm; subst hw2)
            | (go_at_call 38; refine (HNUM.out _).mono ?_; rw [hok]; rintro e w' ⟨v, rfl, hv, hw'⟩; have hw2 := hw'.symm; subst hw2; have hv2 := hv rfl; subst hv2))
          refine bodyPost_ret (v := .tuple #[Value.agg #[.int .i64 2, .string (s.extract a (Lx.spanEnd Lx.digit s a)), .int .i64 ((Lx.decVal (s.extract a (Lx.spanEnd Lx.digit s a)).data.toList : Nat) : Int), .int .i64 (a : Int)], .int .i64 0]) ?_ rfl ⟨by rw [HR.out] <;> rfl, ?_⟩
          · simp [results, Tryd.results24, go_sem]
          · repeat (refine Below.setCell ?_ (by simp) _)
            exact (Below.refl _ _).alloc (Nat.le_refl _) _
      · have HN := hid hk1
        go_wp2_with (first | (go_at_call 28; refine (refLetter_any _ _).mono ?_; rintro e w' ⟨rfl, hw'⟩; have hw2 := hw'.symm; subst hw2) | (go_at_call 29; refine (refDigit_any _ _).mono ?_; rintro e w' ⟨rfl, hw'⟩; have hw2 := hw'.symm; subst hw2))
        go_round
        case rel => exact ⟨k + 1, by omega, by omega, by go_num, (Lx.spanEnd_step _ _ _ hlt HN.out).trans HQ.out⟩
        case measure => simp [intOf]; omega
    · have HN : Hid (k = Lx.spanEnd Lx.digit s a) := HEND.out (Lx.spanEnd_over _ _ _ (by omega))
      have hkk := HN.out
      subst hkk
      clear HN HEND HQ
      cases hok : Lx.numOk (s.extract a (Lx.spanEnd Lx.digit s a))
      · have HR : Hid (Lx.numOut s a = ⟨0, ⟨#[]⟩, 0, 0, 11⟩) := by show _ = _; rw [HNO.out, hok]; rfl
        go_wp2_with (first
          | (go_at_call 28; refine (refLetter_any _ _).mono ?_; rintro e w' ⟨rfl, hw'⟩; have hw2 := hw'.symm; subst hw2)
          | (go_at_call 29; refine (refDigit_any _ _).mono ?_; rintro e w' ⟨rfl, hw'⟩; have hw2 := hw'.symm; subst hw2)
          | (go_at_call 38; refine (HNUM.out _).mono ?_; rw [hok]; rintro e w' ⟨v, rfl, hv, hw'⟩; have hw2 := hw'.symm; subst hw2; clear hv))
        refine bodyPost_ret (v := .tuple #[Value.agg #[.int .i64 0, .string ⟨#[]⟩, .int .i64 0, .int .i64 0], .int .i64 11]) ?_ rfl ⟨by rw [HR.out] <;> rfl, ?_⟩
        · simp [results, Tryd.results24, go_sem]
        · repeat (refine Below.setCell ?_ (by simp) _)
          exact (Below.refl _ _).alloc (Nat.le_refl _) _
      · have HR : Hid (Lx.numOut s a = ⟨2, (s.extract a (Lx.spanEnd Lx.digit s a)), ((Lx.decVal (s.extract a (Lx.spanEnd Lx.digit s a)).data.toList : Nat) : Int), a, 0⟩) := by show _ = _; rw [HNO.out, hok]; rfl
        go_wp2_with (first
          | (go_at_call 28; refine (refLetter_any _ _).mono ?_; rintro e w' ⟨rfl, hw'⟩; have hw2 := hw'.symm; subst hw2)
          | (go_at_call 29; refine (refDigit_any _ _).mono ?_; rintro e w' ⟨rfl, hw'⟩; have hw2 := hw'.symm; subst hw2)
          | (go_at_call 38; refine (HNUM.out _).mono ?_; rw [hok]; rintro e w' ⟨v, rfl, hv, hw'⟩; have hw2 := hw'.symm; subst hw2; have hv2 := hv rfl; subst hv2))
        refine bodyPost_ret (v := .tuple #[Value.agg #[.int .i64 2, .string (s.extract a (Lx.spanEnd Lx.digit s a)), .int .i64 ((Lx.decVal (s.extract a (Lx.spanEnd Lx.digit s a)).data.toList : Nat) : Int), .int .i64 (a : Int)], .int .i64 0]) ?_ rfl ⟨by rw [HR.out] <;> rfl, ?_⟩
        · simp [results, Tryd.results24, go_sem]
        · repeat (refine Below.setCell ?_ (by simp) _)
          exact (Below.refl _ _).alloc (Nat.le_refl _) _
end Go.Proofs.YtpebddinnnmdaaaDoor
