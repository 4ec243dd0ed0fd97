/-
  within, enclosed and block of package parse, of statements.
-/
import Derived.Test.YtaekbgljbgmchaaGreatDoorPzM
namespace Go.Proofs.YtaekbgljbgmchaaGreatDoor
open Go.RowKit
open Lx (Out)
open Pz
set_option maxRecDepth 100000 in
set_option maxHeartbeats 2000000 in
theorem within_stmts (rd : S → Bl × S) (sign : ByteArray) (b g cap : Nat) (toks : List Out) (s : S) (w : World) (A : At b g cap toks s w) (hop : 0 ≤ s.opn ∧ s.opn ≤ 200010) (ho : (rd (s.enter sign)).2.opn = s.opn + 1)
    (hF : ∀ W, At b g cap toks (s.enter sign) W → Kp b w W → Calls Tryz.prog 162 #[.pointer (some ⟨b, 0, none⟩)] W (BlBack b g cap toks (rd (s.enter sign)) W)) :
    Calls Tryz.prog 180 #[.pointer (some ⟨b, 0, none⟩), .string sign, .func (.func 162) #[.pointer (some ⟨b, 0, none⟩)] #[]] w (BlBack b g cap toks (within sign rd s) w) := by
  have K := Kp.refl b w
  have h1 := sees_any sign b g cap toks s _ A
  obtain ⟨o2, ho2⟩ : ∃ o2, (rd (s.enter sign)).2.opn = o2 := ⟨_, rfl⟩
  have HO2 := hid ho2
  have ho3 : 1 ≤ o2 ∧ o2 ≤ 200011 := by omega
  have HL : Hid ((within sign rd s).2 = ⟨(rd (s.enter sign)).2.rest, o2 - 1, (rd (s.enter sign)).2.err, (rd (s.enter sign)).2.pos⟩) := by show _ = _; rw [← ho2]; rfl
  clear ho ho2
  cases hq : s.sees sign
  · have HO := hid (want_opn s sign)
    have HE : Hid (s.enter sign = ⟨(s.want sign).rest, s.opn + 1, (s.want sign).err, (s.want sign).pos⟩) := by show _ = _; unfold S.enter S.more; rw [hq]; simp only [Bool.false_and, Bool.false_eq_true, if_false]; rw [want_opn]
    rw [hq] at h1
    go_enter Tryz.func180, Tryz.ntmps180
    go_wp2_with (first
          | (go_at_call 69; refine h1.mono ?_; rintro r w1 ⟨rfl, b1⟩; have A := A.below b1; have K := K.tr b1; obtain ⟨-, -, c2, -, -, cf⟩ := A.cells)
          | (go_at_call 156; (with_reducible refine (want_any sign b g cap toks _ _ A).mono ?_); rintro r w1 ⟨rfl, A, k⟩; have K := K.trans k; obtain ⟨-, -, c2, -, -, cf⟩ := A.cells; rw [HO.out] at c2; have A : At b g cap toks (s.enter sign) _ := (by rw [HE.out]; exact A.more HO.out); have K := K.set (p := ⟨b, 2, none⟩) (.inl rfl) (.int .i64 (s.opn + 1)); have hzb := A.lt)
          | (go_at_call 162; (with_reducible refine (hF _ A K).mono ?_); rintro r w3 ⟨ad, cp, body, rfl, hclr, hBy, A, k⟩; have hz3 := K.size; have K := K.trans k; obtain ⟨-, -, c2, -, -, cf⟩ := A.cells; rw [HO2.out] at c2))
    go_ret
    refine ⟨ad, cp, body, rfl, hclr, ?_, ?_, ?_⟩
    · refine (Bl.By.kq hBy ?_).mono hz3
      exact (Kq.refl _ _).set (p := ⟨b, 2, none⟩) (.inl (from_not hzb)) _
    · rw [HL.out]
      exact A.less HO2.out
    · exact K.set (p := ⟨b, 2, none⟩) (.inl rfl) _
  · cases hr : (s.opn == 64)
    · have HO := hid (want_opn s sign)
      have HE : Hid (s.enter sign = ⟨(s.want sign).rest, s.opn + 1, (s.want sign).err, (s.want sign).pos⟩) := by show _ = _; unfold S.enter S.more; rw [hq, hr]; simp only [Bool.and_false, Bool.false_eq_true, if_false]; rw [want_opn]
      rw [hq] at h1
      go_enter Tryz.func180, Tryz.ntmps180
      go_wp2_with (first
            | (go_at_call 69; refine h1.mono ?_; rintro r w1 ⟨rfl, b1⟩; have A := A.below b1; have K := K.tr b1; obtain ⟨-, -, c2, -, -, cf⟩ := A.cells)
            | (go_at_call 156; (with_reducible refine (want_any sign b g cap toks _ _ A).mono ?_); rintro r w1 ⟨rfl, A, k⟩; have K := K.trans k; obtain ⟨-, -, c2, -, -, cf⟩ := A.cells; rw [HO.out] at c2; have A : At b g cap toks (s.enter sign) _ := (by rw [HE.out]; exact A.more HO.out); have K := K.set (p := ⟨b, 2, none⟩) (.inl rfl) (.int .i64 (s.opn + 1)); have hzb := A.lt)
            | (go_at_call 162; (with_reducible refine (hF _ A K).mono ?_); rintro r w3 ⟨ad, cp, body, rfl, hclr, hBy, A, k⟩; have hz3 := K.size; have K := K.trans k; obtain ⟨-, -, c2, -, -, cf⟩ := A.cells; rw [HO2.out] at c2))
      go_ret
      refine ⟨ad, cp, body, rfl, hclr, ?_, ?_, ?_⟩
      · refine (Bl.By.kq hBy ?_).mono hz3
        exact (Kq.refl _ _).set (p := ⟨b, 2, none⟩) (.inl (from_not hzb)) _
      · rw [HL.out]
        exact A.less HO2.out
      · exact K.set (p := ⟨b, 2, none⟩) (.inl rfl) _
    · have HO : Hid (((s.refuse 41).want sign).opn = s.opn) := by show _ = _; rw [want_opn]; exact fail_opn _ _ _
      have HE : Hid (s.enter sign = ⟨((s.refuse 41).want sign).rest, s.opn + 1, ((s.refuse 41).want sign).err, ((s.refuse 41).want sign).pos⟩) := by show _ = _; unfold S.enter S.more; rw [hq, hr]; simp only [Bool.and_true, if_true]; rw [HO.out]
      rw [hq] at h1
      go_enter Tryz.func180, Tryz.ntmps180
      go_wp2_with (first
            | (go_at_call 69; refine h1.mono ?_; rintro r w1 ⟨rfl, b1⟩; have A := A.below b1; have K := K.tr b1; obtain ⟨-, -, c2, -, -, cf⟩ := A.cells)
            | (go_at_call 63; (with_reducible refine (refuse_any 41 b g cap toks _ _ A).mono ?_); rintro r w1 ⟨rfl, A, k⟩; have K := K.trans k)
            | (go_at_call 156; (with_reducible refine (want_any sign b g cap toks _ _ A).mono ?_); rintro r w1 ⟨rfl, A, k⟩; have K := K.trans k; obtain ⟨-, -, c2, -, -, cf⟩ := A.cells; rw [HO.out] at c2; have A : At b g cap toks (s.enter sign) _ := (by rw [HE.out]; exact A.more HO.out); have K := K.set (p := ⟨b, 2, none⟩) (.inl rfl) (.int .i64 (s.opn + 1)); have hzb := A.lt)
            | (go_at_call 162; (with_reducible refine (hF _ A K).mono ?_); rintro r w3 ⟨ad, cp, body, rfl, hclr, hBy, A, k⟩; have hz3 := K.size; have K := K.trans k; obtain ⟨-, -, c2, -, -, cf⟩ := A.cells; rw [HO2.out] at c2))
      go_ret
      refine ⟨ad, cp, body, rfl, hclr, ?_, ?_, ?_⟩
      · refine (Bl.By.kq hBy ?_).mono hz3
        exact (Kq.refl _ _).set (p := ⟨b, 2, none⟩) (.inl (from_not hzb)) _
      · rw [HL.out]
        exact A.less HO2.out
      · exact K.set (p := ⟨b, 2, none⟩) (.inl rfl) _
set_option maxRecDepth 100000 in
set_option maxHeartbeats 2000000 in
theorem enclosed_stmts (fv : Value) (x : Bl × S) (a c : ByteArray) (b g cap : Nat) (toks : List Out) (s : S) (w : World) (A : At b g cap toks s w)
    (hW : ∀ W, At b g cap toks s W → Kp b w W → Calls Tryz.prog 180 #[.pointer (some ⟨b, 0, none⟩), .string a, fv] W (BlBack b g cap toks x W)) :
    Calls Tryz.prog 161 #[.pointer (some ⟨b, 0, none⟩), .string a, fv, .string c] w (BlBack b g cap toks (x.1, x.2.want c) w) := by
  have K := Kp.refl b w
  have hzb := A.lt
  go_enter Tryz.func161, Tryz.ntmps161
  go_wp2_with (first
      | (go_at_call 180; (with_reducible refine (hW _ A K).mono ?_); rintro r w3 ⟨ad, cp, body, rfl, hclr, hBy, A, k⟩; have K := K.trans k)
      | (go_at_call 156; (with_reducible refine (want_any c b g cap toks _ _ A).mono ?_); rintro r w4 ⟨rfl, A, k4⟩; have K := K.trans k4))
  go_ret
  exact ⟨ad, cp, body, rfl, hclr, Bl.By.kq hBy ((Kq.refl _ _).kp k4 (from_not hzb)), A, K⟩
set_option maxRecDepth 100000 in
set_option maxHeartbeats 2000000 in
theorem block_of (rd : S → Bl × S) (b g cap : Nat) (toks : List Out) (s : S) (w : World) (A : At b g cap toks s w) (hop : 0 ≤ s.opn ∧ s.opn ≤ 200010) (ho : (rd (s.enter s_lbr)).2.opn = s.opn + 1)
    (hF : ∀ W, At b g cap toks (s.enter s_lbr) W → Kp b w W → Calls Tryz.prog 162 #[.pointer (some ⟨b, 0, none⟩)] W (BlBack b g cap toks (rd (s.enter s_lbr)) W)) :
    Calls Tryz.prog 121 #[.pointer (some ⟨b, 0, none⟩)] w (BlBack b g cap toks (block rd s) w) := by
  have h1 : Calls Tryz.prog 161 #[.pointer (some ⟨b, 0, none⟩), .string ⟨#[123]⟩, .func (.func 162) #[.pointer (some ⟨b, 0, none⟩)] #[], .string ⟨#[125]⟩] w (BlBack b g cap toks (block rd s) w) :=
    enclosed_stmts _ (within s_lbr rd s) _ _ b g cap toks s w A (fun W hW kW => within_stmts rd s_lbr b g cap toks s W hW hop ho (fun V hV kV => hF V hV (kW.trans kV)))
  go_enter Tryz.func121, Tryz.ntmps121
  go_wp2_with (go_at_call 161; (with_reducible refine h1.mono ?_); rintro r w3 ⟨ad, cp, body, rfl, hclr, hBy, A, k⟩)
  go_ret
  exact ⟨ad, cp, body, rfl, hclr, hBy, A, k⟩
end Go.Proofs.YtaekbgljbgmchaaGreatDoor
