/-
  monitor of package parse.
-/
import Derived.Test.YtaekbgljbgmchaaGreatDoorPzMo
namespace Go.Proofs.YtaekbgljbgmchaaGreatDoor
open Go.RowKit
open Lx (Out)
open Pz
set_option maxRecDepth 100000 in
set_option maxHeartbeats 2000000 in
theorem within_members (rd : S → Mo × S) (sign : ByteArray) (b g cap : Nat) (toks : List Out) (s : S) (w : World) (h : At b g cap toks s w) (hop : 0 ≤ s.opn ∧ s.opn ≤ 200010) (ho : (rd (s.enter sign)).2.opn = s.opn + 1)
    (hF : ∀ W, At b g cap toks (s.enter sign) W → Kp b w W → Calls Tryz.prog 119 #[.pointer (some ⟨b, 0, none⟩)] W (MoBk b g cap toks (rd (s.enter sign)) W)) :
    Calls Tryz.prog 155 #[.pointer (some ⟨b, 0, none⟩), .string sign, .func (.func 119) #[.pointer (some ⟨b, 0, none⟩)] #[]] w (MoBk b g cap toks (within sign rd s) w) := by
  have hb := h.lt
  have hgl := h.glt
  have A := h.al (.cells #[.string ⟨#[]⟩, .slice none 0 0, .slice none 0 0, .int .i64 0] 80)
  have bR := newB w #[.string ⟨#[]⟩, .slice none 0 0, .slice none 0 0, .int .i64 0] 80
  have hne : w.heap.size ≠ b := by omega
  have hng : w.heap.size ≠ g := by omega
  have K : Kp b w (w.alloc (.cells #[.string ⟨#[]⟩, .slice none 0 0, .slice none 0 0, .int .i64 0] 80)) := (Kp.refl b w).al _
  have h1 := sees_any sign b g cap toks s _ A
  obtain ⟨o2, ho2⟩ : ∃ o2, (rd (s.enter sign)).2.opn = o2 := ⟨_, rfl⟩
  have HO2 := hid ho2
  have ho3 : 1 ≤ o2 ∧ o2 ≤ 200011 := by omega
  have HL : Hid ((within sign rd s).2 = ⟨(rd (s.enter sign)).2.rest, o2 - 1, (rd (s.enter sign)).2.err, (rd (s.enter sign)).2.pos⟩) := by show _ = _; rw [← ho2]; rfl
  clear ho ho2
  cases hq : s.sees sign
  · have HO := hid (want_opn s sign)
    have HE : Hid (s.enter sign = ⟨(s.want sign).rest, s.opn + 1, (s.want sign).err, (s.want sign).pos⟩) := by show _ = _; unfold S.enter S.more; rw [hq]; simp only [Bool.false_and, Bool.false_eq_true, if_false]; rw [want_opn]
    rw [hq] at h1
    go_enter Tryz.func155, Tryz.ntmps155
    go_wp2_with (first
          | (go_at_call 69; refine h1.mono ?_; rintro r w1 ⟨rfl, b1⟩; have A := A.below b1; have K := K.tr b1; have bR := bel_box bR b1; obtain ⟨-, -, c2, -, -, cf⟩ := A.cells)
          | (go_at_call 156; (with_reducible refine (want_any sign b g cap toks _ _ A).mono ?_); rintro r w1 ⟨rfl, A, k⟩; have K := K.trans k; have bR := k.box bR hne; obtain ⟨-, -, c2, -, -, cf⟩ := A.cells; rw [HO.out] at c2; have A : At b g cap toks (s.enter sign) _ := (by rw [HE.out]; exact A.more HO.out); have K := K.set (p := ⟨b, 2, none⟩) (.inl rfl) (.int .i64 (s.opn + 1)); have bR := set_box (j := b) (i := 2) bR hne (.int .i64 (s.opn + 1)); have hz1 := ltB bR; have hzb := A.lt)
          | (go_at_call 119; (with_reducible refine (hF _ A K).mono ?_); rintro r w3 ⟨nm, vad, vcp, vars, mad, mcp, meths, po, rfl, hclr, hBy, A, k⟩; have K := K.trans k; have bR := k.box bR hne; obtain ⟨-, -, c2, -, -, cf⟩ := A.cells; rw [HO2.out] at c2; obtain ⟨x0, x1, x2, x3, xf, xl⟩ := four bR; have hb3 := A.lt))
    refine bodyPost_ret (v := .agg #[.string nm, .slice vad vars.length vcp, .slice mad meths.length mcp, .int .i64 po]) ?_ rfl ⟨nm, vad, vcp, vars, mad, mcp, meths, po, rfl, hclr, ?_, ?_, ?_⟩
    · simp [results, Tryz.results155, go_sem, x0, x1, x2, x3, xl]
    · refine (Mo.By.kq hBy ?_).mono (Nat.le_of_lt hz1)
      repeat (first | with_reducible refine Kq.set ?_ (.inl (from_not hz1)) _ | with_reducible refine Kq.set ?_ (.inl (from_not hzb)) _ | with_reducible refine Kq.al ?_ _)
      with_reducible exact Kq.refl _ _
    · repeat (first | with_reducible refine Pz.At.put ?_ hne hng _ | with_reducible refine Pz.At.al ?_ _)
      rw [HL.out]
      exact A.less HO2.out
    · repeat (first | with_reducible refine Kp.set ?_ (.inr (Nat.le_refl _)) _ | with_reducible refine Kp.set ?_ (.inl rfl) _ | with_reducible refine Kp.al ?_ _)
      exact K.set (p := ⟨b, 2, none⟩) (.inl rfl) _
  · cases hr : (s.opn == 64)
    · have HO := hid (want_opn s sign)
      have HE : Hid (s.enter sign = ⟨(s.want sign).rest, s.opn + 1, (s.want sign).err, (s.want sign).pos⟩) := by show _ = _; unfold S.enter S.more; rw [hq, hr]; simp only [Bool.and_false, Bool.false_eq_true, if_false]; rw [want_opn]
      rw [hq] at h1
      go_enter Tryz.func155, Tryz.ntmps155
      go_wp2_with (first
            | (go_at_call 69; refine h1.mono ?_; rintro r w1 ⟨rfl, b1⟩; have A := A.below b1; have K := K.tr b1; have bR := bel_box bR b1; obtain ⟨-, -, c2, -, -, cf⟩ := A.cells)
            | (go_at_call 156; (with_reducible refine (want_any sign b g cap toks _ _ A).mono ?_); rintro r w1 ⟨rfl, A, k⟩; have K := K.trans k; have bR := k.box bR hne; obtain ⟨-, -, c2, -, -, cf⟩ := A.cells; rw [HO.out] at c2; have A : At b g cap toks (s.enter sign) _ := (by rw [HE.out]; exact A.more HO.out); have K := K.set (p := ⟨b, 2, none⟩) (.inl rfl) (.int .i64 (s.opn + 1)); have bR := set_box (j := b) (i := 2) bR hne (.int .i64 (s.opn + 1)); have hz1 := ltB bR; have hzb := A.lt)
            | (go_at_call 119; (with_reducible refine (hF _ A K).mono ?_); rintro r w3 ⟨nm, vad, vcp, vars, mad, mcp, meths, po, rfl, hclr, hBy, A, k⟩; have K := K.trans k; have bR := k.box bR hne; obtain ⟨-, -, c2, -, -, cf⟩ := A.cells; rw [HO2.out] at c2; obtain ⟨x0, x1, x2, x3, xf, xl⟩ := four bR; have hb3 := A.lt))
      refine bodyPost_ret (v := .agg #[.string nm, .slice vad vars.length vcp, .slice mad meths.length mcp, .int .i64 po]) ?_ rfl ⟨nm, vad, vcp, vars, mad, mcp, meths, po, rfl, hclr, ?_, ?_, ?_⟩
      · simp [results, Tryz.results155, go_sem, x0, x1, x2, x3, xl]
      · refine (Mo.By.kq hBy ?_).mono (Nat.le_of_lt hz1)
        repeat (first | with_reducible refine Kq.set ?_ (.inl (from_not hz1)) _ | with_reducible refine Kq.set ?_ (.inl (from_not hzb)) _ | with_reducible refine Kq.al ?_ _)
        with_reducible exact Kq.refl _ _
      · repeat (first | with_reducible refine Pz.At.put ?_ hne hng _ | with_reducible refine Pz.At.al ?_ _)
        rw [HL.out]
        exact A.less HO2.out
      · repeat (first | with_reducible refine Kp.set ?_ (.inr (Nat.le_refl _)) _ | with_reducible refine Kp.set ?_ (.inl rfl) _ | with_reducible refine Kp.al ?_ _)
        exact K.set (p := ⟨b, 2, none⟩) (.inl rfl) _
    · have HO : Hid (((s.refuse 41).want sign).opn = s.opn) := by show _ = _; rw [want_opn]; exact fail_opn _ _ _
      have HE : Hid (s.enter sign = ⟨((s.refuse 41).want sign).rest, s.opn + 1, ((s.refuse 41).want sign).err, ((s.refuse 41).want sign).pos⟩) := by show _ = _; unfold S.enter S.more; rw [hq, hr]; simp only [Bool.and_true, if_true]; rw [HO.out]
      rw [hq] at h1
      go_enter Tryz.func155, Tryz.ntmps155
      go_wp2_with (first
            | (go_at_call 69; refine h1.mono ?_; rintro r w1 ⟨rfl, b1⟩; have A := A.below b1; have K := K.tr b1; have bR := bel_box bR b1; obtain ⟨-, -, c2, -, -, cf⟩ := A.cells)
            | (go_at_call 63; (with_reducible refine (refuse_any 41 b g cap toks _ _ A).mono ?_); rintro r w1 ⟨rfl, A, k⟩; have K := K.trans k; have bR := k.box bR hne)
            | (go_at_call 156; (with_reducible refine (want_any sign b g cap toks _ _ A).mono ?_); rintro r w1 ⟨rfl, A, k⟩; have K := K.trans k; have bR := k.box bR hne; obtain ⟨-, -, c2, -, -, cf⟩ := A.cells; rw [HO.out] at c2; have A : At b g cap toks (s.enter sign) _ := (by rw [HE.out]; exact A.more HO.out); have K := K.set (p := ⟨b, 2, none⟩) (.inl rfl) (.int .i64 (s.opn + 1)); have bR := set_box (j := b) (i := 2) bR hne (.int .i64 (s.opn + 1)); have hz1 := ltB bR; have hzb := A.lt)
            | (go_at_call 119; (with_reducible refine (hF _ A K).mono ?_); rintro r w3 ⟨nm, vad, vcp, vars, mad, mcp, meths, po, rfl, hclr, hBy, A, k⟩; have K := K.trans k; have bR := k.box bR hne; obtain ⟨-, -, c2, -, -, cf⟩ := A.cells; rw [HO2.out] at c2; obtain ⟨x0, x1, x2, x3, xf, xl⟩ := four bR; have hb3 := A.lt))
      refine bodyPost_ret (v := .agg #[.string nm, .slice vad vars.length vcp, .slice mad meths.length mcp, .int .i64 po]) ?_ rfl ⟨nm, vad, vcp, vars, mad, mcp, meths, po, rfl, hclr, ?_, ?_, ?_⟩
      · simp [results, Tryz.results155, go_sem, x0, x1, x2, x3, xl]
      · refine (Mo.By.kq hBy ?_).mono (Nat.le_of_lt hz1)
        repeat (first | with_reducible refine Kq.set ?_ (.inl (from_not hz1)) _ | with_reducible refine Kq.set ?_ (.inl (from_not hzb)) _ | with_reducible refine Kq.al ?_ _)
        with_reducible exact Kq.refl _ _
      · repeat (first | with_reducible refine Pz.At.put ?_ hne hng _ | with_reducible refine Pz.At.al ?_ _)
        rw [HL.out]
        exact A.less HO2.out
      · repeat (first | with_reducible refine Kp.set ?_ (.inr (Nat.le_refl _)) _ | with_reducible refine Kp.set ?_ (.inl rfl) _ | with_reducible refine Kp.al ?_ _)
        exact K.set (p := ⟨b, 2, none⟩) (.inl rfl) _
set_option maxRecDepth 100000 in
set_option maxHeartbeats 2000000 in
theorem enclosed_members (fv : Value) (x : Mo × S) (a c : ByteArray) (b g cap : Nat) (toks : List Out) (s : S) (w : World) (h : At b g cap toks s w)
    (hW : ∀ W, At b g cap toks s W → Kp b w W → Calls Tryz.prog 155 #[.pointer (some ⟨b, 0, none⟩), .string a, fv] W (MoBk b g cap toks x W)) :
    Calls Tryz.prog 118 #[.pointer (some ⟨b, 0, none⟩), .string a, fv, .string c] w (MoBk b g cap toks (x.1, x.2.want c) w) := by
  have hb := h.lt
  have hgl := h.glt
  have A := h.al (.cells #[.string ⟨#[]⟩, .slice none 0 0, .slice none 0 0, .int .i64 0] 80)
  have bR := newB w #[.string ⟨#[]⟩, .slice none 0 0, .slice none 0 0, .int .i64 0] 80
  have hne : w.heap.size ≠ b := by omega
  have hng : w.heap.size ≠ g := by omega
  have K : Kp b w (w.alloc (.cells #[.string ⟨#[]⟩, .slice none 0 0, .slice none 0 0, .int .i64 0] 80)) := (Kp.refl b w).al _
  have hz1 := ltB bR
  have hzb := A.lt
  go_enter Tryz.func118, Tryz.ntmps118
  go_wp2_with (first
      | (go_at_call 155; (with_reducible refine (hW _ A K).mono ?_); rintro r w3 ⟨nm, vad, vcp, vars, mad, mcp, meths, po, rfl, hclr, hBy, A, k⟩; have K := K.trans k; have bR := k.box bR hne; have A := A.al (.cells #[.string nm, .slice vad vars.length vcp, .slice mad meths.length mcp, .int .i64 po] 80); have K := K.al (.cells #[.string nm, .slice vad vars.length vcp, .slice mad meths.length mcp, .int .i64 po] 80); have bR := bel_box bR (bel_al _ (.cells #[.string nm, .slice vad vars.length vcp, .slice mad meths.length mcp, .int .i64 po] 80)); have bX := newB w3 #[.string nm, .slice vad vars.length vcp, .slice mad meths.length mcp, .int .i64 po] 80; have hnx : w3.heap.size ≠ b := (by have := k.size; omega))
      | (go_at_call 156; (with_reducible refine (want_any c b g cap toks _ _ A).mono ?_); rintro r w4 ⟨rfl, A, k4⟩; have K := K.trans k4; have bR := k4.box bR hne; have bX := k4.box bX hnx; obtain ⟨x0, x1, x2, x3, xf, xl⟩ := four bR; obtain ⟨y0, y1, y2, y3, yf, yl⟩ := four bX))
  refine bodyPost_ret (v := .agg #[.string nm, .slice vad vars.length vcp, .slice mad meths.length mcp, .int .i64 po]) ?_ rfl ⟨nm, vad, vcp, vars, mad, mcp, meths, po, rfl, hclr, ?_, ?_, ?_⟩
  · simp [results, Tryz.results118, go_sem, x0, x1, x2, x3]
  · refine (Mo.By.kq hBy ?_).mono (Nat.le_of_lt hz1)
    repeat (first | with_reducible refine Kq.set ?_ (.inl (from_not hz1)) _ | with_reducible refine Kq.set ?_ (.inl (from_not hzb)) _ | with_reducible refine Kq.al ?_ _)
    exact ((Kq.refl _ _).al _).kp k4 (from_not hzb)
  · repeat (first | with_reducible refine Pz.At.put ?_ hne hng _ | with_reducible refine Pz.At.al ?_ _)
    exact A
  · repeat (first | with_reducible refine Kp.set ?_ (.inr (Nat.le_refl _)) _ | with_reducible refine Kp.set ?_ (.inl rfl) _ | with_reducible refine Kp.al ?_ _)
    with_reducible exact K
set_option maxRecDepth 100000 in
set_option maxHeartbeats 2000000 in
theorem monitor_any (x : Mo × S) (b g cap : Nat) (toks : List Out) (s : S) (w : World) (h : At b g cap toks s w)
    (hW : ∀ W, At b g cap toks (s.take 1).2 W → Kp b w W → Calls Tryz.prog 118 #[.pointer (some ⟨b, 0, none⟩), .string ⟨#[123]⟩, .func (.func 119) #[.pointer (some ⟨b, 0, none⟩)] #[], .string ⟨#[125]⟩] W (MoBk b g cap toks x W)) :
    Calls Tryz.prog 71 #[.pointer (some ⟨b, 0, none⟩)] w (MoBk b g cap toks (⟨(s.take 1).1.text, none, 0, x.1.vars, none, 0, x.1.meths, (s.take 1).1.pos⟩, x.2) w) := by
  have hb := h.lt
  have hgl := h.glt
  have A := h.al (.cells #[.string ⟨#[]⟩, .slice none 0 0, .slice none 0 0, .int .i64 0] 80)
  have bR := newB w #[.string ⟨#[]⟩, .slice none 0 0, .slice none 0 0, .int .i64 0] 80
  have hne : w.heap.size ≠ b := by omega
  have hng : w.heap.size ≠ g := by omega
  have K : Kp b w (w.alloc (.cells #[.string ⟨#[]⟩, .slice none 0 0, .slice none 0 0, .int .i64 0] 80)) := (Kp.refl b w).al _
  have hfit := take_fit h.ok 1
  have h1 := declared_any b g cap toks s _ A
  obtain ⟨dn, hdn⟩ : ∃ dn, (s.take 1).1.text = dn := ⟨_, rfl⟩
  obtain ⟨dp, hdp⟩ : ∃ dp, (s.take 1).1.pos = dp := ⟨_, rfl⟩
  rw [hdn, hdp] at h1 ⊢
  rw [hdn, hdp] at hfit
  clear hdn hdp
  go_enter Tryz.func71, Tryz.ntmps71
  go_wp2_with (first
      | (go_at_call 117; (with_reducible refine h1.mono ?_); rintro r w1 ⟨rfl, A, k⟩; have K := K.trans k; have bR := k.box bR hne; have hz1 := ltB bR; have hzb := A.lt)
      | (go_at_call 118; (with_reducible refine (hW _ A K).mono ?_); rintro r w3 ⟨nm, vad, vcp, vars, mad, mcp, meths, po, rfl, hclr, hBy, A, k⟩; have K := K.trans k; have bR := k.box bR hne; have hlR3 := ltB bR; obtain ⟨x0, x1, x2, x3, xf, xl⟩ := four bR))
  refine bodyPost_ret (v := .agg #[.string dn, .slice vad vars.length vcp, .slice mad meths.length mcp, .int .i64 (dp : Int)]) ?_ rfl ⟨dn, vad, vcp, vars, mad, mcp, meths, dp, rfl, ?_, ?_, ?_, ?_⟩
  · simp [results, Tryz.results71, go_sem, x0, x1, x2, x3, xl]
  · rw [← hclr]; rfl
  · refine Mo.By.mono (n := w1.heap.size) ?_ (Nat.le_of_lt hz1)
    refine Mo.By.kq (w := w3) ⟨⟨len_of hfit.1, i64_nat hfit.2.2⟩, hBy.2⟩ ?_
    repeat (first | with_reducible refine Kq.set ?_ (.inl (from_not hz1)) _ | with_reducible refine Kq.set ?_ (.inl (from_not hzb)) _ | with_reducible refine Kq.al ?_ _)
    with_reducible exact Kq.refl _ _
  · repeat (first | with_reducible refine Pz.At.put ?_ hne hng _ | with_reducible refine Pz.At.al ?_ _)
    exact A
  · repeat (first | with_reducible refine Kp.set ?_ (.inr (Nat.le_refl _)) _ | with_reducible refine Kp.set ?_ (.inl rfl) _ | with_reducible refine Kp.al ?_ _)
    with_reducible exact K
end Go.Proofs.YtaekbgljbgmchaaGreatDoor
