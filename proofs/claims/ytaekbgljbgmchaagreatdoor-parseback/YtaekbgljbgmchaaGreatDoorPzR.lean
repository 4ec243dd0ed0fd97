/-
  wait of package parse.
-/
import Derived.Test.YtaekbgljbgmchaaGreatDoorPzQ
namespace Go.Proofs.YtaekbgljbgmchaaGreatDoor
open Go.RowKit
open Lx (Out)
open Pz
theorem Pz.take_yes (s : S) (k : Int) (h : s.hd.kind = k) : s.take k = (s.hd, s.pass) := by unfold S.take; rw [if_pos h]
set_option maxRecDepth 100000 in
set_option maxHeartbeats 2000000 in
theorem wait_any (b g cap : Nat) (toks : List Out) (s : S) (w : World) (h : At b g cap toks s w) :
    Calls Tryz.prog 206 #[.pointer (some ⟨b, 0, none⟩)] w (StBack b g cap toks (stWait s) w) := by
  have hb := h.lt
  have hgl := h.glt
  have A := h.al (.cells #[.int .i64 0, .string ⟨#[]⟩, .string ⟨#[]⟩, .int .i64 0, .int .i64 0, .string ⟨#[]⟩, .string ⟨#[]⟩, .int .i64 0, .slice none 0 0, .int .i64 0, .slice none 0 0, .int .i64 0] 108)
  have bR := newB w #[.int .i64 0, .string ⟨#[]⟩, .string ⟨#[]⟩, .int .i64 0, .int .i64 0, .string ⟨#[]⟩, .string ⟨#[]⟩, .int .i64 0, .slice none 0 0, .int .i64 0, .slice none 0 0, .int .i64 0] 108
  have hne : w.heap.size ≠ b := by omega
  have hng : w.heap.size ≠ g := by omega
  have K : Kp b w (w.alloc (.cells #[.int .i64 0, .string ⟨#[]⟩, .string ⟨#[]⟩, .int .i64 0, .int .i64 0, .string ⟨#[]⟩, .string ⟨#[]⟩, .int .i64 0, .slice none 0 0, .int .i64 0, .slice none 0 0, .int .i64 0] 108)) := (Kp.refl b w).al _
  have hfit := (take_fit (h.ok.want k_wait) 1).1
  have hok2 := (h.ok.want k_wait).take 1
  have hft := hok2.tk.fit _ (hd_mem _ hok2.tk.ne)
  obtain ⟨mn, hmn⟩ : ∃ mn, ((s.want k_wait).take 1).1.text = mn := ⟨_, rfl⟩
  have HM := hid hmn
  rw [hmn] at hfit
  have hna : ∀ W, At b g cap toks (s.want ⟨#[119, 97, 105, 116]⟩) W → Calls Tryz.prog 193 #[.pointer (some ⟨b, 0, none⟩)] W fun e w' => e = .returned (.string mn) ∧ At b g cap toks ((s.want k_wait).take 1).2 w' ∧ Kp b W w' := fun W hW => by
    have := nameTok_any b g cap toks _ W hW
    rw [show ((s.want ⟨#[119, 97, 105, 116]⟩).take 1).1.text = mn from hmn] at this
    exact this
  clear hmn
  have htk : ∀ W, At b g cap toks ((s.want k_wait).take 1).2 W → Calls Tryz.prog 62 #[.pointer (some ⟨b, 0, none⟩)] W fun e w' => e = .returned (.agg #[.int .i64 ((s.want k_wait).take 1).2.hd.kind, .string ((s.want k_wait).take 1).2.hd.text, .int .i64 ((s.want k_wait).take 1).2.hd.n, .int .i64 (((s.want k_wait).take 1).2.hd.pos : Int)]) ∧ Below W.heap.size W w' := fun W hW => token_any b g cap toks _ W hW
  have hnum : ((s.want k_wait).take 1).2.hd.kind = 2 → ∀ W, At b g cap toks ((s.want k_wait).take 1).2 W → Calls Tryz.prog 120 #[.pointer (some ⟨b, 0, none⟩)] W fun e w' => e = .returned (.int .i64 ((s.want k_wait).take 1).2.hd.n) ∧ At b g cap toks ((s.want k_wait).take 1).2.pass w' ∧ Kp b W w' := fun hk W hW => by
    have := numTok_any b g cap toks _ W hW
    rw [show ((s.want k_wait).take 1).2.take 2 = (((s.want k_wait).take 1).2.hd, ((s.want k_wait).take 1).2.pass) from take_yes _ _ hk] at this
    exact this
  have hpure : ∀ mn : ByteArray, ((s.want k_wait).take 1).1.text = mn → stWait s = (if ((s.want k_wait).take 1).2.hd.kind = 2 then (st 9 mn e0 ((s.want k_wait).take 1).2.hd.n exZ [] 0, (if ((s.want k_wait).take 1).2.hd.n = 0 then ((s.want k_wait).take 1).2.pass.fail 40 ((s.want k_wait).take 1).2.hd.pos else ((s.want k_wait).take 1).2.pass).want s_semi) else (st 9 mn e0 0 exZ [] 0, ((s.want k_wait).take 1).2.want s_semi)) := fun mn hmn => by
    unfold stWait
    simp only
    rw [hmn]
    by_cases hk : ((s.want k_wait).take 1).2.hd.kind = 2
    · rw [if_pos hk, if_pos hk, show ((s.want k_wait).take 1).2.take 2 = (((s.want k_wait).take 1).2.hd, ((s.want k_wait).take 1).2.pass) from take_yes _ _ hk]
    · rw [if_neg hk, if_neg hk]
  have HP := hid (hpure mn HM.out)
  clear hpure
  obtain ⟨R, hR⟩ : ∃ R, stWait s = R := ⟨_, rfl⟩
  rw [hR] at HP ⊢
  clear hR
  obtain ⟨t, ht⟩ : ∃ t, ((s.want k_wait).take 1).2.hd = t := ⟨_, rfl⟩
  rw [ht] at htk hnum HP hft
  clear ht h hok2
  obtain ⟨tk, tt, tn, tp, te⟩ := t
  simp only at htk hnum HP hft
  cases q2 : (tk == 2)
  · have HR : Hid (R = (st 9 mn e0 0 exZ [] 0, ((s.want k_wait).take 1).2.want s_semi)) := by show _ = _; rw [HP.out, if_neg (by simpa using q2)]
    have hn2 : ¬ tk = 2 := by simpa using q2
    clear HP hnum
    go_enter Tryz.func206, Tryz.ntmps206
    go_wp2_with (first
          | (go_at_call 156; (with_reducible refine (want_any ⟨#[119, 97, 105, 116]⟩ b g cap toks s _ A).mono ?_); rintro r w1 ⟨rfl, A, k⟩; have K := K.trans k; have bR := k.box bR hne)
          | (go_at_call 193; (with_reducible refine (hna _ A).mono ?_); rintro r w1 ⟨rfl, A, k⟩; have K := K.trans k; have bR := k.box bR hne; have hlR := ltB bR; have A := A.al (.cells #[.int .i64 9, .string mn, .string ⟨#[]⟩, .int .i64 0, .int .i64 0, .string ⟨#[]⟩, .string ⟨#[]⟩, .int .i64 0, .slice none 0 0, .int .i64 0, .slice none 0 0, .int .i64 0] 108); have K := K.al (.cells #[.int .i64 9, .string mn, .string ⟨#[]⟩, .int .i64 0, .int .i64 0, .string ⟨#[]⟩, .string ⟨#[]⟩, .int .i64 0, .slice none 0 0, .int .i64 0, .slice none 0 0, .int .i64 0] 108); have bR := bel_box bR (bel_al _ (.cells #[.int .i64 9, .string mn, .string ⟨#[]⟩, .int .i64 0, .int .i64 0, .string ⟨#[]⟩, .string ⟨#[]⟩, .int .i64 0, .slice none 0 0, .int .i64 0, .slice none 0 0, .int .i64 0] 108)); have bS := newB w1 #[.int .i64 9, .string mn, .string ⟨#[]⟩, .int .i64 0, .int .i64 0, .string ⟨#[]⟩, .string ⟨#[]⟩, .int .i64 0, .slice none 0 0, .int .i64 0, .slice none 0 0, .int .i64 0] 108; have hnS : w1.heap.size ≠ b := (by omega); have hnS2 : w1.heap.size ≠ g := (by omega); have hnR : w.heap.size ≠ w1.heap.size := (by omega); have hSw : w.heap.size ≤ w1.heap.size := (by omega); obtain ⟨⟨y0, y1, y2, y3, y4, y5, y6, y7, y8, y9, y10, y11⟩, yf, yl⟩ := twelve bS; have hzS := ltB bS)
          | (go_at_call 62; (with_reducible refine (htk _ A).mono ?_); rintro r w2 ⟨rfl, b1⟩; have A := (A.below b1).al (.cells #[.int .i64 tk, .string tt, .int .i64 tn, .int .i64 (tp : Int)] 57); have K := (K.tr b1).al (.cells #[.int .i64 tk, .string tt, .int .i64 tn, .int .i64 (tp : Int)] 57); have bR := bel_box (bel_box bR b1) (bel_al _ (.cells #[.int .i64 tk, .string tt, .int .i64 tn, .int .i64 (tp : Int)] 57)); have bS := bel_box (bel_box bS b1) (bel_al _ (.cells #[.int .i64 tk, .string tt, .int .i64 tn, .int .i64 (tp : Int)] 57)); have bT := newB w2 #[.int .i64 tk, .string tt, .int .i64 tn, .int .i64 (tp : Int)] 57; have hz2 := b1.size; have hnT : w2.heap.size ≠ b := (by omega); have hnTS : w2.heap.size ≠ w1.heap.size := (by omega); have hnST : w1.heap.size ≠ w2.heap.size := (by omega); obtain ⟨t0, t1, t2, t3, tf, tl⟩ := four bT; obtain ⟨⟨y0, y1, y2, y3, y4, y5, y6, y7, y8, y9, y10, y11⟩, yf, yl⟩ := twelve bS; obtain ⟨⟨x0, x1, x2, x3, x4, x5, x6, x7, x8, x9, x10, x11⟩, xf, xl⟩ := twelve bR)
          | (go_at_call 156; (with_reducible refine (want_any ⟨#[59]⟩ b g cap toks _ _ A).mono ?_); rintro r w5 ⟨rfl, A, k⟩; have K := K.trans k; have bR := k.box bR hne; have bS := k.box bS hnS; obtain ⟨⟨y0, y1, y2, y3, y4, y5, y6, y7, y8, y9, y10, y11⟩, yf, yl⟩ := twelve bS; obtain ⟨⟨x0, x1, x2, x3, x4, x5, x6, x7, x8, x9, x10, x11⟩, xf, xl⟩ := twelve bR))
    rw [HR.out]
    refine bodyPost_ret (v := .agg #[.int .i64 9, .string mn, .string ⟨#[]⟩, .int .i64 0, .int .i64 0, .string ⟨#[]⟩, .string ⟨#[]⟩, .int .i64 0, .slice none 0 0, .int .i64 0, .slice none 0 0, .int .i64 0]) ?_ rfl ⟨9, mn, ⟨#[]⟩, 0, 0, ⟨#[]⟩, ⟨#[]⟩, 0, none, 0, [], 0, none, 0, [], 0, rfl, ?_, ?_, ?_, ?_⟩
    · simp [results, Tryz.results206, go_sem, x0, x1, x2, x3, x4, x5, x6, x7, x8, x9, x10, x11]
    · rw [St.clr, Ex.clr, Ex.clrL, Bl.clrL]; rfl
    · exact StBy.leaf ⟨i64_small (by decide) (by decide), i64_small (by decide) (by decide), i64_small (by decide) (by decide), len_of hfit, len_e0⟩ By.zero
    · repeat (first | with_reducible refine Pz.At.put ?_ hne hng _ | with_reducible refine Pz.At.put ?_ hnS hnS2 _ | with_reducible refine Pz.At.al ?_ _)
      exact A
    · repeat (first | with_reducible refine Kp.set ?_ (.inr (Nat.le_refl _)) _ | with_reducible refine Kp.set ?_ (.inr hSw) _ | with_reducible refine Kp.al ?_ _)
      with_reducible exact K
  · obtain rfl : tk = 2 := by simpa using q2
    have hnum2 := hnum rfl
    clear hnum
    cases q0 : (tn == 0)
    case true =>
      obtain rfl : tn = 0 := by simpa using q0
      have HR : Hid (R = (st 9 mn e0 0 exZ [] 0, (((s.want k_wait).take 1).2.pass.fail 40 (tp : Int)).want s_semi)) := by show _ = _; rw [HP.out, if_pos rfl, if_pos rfl]
      clear HP
      go_enter Tryz.func206, Tryz.ntmps206
      go_wp2_with (first
            | (go_at_call 156; (with_reducible refine (want_any ⟨#[119, 97, 105, 116]⟩ b g cap toks s _ A).mono ?_); rintro r w1 ⟨rfl, A, k⟩; have K := K.trans k; have bR := k.box bR hne)
            | (go_at_call 193; (with_reducible refine (hna _ A).mono ?_); rintro r w1 ⟨rfl, A, k⟩; have K := K.trans k; have bR := k.box bR hne; have hlR := ltB bR; have A := A.al (.cells #[.int .i64 9, .string mn, .string ⟨#[]⟩, .int .i64 0, .int .i64 0, .string ⟨#[]⟩, .string ⟨#[]⟩, .int .i64 0, .slice none 0 0, .int .i64 0, .slice none 0 0, .int .i64 0] 108); have K := K.al (.cells #[.int .i64 9, .string mn, .string ⟨#[]⟩, .int .i64 0, .int .i64 0, .string ⟨#[]⟩, .string ⟨#[]⟩, .int .i64 0, .slice none 0 0, .int .i64 0, .slice none 0 0, .int .i64 0] 108); have bR := bel_box bR (bel_al _ (.cells #[.int .i64 9, .string mn, .string ⟨#[]⟩, .int .i64 0, .int .i64 0, .string ⟨#[]⟩, .string ⟨#[]⟩, .int .i64 0, .slice none 0 0, .int .i64 0, .slice none 0 0, .int .i64 0] 108)); have bS := newB w1 #[.int .i64 9, .string mn, .string ⟨#[]⟩, .int .i64 0, .int .i64 0, .string ⟨#[]⟩, .string ⟨#[]⟩, .int .i64 0, .slice none 0 0, .int .i64 0, .slice none 0 0, .int .i64 0] 108; have hnS : w1.heap.size ≠ b := (by omega); have hnS2 : w1.heap.size ≠ g := (by omega); have hnR : w.heap.size ≠ w1.heap.size := (by omega); have hSw : w.heap.size ≤ w1.heap.size := (by omega); obtain ⟨⟨y0, y1, y2, y3, y4, y5, y6, y7, y8, y9, y10, y11⟩, yf, yl⟩ := twelve bS; have hzS := ltB bS)
            | (go_at_call 62; (with_reducible refine (htk _ A).mono ?_); rintro r w2 ⟨rfl, b1⟩; have A := (A.below b1).al (.cells #[.int .i64 2, .string tt, .int .i64 0, .int .i64 (tp : Int)] 57); have K := (K.tr b1).al (.cells #[.int .i64 2, .string tt, .int .i64 0, .int .i64 (tp : Int)] 57); have bR := bel_box (bel_box bR b1) (bel_al _ (.cells #[.int .i64 2, .string tt, .int .i64 0, .int .i64 (tp : Int)] 57)); have bS := bel_box (bel_box bS b1) (bel_al _ (.cells #[.int .i64 2, .string tt, .int .i64 0, .int .i64 (tp : Int)] 57)); have bT := newB w2 #[.int .i64 2, .string tt, .int .i64 0, .int .i64 (tp : Int)] 57; have hz2 := b1.size; have hnT : w2.heap.size ≠ b := (by omega); have hnTS : w2.heap.size ≠ w1.heap.size := (by omega); have hnST : w1.heap.size ≠ w2.heap.size := (by omega); obtain ⟨t0, t1, t2, t3, tf, tl⟩ := four bT; obtain ⟨⟨y0, y1, y2, y3, y4, y5, y6, y7, y8, y9, y10, y11⟩, yf, yl⟩ := twelve bS; obtain ⟨⟨x0, x1, x2, x3, x4, x5, x6, x7, x8, x9, x10, x11⟩, xf, xl⟩ := twelve bR)
            | (go_at_call 120; (with_reducible refine (hnum2 _ A).mono ?_); rintro r w3 ⟨rfl, A, k⟩; have K := K.trans k; have bR := k.box bR hne; have bS := k.box bS hnS; have bT := k.box bT hnT; obtain ⟨⟨y0, y1, y2, y3, y4, y5, y6, y7, y8, y9, y10, y11⟩, yf, yl⟩ := twelve bS; obtain ⟨t0, t1, t2, t3, tf, tl⟩ := four bT; have A := A.put (p := ⟨w1.heap.size, 3, none⟩) hnS hnS2 (.int .i64 0); have K := K.set (p := ⟨w1.heap.size, 3, none⟩) (.inr hSw) (.int .i64 0); have bR := set_box (j := w1.heap.size) (i := 3) bR hnR (.int .i64 0); have bT := set_box (j := w1.heap.size) (i := 3) bT hnTS (.int .i64 0); have bS := setBx (i := 3) (c2 := #[.int .i64 9, .string mn, .string ⟨#[]⟩, .int .i64 0, .int .i64 0, .string ⟨#[]⟩, .string ⟨#[]⟩, .int .i64 0, .slice none 0 0, .int .i64 0, .slice none 0 0, .int .i64 0]) bS (.int .i64 0) rfl)
            | (go_at_call 107; (with_reducible refine (fail_any 40 (tp : Int) b g cap toks _ _ A).mono ?_); rintro r w4 ⟨rfl, A, k⟩; have K := K.trans k; have bR := k.box bR hne; have bS := k.box bS hnS)
            | (go_at_call 156; (with_reducible refine (want_any ⟨#[59]⟩ b g cap toks _ _ A).mono ?_); rintro r w5 ⟨rfl, A, k⟩; have K := K.trans k; have bR := k.box bR hne; have bS := k.box bS hnS; obtain ⟨⟨y0, y1, y2, y3, y4, y5, y6, y7, y8, y9, y10, y11⟩, yf, yl⟩ := twelve bS; obtain ⟨⟨x0, x1, x2, x3, x4, x5, x6, x7, x8, x9, x10, x11⟩, xf, xl⟩ := twelve bR))
      rw [HR.out]
      refine bodyPost_ret (v := .agg #[.int .i64 9, .string mn, .string ⟨#[]⟩, .int .i64 0, .int .i64 0, .string ⟨#[]⟩, .string ⟨#[]⟩, .int .i64 0, .slice none 0 0, .int .i64 0, .slice none 0 0, .int .i64 0]) ?_ rfl ⟨9, mn, ⟨#[]⟩, 0, 0, ⟨#[]⟩, ⟨#[]⟩, 0, none, 0, [], 0, none, 0, [], 0, rfl, ?_, ?_, ?_, ?_⟩
      · simp [results, Tryz.results206, go_sem, x0, x1, x2, x3, x4, x5, x6, x7, x8, x9, x10, x11]
      · rw [St.clr, Ex.clr, Ex.clrL, Bl.clrL]; rfl
      · exact StBy.leaf ⟨i64_small (by decide) (by decide), i64_small (by decide) (by decide), i64_small (by decide) (by decide), len_of hfit, len_e0⟩ By.zero
      · repeat (first | with_reducible refine Pz.At.put ?_ hne hng _ | with_reducible refine Pz.At.put ?_ hnS hnS2 _ | with_reducible refine Pz.At.al ?_ _)
        exact A
      · repeat (first | with_reducible refine Kp.set ?_ (.inr (Nat.le_refl _)) _ | with_reducible refine Kp.set ?_ (.inr hSw) _ | with_reducible refine Kp.al ?_ _)
        with_reducible exact K
    case false =>
      have hn0 : ¬ tn = 0 := by simpa using q0
      have HR : Hid (R = (st 9 mn e0 tn exZ [] 0, ((s.want k_wait).take 1).2.pass.want s_semi)) := by show _ = _; rw [HP.out, if_pos rfl, if_neg (by simpa using q0)]
      clear HP
      go_enter Tryz.func206, Tryz.ntmps206
      go_wp2_with (first
            | (go_at_call 156; (with_reducible refine (want_any ⟨#[119, 97, 105, 116]⟩ b g cap toks s _ A).mono ?_); rintro r w1 ⟨rfl, A, k⟩; have K := K.trans k; have bR := k.box bR hne)
            | (go_at_call 193; (with_reducible refine (hna _ A).mono ?_); rintro r w1 ⟨rfl, A, k⟩; have K := K.trans k; have bR := k.box bR hne; have hlR := ltB bR; have A := A.al (.cells #[.int .i64 9, .string mn, .string ⟨#[]⟩, .int .i64 0, .int .i64 0, .string ⟨#[]⟩, .string ⟨#[]⟩, .int .i64 0, .slice none 0 0, .int .i64 0, .slice none 0 0, .int .i64 0] 108); have K := K.al (.cells #[.int .i64 9, .string mn, .string ⟨#[]⟩, .int .i64 0, .int .i64 0, .string ⟨#[]⟩, .string ⟨#[]⟩, .int .i64 0, .slice none 0 0, .int .i64 0, .slice none 0 0, .int .i64 0] 108); have bR := bel_box bR (bel_al _ (.cells #[.int .i64 9, .string mn, .string ⟨#[]⟩, .int .i64 0, .int .i64 0, .string ⟨#[]⟩, .string ⟨#[]⟩, .int .i64 0, .slice none 0 0, .int .i64 0, .slice none 0 0, .int .i64 0] 108)); have bS := newB w1 #[.int .i64 9, .string mn, .string ⟨#[]⟩, .int .i64 0, .int .i64 0, .string ⟨#[]⟩, .string ⟨#[]⟩, .int .i64 0, .slice none 0 0, .int .i64 0, .slice none 0 0, .int .i64 0] 108; have hnS : w1.heap.size ≠ b := (by omega); have hnS2 : w1.heap.size ≠ g := (by omega); have hnR : w.heap.size ≠ w1.heap.size := (by omega); have hSw : w.heap.size ≤ w1.heap.size := (by omega); obtain ⟨⟨y0, y1, y2, y3, y4, y5, y6, y7, y8, y9, y10, y11⟩, yf, yl⟩ := twelve bS; have hzS := ltB bS)
            | (go_at_call 62; (with_reducible refine (htk _ A).mono ?_); rintro r w2 ⟨rfl, b1⟩; have A := (A.below b1).al (.cells #[.int .i64 2, .string tt, .int .i64 tn, .int .i64 (tp : Int)] 57); have K := (K.tr b1).al (.cells #[.int .i64 2, .string tt, .int .i64 tn, .int .i64 (tp : Int)] 57); have bR := bel_box (bel_box bR b1) (bel_al _ (.cells #[.int .i64 2, .string tt, .int .i64 tn, .int .i64 (tp : Int)] 57)); have bS := bel_box (bel_box bS b1) (bel_al _ (.cells #[.int .i64 2, .string tt, .int .i64 tn, .int .i64 (tp : Int)] 57)); have bT := newB w2 #[.int .i64 2, .string tt, .int .i64 tn, .int .i64 (tp : Int)] 57; have hz2 := b1.size; have hnT : w2.heap.size ≠ b := (by omega); have hnTS : w2.heap.size ≠ w1.heap.size := (by omega); have hnST : w1.heap.size ≠ w2.heap.size := (by omega); obtain ⟨t0, t1, t2, t3, tf, tl⟩ := four bT; obtain ⟨⟨y0, y1, y2, y3, y4, y5, y6, y7, y8, y9, y10, y11⟩, yf, yl⟩ := twelve bS; obtain ⟨⟨x0, x1, x2, x3, x4, x5, x6, x7, x8, x9, x10, x11⟩, xf, xl⟩ := twelve bR)
            | (go_at_call 120; (with_reducible refine (hnum2 _ A).mono ?_); rintro r w3 ⟨rfl, A, k⟩; have K := K.trans k; have bR := k.box bR hne; have bS := k.box bS hnS; have bT := k.box bT hnT; obtain ⟨⟨y0, y1, y2, y3, y4, y5, y6, y7, y8, y9, y10, y11⟩, yf, yl⟩ := twelve bS; obtain ⟨t0, t1, t2, t3, tf, tl⟩ := four bT; have A := A.put (p := ⟨w1.heap.size, 3, none⟩) hnS hnS2 (.int .i64 tn); have K := K.set (p := ⟨w1.heap.size, 3, none⟩) (.inr hSw) (.int .i64 tn); have bR := set_box (j := w1.heap.size) (i := 3) bR hnR (.int .i64 tn); have bT := set_box (j := w1.heap.size) (i := 3) bT hnTS (.int .i64 tn); have bS := setBx (i := 3) (c2 := #[.int .i64 9, .string mn, .string ⟨#[]⟩, .int .i64 tn, .int .i64 0, .string ⟨#[]⟩, .string ⟨#[]⟩, .int .i64 0, .slice none 0 0, .int .i64 0, .slice none 0 0, .int .i64 0]) bS (.int .i64 tn) rfl)
            | (go_at_call 156; (with_reducible refine (want_any ⟨#[59]⟩ b g cap toks _ _ A).mono ?_); rintro r w5 ⟨rfl, A, k⟩; have K := K.trans k; have bR := k.box bR hne; have bS := k.box bS hnS; obtain ⟨⟨y0, y1, y2, y3, y4, y5, y6, y7, y8, y9, y10, y11⟩, yf, yl⟩ := twelve bS; obtain ⟨⟨x0, x1, x2, x3, x4, x5, x6, x7, x8, x9, x10, x11⟩, xf, xl⟩ := twelve bR))
      rw [HR.out]
      refine bodyPost_ret (v := .agg #[.int .i64 9, .string mn, .string ⟨#[]⟩, .int .i64 tn, .int .i64 0, .string ⟨#[]⟩, .string ⟨#[]⟩, .int .i64 0, .slice none 0 0, .int .i64 0, .slice none 0 0, .int .i64 0]) ?_ rfl ⟨9, mn, ⟨#[]⟩, tn, 0, ⟨#[]⟩, ⟨#[]⟩, 0, none, 0, [], 0, none, 0, [], 0, rfl, ?_, ?_, ?_, ?_⟩
      · simp [results, Tryz.results206, go_sem, x0, x1, x2, x3, x4, x5, x6, x7, x8, x9, x10, x11]
      · rw [St.clr, Ex.clr, Ex.clrL, Bl.clrL]; rfl
      · exact StBy.leaf ⟨i64_small (by decide) (by decide), hft.2.1, i64_small (by decide) (by decide), len_of hfit, len_e0⟩ By.zero
      · repeat (first | with_reducible refine Pz.At.put ?_ hne hng _ | with_reducible refine Pz.At.put ?_ hnS hnS2 _ | with_reducible refine Pz.At.al ?_ _)
        exact A
      · repeat (first | with_reducible refine Kp.set ?_ (.inr (Nat.le_refl _)) _ | with_reducible refine Kp.set ?_ (.inr hSw) _ | with_reducible refine Kp.al ?_ _)
        with_reducible exact K
end Go.Proofs.YtaekbgljbgmchaaGreatDoor
