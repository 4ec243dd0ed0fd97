/-
  method and role of package parse.
-/
import Derived.Test.YtaekbgljbgmchaaGreatDoorPzMe
namespace Go.Proofs.YtaekbgljbgmchaaGreatDoor
open Go.RowKit
open Lx (Out)
open Pz
theorem three {w : World} {k : Nat} {a b c : Value} {T : TypeId} (h : w.heap[k]? = some (.cells #[a, b, c] T (0, 0))) :
    w.cell? ⟨k, 0, none⟩ = some a ∧ w.cell? ⟨k, 1, none⟩ = some b ∧ w.cell? ⟨k, 2, none⟩ = some c ∧ (∀ i, w.frozen? ⟨k, i, none⟩ = false) ∧ k < w.heap.size :=
  ⟨by rw [cellB h]; rfl, by rw [cellB h]; rfl, by rw [cellB h]; rfl, frozB h, ltB h⟩
set_option maxRecDepth 100000 in
set_option maxHeartbeats 2000000 in
theorem method_any (y : Bl × S) (b g cap : Nat) (toks : List Out) (s : S) (w : World) (h : At b g cap toks s w)
    (hB : ∀ W, At b g cap toks (s.take 1).2 W → Kp b w W → Calls Tryz.prog 121 #[.pointer (some ⟨b, 0, none⟩)] W (BlBack b g cap toks y W)) :
    Calls Tryz.prog 160 #[.pointer (some ⟨b, 0, none⟩)] w (MeBk b g cap toks (⟨(s.take 1).1.text, y.1, (s.take 1).1.pos⟩, y.2) w) := by
  have hb := h.lt
  have hgl := h.glt
  have A := h.al (.cells #[.string ⟨#[]⟩, .slice none 0 0, .int .i64 0] 88)
  have bR := newB w #[.string ⟨#[]⟩, .slice none 0 0, .int .i64 0] 88
  have hne : w.heap.size ≠ b := by omega
  have hng : w.heap.size ≠ g := by omega
  have K : Kp b w (w.alloc (.cells #[.string ⟨#[]⟩, .slice none 0 0, .int .i64 0] 88)) := (Kp.refl b w).al _
  have hfit := take_fit h.ok 1
  have h1 := declared_any b g cap toks s _ A
  obtain ⟨dn, hdn⟩ : ∃ dn, (s.take 1).1.text = dn := ⟨_, rfl⟩
  obtain ⟨dp, hdp⟩ : ∃ dp, (s.take 1).1.pos = dp := ⟨_, rfl⟩
  have HN := hid hdn
  have HP := hid hdp
  rw [hdn, hdp] at h1
  rw [hdn, hdp] at hfit
  clear hdn hdp
  go_enter Tryz.func160, Tryz.ntmps160
  go_wp2_with (first
      | (go_at_call 117; (with_reducible refine h1.mono ?_); rintro r w1 ⟨rfl, A, k⟩; have K := K.trans k; have bR := k.box bR hne; have hz1 := ltB bR)
      | (go_at_call 121; (with_reducible refine (hB _ A K).mono ?_); rintro r w3 ⟨ad, cp, body, rfl, hclr, hBy, A, k⟩; have K := K.trans k; have bR := k.box bR hne; obtain ⟨x0, x1, x2, xf, xl⟩ := three bR))
  refine bodyPost_ret (v := .agg #[.string dn, .slice ad body.length cp, .int .i64 (dp : Int)]) ?_ rfl ⟨dn, ad, cp, body, dp, rfl, ?_, ?_, ?_, ?_⟩
  · simp [results, Tryz.results160, go_sem, x0, x1, x2]
  · unfold Me.clr; rw [hclr, HN.out, HP.out]
  · refine Me.By.mono (n := w1.heap.size) ?_ (Nat.le_of_lt hz1)
    refine ⟨len_of hfit.1, i64_nat hfit.2.2, ?_⟩
    refine Bl.By.kq hBy ?_
    repeat (first | with_reducible refine Kq.set ?_ (.inl (from_not hz1)) _ | with_reducible refine Kq.al ?_ _)
    with_reducible exact Kq.refl _ _
  · repeat (first | with_reducible refine Pz.At.put ?_ hne hng _ | with_reducible refine Pz.At.al ?_ _)
    exact A
  · repeat (first | with_reducible refine Kp.set ?_ (.inr (Nat.le_refl _)) _ | with_reducible refine Kp.set ?_ (.inl rfl) _ | with_reducible refine Kp.al ?_ _)
    with_reducible exact K
set_option maxRecDepth 100000 in
set_option maxHeartbeats 2000000 in
theorem role_any (y y' : Bl × S) (b g cap : Nat) (toks : List Out) (s : S) (w : World) (h : At b g cap toks s w)
    (hB1 : (s.take 1).2.sees s_star = true → ∀ W, At b g cap toks (s.take 1).2.pass W → Kp b w W → Calls Tryz.prog 121 #[.pointer (some ⟨b, 0, none⟩)] W (BlBack b g cap toks y W))
    (hB2 : (s.take 1).2.sees s_star = false → ∀ W, At b g cap toks ((s.take 1).2.take 2).2 W → Kp b w W → Calls Tryz.prog 121 #[.pointer (some ⟨b, 0, none⟩)] W (BlBack b g cap toks y' W)) :
    Calls Tryz.prog 73 #[.pointer (some ⟨b, 0, none⟩)] w (RoBk b g cap toks (if (s.take 1).2.sees s_star then (⟨(s.take 1).1.text, true, 0, y.1, (s.take 1).1.pos⟩, y.2) else (⟨(s.take 1).1.text, false, ((s.take 1).2.take 2).1.n, y'.1, (s.take 1).1.pos⟩, y'.2)) w) := by
  have hb := h.lt
  have hgl := h.glt
  have A := h.al (.cells #[.string ⟨#[]⟩, .bool false, .int .i64 0, .slice none 0 0, .int .i64 0] 62)
  have bR := newB w #[.string ⟨#[]⟩, .bool false, .int .i64 0, .slice none 0 0, .int .i64 0] 62
  have hne : w.heap.size ≠ b := by omega
  have hng : w.heap.size ≠ g := by omega
  have K : Kp b w (w.alloc (.cells #[.string ⟨#[]⟩, .bool false, .int .i64 0, .slice none 0 0, .int .i64 0] 62)) := (Kp.refl b w).al _
  have hfit := take_fit h.ok 1
  have h1 := declared_any b g cap toks s _ A
  obtain ⟨dn, hdn⟩ : ∃ dn, (s.take 1).1.text = dn := ⟨_, rfl⟩
  obtain ⟨dp, hdp⟩ : ∃ dp, (s.take 1).1.pos = dp := ⟨_, rfl⟩
  have HN := hid hdn
  have HP := hid hdp
  rw [hdn, hdp] at h1
  rw [hdn, hdp] at hfit
  clear hdn hdp
  have hfit2 := take_fit (h.ok.take 1) 2
  obtain ⟨R, hR⟩ : ∃ R, (if (s.take 1).2.sees s_star then ((⟨(s.take 1).1.text, true, 0, y.1, (s.take 1).1.pos⟩ : Ro), y.2) else (⟨(s.take 1).1.text, false, ((s.take 1).2.take 2).1.n, y'.1, (s.take 1).1.pos⟩, y'.2)) = R := ⟨_, rfl⟩
  rw [hR]
  rw [HN.out, HP.out] at hR
  cases q : (s.take 1).2.sees ⟨#[42]⟩
  · have HR : Hid (R = (⟨dn, false, ((s.take 1).2.take 2).1.n, y'.1, dp⟩, y'.2)) := by show _ = _; rw [← hR, if_neg (by rw [show (s.take 1).2.sees s_star = false from q]; decide)]
    have hBq := hB2 q
    have hnum : ∀ W, At b g cap toks (s.take 1).2 W → Calls Tryz.prog 120 #[.pointer (some ⟨b, 0, none⟩)] W fun e w' => e = .returned (.int .i64 ((s.take 1).2.take 2).1.n) ∧ At b g cap toks ((s.take 1).2.take 2).2 w' ∧ Kp b W w' := fun W hW => numTok_any b g cap toks _ W hW
    obtain ⟨cn, hcn⟩ : ∃ cn, ((s.take 1).2.take 2).1.n = cn := ⟨_, rfl⟩
    rw [hcn] at HR hfit2
    simp only [hcn] at hnum
    clear hR hB1 hB2 h hcn
    go_enter Tryz.func73, Tryz.ntmps73
    go_wp2_with (first
      | (go_at_call 117; (with_reducible refine h1.mono ?_); rintro r w1 ⟨rfl, A, k⟩; have K := K.trans k; have bR := k.box bR hne; have hlR := ltB bR; have A := A.al (.cells #[.string dn, .bool false, .int .i64 0, .slice none 0 0, .int .i64 (dp : Int)] 62); have K := K.al (.cells #[.string dn, .bool false, .int .i64 0, .slice none 0 0, .int .i64 (dp : Int)] 62); have bR := bel_box bR (bel_al _ (.cells #[.string dn, .bool false, .int .i64 0, .slice none 0 0, .int .i64 (dp : Int)] 62)); have bS := newB w1 #[.string dn, .bool false, .int .i64 0, .slice none 0 0, .int .i64 (dp : Int)] 62; have hnS : w1.heap.size ≠ b := (by omega); have hnS2 : w1.heap.size ≠ g := (by omega); have hnR : w.heap.size ≠ w1.heap.size := (by omega); have hnR2 : w1.heap.size ≠ w.heap.size := (by omega); have hSw : w.heap.size ≤ w1.heap.size := (by omega); obtain ⟨y0, y1, y2, y3, y4, yf, yl⟩ := five bS)
      | (go_at_call 69; (with_reducible refine (sees_any _ b g cap toks _ _ A).mono ?_); rintro r w2 ⟨rfl, b1⟩; have A := A.below b1; have K := K.tr b1; have bR := bel_box bR b1; have bS := bel_box bS b1; obtain ⟨y0, y1, y2, y3, y4, yf, yl⟩ := five bS)
      | (go_at_call 120; (with_reducible refine (hnum _ A).mono ?_); rintro r w3 ⟨rfl, A, k⟩; have K := K.trans k; have bR := k.box bR hne; have bS := k.box bS hnS; obtain ⟨y0, y1, y2, y3, y4, yf, yl⟩ := five bS; have A := A.put (p := ⟨w1.heap.size, 2, none⟩) hnS hnS2 (.int .i64 cn); have K := K.set (p := ⟨w1.heap.size, 2, none⟩) (.inr hSw) (.int .i64 cn); have bR := set_box (j := w1.heap.size) (i := 2) bR hnR (.int .i64 cn); have bS := setBx (i := 2) (c2 := #[.string dn, .bool false, .int .i64 cn, .slice none 0 0, .int .i64 (dp : Int)]) bS (.int .i64 cn) rfl; have hz1 := ltB bR; have hzS := ltB bS)
      | (go_at_call 121; (with_reducible refine (hBq _ A K).mono ?_); rintro r w5 ⟨ad, cp, body, rfl, hclr, hBy, A, k⟩; have K := K.trans k; have bR := k.box bR hne; have bS := k.box bS hnS; obtain ⟨y0, y1, y2, y3, y4, yf, yl⟩ := five bS; obtain ⟨x0, x1, x2, x3, x4, xf, xl⟩ := five bR))
    rw [HR.out]
    refine bodyPost_ret (v := .agg #[.string dn, .bool false, .int .i64 cn, .slice ad body.length cp, .int .i64 (dp : Int)]) ?_ rfl ⟨dn, false, cn, ad, cp, body, dp, rfl, ?_, ?_, ?_, ?_⟩
    · simp [results, Tryz.results73, go_sem, x0, x1, x2, x3, x4]
    · unfold Ro.clr; rw [hclr]
    · refine Ro.By.mono (n := (w3.setCell ⟨w1.heap.size, 2, none⟩ (.int .i64 cn)).heap.size) ?_ (Nat.le_of_lt hz1)
      refine ⟨len_of hfit.1, hfit2.2.1, i64_nat hfit.2.2, ?_⟩
      have hpR := from_not hz1
      have hpS := from_not hzS
      refine Bl.By.kq hBy ?_
      repeat (first | with_reducible refine Kq.set ?_ (.inl hpR) _ | with_reducible refine Kq.set ?_ (.inl hpS) _ | with_reducible refine Kq.al ?_ _)
      with_reducible exact Kq.refl _ _
    · repeat (first | with_reducible refine Pz.At.put ?_ hne hng _ | with_reducible refine Pz.At.put ?_ hnS hnS2 _ | with_reducible refine Pz.At.al ?_ _)
      exact A
    · repeat (first | with_reducible refine Kp.set ?_ (.inr (Nat.le_refl _)) _ | with_reducible refine Kp.set ?_ (.inr hSw) _ | with_reducible refine Kp.al ?_ _)
      with_reducible exact K
  · have HR : Hid (R = (⟨dn, true, 0, y.1, dp⟩, y.2)) := by show _ = _; rw [← hR, if_pos (show (s.take 1).2.sees s_star = true from q)]
    have hBq := hB1 q
    clear hR hB1 hB2 h
    go_enter Tryz.func73, Tryz.ntmps73
    go_wp2_with (first
      | (go_at_call 117; (with_reducible refine h1.mono ?_); rintro r w1 ⟨rfl, A, k⟩; have K := K.trans k; have bR := k.box bR hne; have hlR := ltB bR; have A := A.al (.cells #[.string dn, .bool false, .int .i64 0, .slice none 0 0, .int .i64 (dp : Int)] 62); have K := K.al (.cells #[.string dn, .bool false, .int .i64 0, .slice none 0 0, .int .i64 (dp : Int)] 62); have bR := bel_box bR (bel_al _ (.cells #[.string dn, .bool false, .int .i64 0, .slice none 0 0, .int .i64 (dp : Int)] 62)); have bS := newB w1 #[.string dn, .bool false, .int .i64 0, .slice none 0 0, .int .i64 (dp : Int)] 62; have hnS : w1.heap.size ≠ b := (by omega); have hnS2 : w1.heap.size ≠ g := (by omega); have hnR : w.heap.size ≠ w1.heap.size := (by omega); have hnR2 : w1.heap.size ≠ w.heap.size := (by omega); have hSw : w.heap.size ≤ w1.heap.size := (by omega); obtain ⟨y0, y1, y2, y3, y4, yf, yl⟩ := five bS)
      | (go_at_call 69; (with_reducible refine (sees_any _ b g cap toks _ _ A).mono ?_); rintro r w2 ⟨rfl, b1⟩; have A := A.below b1; have K := K.tr b1; have bR := bel_box bR b1; have bS := bel_box bS b1; obtain ⟨y0, y1, y2, y3, y4, yf, yl⟩ := five bS)
      | (go_at_call 110; (with_reducible refine (pass_any b g cap toks _ _ A).mono ?_); rintro r w3 ⟨rfl, A, k⟩; have K := K.trans k; have bR := k.box bR hne; have bS := k.box bS hnS; obtain ⟨y0, y1, y2, y3, y4, yf, yl⟩ := five bS; have A := A.put (p := ⟨w1.heap.size, 1, none⟩) hnS hnS2 (.bool true); have K := K.set (p := ⟨w1.heap.size, 1, none⟩) (.inr hSw) (.bool true); have bR := set_box (j := w1.heap.size) (i := 1) bR hnR (.bool true); have bS := setBx (i := 1) (c2 := #[.string dn, .bool true, .int .i64 0, .slice none 0 0, .int .i64 (dp : Int)]) bS (.bool true) rfl; have hz1 := ltB bR; have hzS := ltB bS)
      | (go_at_call 121; (with_reducible refine (hBq _ A K).mono ?_); rintro r w5 ⟨ad, cp, body, rfl, hclr, hBy, A, k⟩; have K := K.trans k; have bR := k.box bR hne; have bS := k.box bS hnS; obtain ⟨y0, y1, y2, y3, y4, yf, yl⟩ := five bS; obtain ⟨x0, x1, x2, x3, x4, xf, xl⟩ := five bR))
    rw [HR.out]
    refine bodyPost_ret (v := .agg #[.string dn, .bool true, .int .i64 0, .slice ad body.length cp, .int .i64 (dp : Int)]) ?_ rfl ⟨dn, true, 0, ad, cp, body, dp, rfl, ?_, ?_, ?_, ?_⟩
    · simp [results, Tryz.results73, go_sem, x0, x1, x2, x3, x4]
    · unfold Ro.clr; rw [hclr]
    · refine Ro.By.mono (n := (w3.setCell ⟨w1.heap.size, 1, none⟩ (.bool true)).heap.size) ?_ (Nat.le_of_lt hz1)
      refine ⟨len_of hfit.1, (by show I64 0; unfold I64; decide), i64_nat hfit.2.2, ?_⟩
      have hpR := from_not hz1
      have hpS := from_not hzS
      refine Bl.By.kq hBy ?_
      repeat (first | with_reducible refine Kq.set ?_ (.inl hpR) _ | with_reducible refine Kq.set ?_ (.inl hpS) _ | with_reducible refine Kq.al ?_ _)
      with_reducible exact Kq.refl _ _
    · repeat (first | with_reducible refine Pz.At.put ?_ hne hng _ | with_reducible refine Pz.At.put ?_ hnS hnS2 _ | with_reducible refine Pz.At.al ?_ _)
      exact A
    · repeat (first | with_reducible refine Kp.set ?_ (.inr (Nat.le_refl _)) _ | with_reducible refine Kp.set ?_ (.inr hSw) _ | with_reducible refine Kp.al ?_ _)
      with_reducible exact K
end Go.Proofs.YtaekbgljbgmchaaGreatDoor
