/-
  loop, while, sync, set of package parse.
-/
import Derived.Test.YtaekbgljbgmchaaGreatDoorPzO
namespace Go.Proofs.YtaekbgljbgmchaaGreatDoor
open Go.RowKit
open Lx (Out)
open Pz
theorem past_from {n m k p : Nat} (h : from_ n k = true) (hm : m < n) (hp : k ≠ p) : past m p k = true := past_iff.2 ⟨Nat.lt_of_lt_of_le hm (from_iff.1 h), hp⟩
set_option maxRecDepth 100000 in
set_option maxHeartbeats 2000000 in
theorem loopSt_any (y : Bl × S) (b g cap : Nat) (toks : List Out) (s : S) (w : World) (h : At b g cap toks s w)
    (hB : ∀ W, At b g cap toks (s.want k_loop) W → Kp b w W → Calls Tryz.prog 121 #[.pointer (some ⟨b, 0, none⟩)] W (BlBack b g cap toks y W)) :
    Calls Tryz.prog 202 #[.pointer (some ⟨b, 0, none⟩)] w (StBack b g cap toks (st 5 e0 e0 0 exZ [y.1] 0, y.2) w) := by
  have hb := h.lt
  have hgl := h.glt
  have A := h.al (.cells #[.int .i64 0, .string ⟨#[]⟩, .string ⟨#[]⟩, .int .i64 0, .int .i64 0, .string ⟨#[]⟩, .string ⟨#[]⟩, .int .i64 0, .slice none 0 0, .int .i64 0, .slice none 0 0, .int .i64 0] 108)
  have bR := newB w #[.int .i64 0, .string ⟨#[]⟩, .string ⟨#[]⟩, .int .i64 0, .int .i64 0, .string ⟨#[]⟩, .string ⟨#[]⟩, .int .i64 0, .slice none 0 0, .int .i64 0, .slice none 0 0, .int .i64 0] 108
  have hne : w.heap.size ≠ b := by omega
  have hng : w.heap.size ≠ g := by omega
  have K : Kp b w (w.alloc (.cells #[.int .i64 0, .string ⟨#[]⟩, .string ⟨#[]⟩, .int .i64 0, .int .i64 0, .string ⟨#[]⟩, .string ⟨#[]⟩, .int .i64 0, .slice none 0 0, .int .i64 0, .slice none 0 0, .int .i64 0] 108)) := (Kp.refl b w).al _
  go_enter Tryz.func202, Tryz.ntmps202
  go_wp2_with (first
      | (go_at_call 156; (with_reducible refine (want_any ⟨#[108, 111, 111, 112]⟩ b g cap toks s _ A).mono ?_); rintro r w1 ⟨rfl, A, k⟩; have A : At b g cap toks (s.want k_loop) w1 := A; have K := K.trans k; have bR := k.box bR hne; have hz1 := ltB bR)
      | (go_at_call 121; (with_reducible refine (hB _ A K).mono ?_); rintro r w3 ⟨bad, bcp, body, rfl, hclr, hBy, A, k⟩; have K := K.trans k; have bR := k.box bR hne; obtain ⟨⟨x0, x1, x2, x3, x4, x5, x6, x7, x8, x9, x10, x11⟩, xf, xl⟩ := twelve bR))
  refine bodyPost_ret (v := .agg #[.int .i64 5, .string ⟨#[]⟩, .string ⟨#[]⟩, .int .i64 0, .int .i64 0, .string ⟨#[]⟩, .string ⟨#[]⟩, .int .i64 0, .slice none 0 0, .int .i64 0, .slice (some ⟨w3.heap.size, 0, none⟩) 1 1, .int .i64 0]) ?_ rfl ⟨5, ⟨#[]⟩, ⟨#[]⟩, 0, 0, ⟨#[]⟩, ⟨#[]⟩, 0, none, 0, [], 0, some ⟨w3.heap.size, 0, none⟩, 1, [.mk bad bcp body], 0, rfl, ?_, ?_, ?_, ?_⟩
  · simp [results, Tryz.results202, go_sem, x0, x1, x2, x3, x4, x5, x6, x7, x8, x9, x10, x11, xl]
  · rw [St.clr, Ex.clr, Ex.clrL, Bl.clrL, Bl.clrL, hclr]; rfl
  · refine StBy.one (k := w3.heap.size) (T := 60) (from_iff.2 K.size) ⟨i64_small (by decide) (by decide), i64_small (by decide) (by decide), i64_small (by decide) (by decide), len_e0, len_e0⟩ By.zero (newB' _ _ _ _ (by simp)) ?_
    refine (Bl.By.kq hBy ?_).mono (Nat.le_of_lt hz1)
    repeat (first | with_reducible refine Kq.set ?_ (.inl (from_not hz1)) _ | with_reducible refine Kq.al ?_ _)
    with_reducible exact Kq.refl _ _
  · repeat (first | with_reducible refine Pz.At.put ?_ hne hng _ | with_reducible refine Pz.At.al ?_ _)
    exact A
  · repeat (first | with_reducible refine Kp.set ?_ (.inr (Nat.le_refl _)) _ | with_reducible refine Kp.set ?_ (.inl rfl) _ | with_reducible refine Kp.al ?_ _)
    with_reducible exact K
set_option maxRecDepth 100000 in
set_option maxHeartbeats 2000000 in
theorem sync_any (y : Bl × S) (b g cap : Nat) (toks : List Out) (s : S) (w : World) (h : At b g cap toks s w)
    (hB : ∀ W, At b g cap toks ((s.want k_sync).take 1).2 W → Kp b w W → Calls Tryz.prog 121 #[.pointer (some ⟨b, 0, none⟩)] W (BlBack b g cap toks y W)) :
    Calls Tryz.prog 204 #[.pointer (some ⟨b, 0, none⟩)] w (StBack b g cap toks (st 7 ((s.want k_sync).take 1).1.text e0 0 exZ [y.1] 0, y.2) w) := by
  have hb := h.lt
  have hgl := h.glt
  have A := h.al (.cells #[.int .i64 0, .string ⟨#[]⟩, .string ⟨#[]⟩, .int .i64 0, .int .i64 0, .string ⟨#[]⟩, .string ⟨#[]⟩, .int .i64 0, .slice none 0 0, .int .i64 0, .slice none 0 0, .int .i64 0] 108)
  have bR := newB w #[.int .i64 0, .string ⟨#[]⟩, .string ⟨#[]⟩, .int .i64 0, .int .i64 0, .string ⟨#[]⟩, .string ⟨#[]⟩, .int .i64 0, .slice none 0 0, .int .i64 0, .slice none 0 0, .int .i64 0] 108
  have hne : w.heap.size ≠ b := by omega
  have hng : w.heap.size ≠ g := by omega
  have K : Kp b w (w.alloc (.cells #[.int .i64 0, .string ⟨#[]⟩, .string ⟨#[]⟩, .int .i64 0, .int .i64 0, .string ⟨#[]⟩, .string ⟨#[]⟩, .int .i64 0, .slice none 0 0, .int .i64 0, .slice none 0 0, .int .i64 0] 108)) := (Kp.refl b w).al _
  have hfit := (take_fit (h.ok.want k_sync) 1).1
  obtain ⟨mn, hmn⟩ : ∃ mn, ((s.want k_sync).take 1).1.text = mn := ⟨_, rfl⟩
  have HM := hid hmn
  rw [hmn] at hfit
  have hna : ∀ W, At b g cap toks (s.want ⟨#[115, 121, 110, 99]⟩) W → Calls Tryz.prog 193 #[.pointer (some ⟨b, 0, none⟩)] W fun e w' => e = .returned (.string mn) ∧ At b g cap toks ((s.want k_sync).take 1).2 w' ∧ Kp b W w' := fun W hW => by
    have := nameTok_any b g cap toks _ W hW
    rw [show ((s.want ⟨#[115, 121, 110, 99]⟩).take 1).1.text = mn from hmn] at this
    exact this
  clear hmn
  go_enter Tryz.func204, Tryz.ntmps204
  go_wp2_with (first
      | (go_at_call 156; (with_reducible refine (want_any ⟨#[115, 121, 110, 99]⟩ b g cap toks s _ A).mono ?_); rintro r w1 ⟨rfl, A, k⟩; have K := K.trans k; have bR := k.box bR hne)
      | (go_at_call 193; (with_reducible refine (hna _ A).mono ?_); rintro r w1 ⟨rfl, A, k⟩; have K := K.trans k; have bR := k.box bR hne; have hlR := ltB bR; have A := A.al (.cells #[.int .i64 7, .string mn, .string ⟨#[]⟩, .int .i64 0, .int .i64 0, .string ⟨#[]⟩, .string ⟨#[]⟩, .int .i64 0, .slice none 0 0, .int .i64 0, .slice none 0 0, .int .i64 0] 108); have K := K.al (.cells #[.int .i64 7, .string mn, .string ⟨#[]⟩, .int .i64 0, .int .i64 0, .string ⟨#[]⟩, .string ⟨#[]⟩, .int .i64 0, .slice none 0 0, .int .i64 0, .slice none 0 0, .int .i64 0] 108); have bR := bel_box bR (bel_al _ (.cells #[.int .i64 7, .string mn, .string ⟨#[]⟩, .int .i64 0, .int .i64 0, .string ⟨#[]⟩, .string ⟨#[]⟩, .int .i64 0, .slice none 0 0, .int .i64 0, .slice none 0 0, .int .i64 0] 108)); have bS := newB w1 #[.int .i64 7, .string mn, .string ⟨#[]⟩, .int .i64 0, .int .i64 0, .string ⟨#[]⟩, .string ⟨#[]⟩, .int .i64 0, .slice none 0 0, .int .i64 0, .slice none 0 0, .int .i64 0] 108; have hnS : w1.heap.size ≠ b := (by omega); have hnS2 : w1.heap.size ≠ g := (by omega); have hnR : w.heap.size ≠ w1.heap.size := (by omega); have hSw : w.heap.size ≤ w1.heap.size := (by omega); obtain ⟨⟨y0, y1, y2, y3, y4, y5, y6, y7, y8, y9, y10, y11⟩, yf, yl⟩ := twelve bS; have hz1 := ltB bR; have hzS := ltB bS)
      | (go_at_call 121; (with_reducible refine (hB _ A K).mono ?_); rintro r w3 ⟨bad, bcp, body, rfl, hclr, hBy, A, k⟩; have K := K.trans k; have bR := k.box bR hne; have bS := k.box bS hnS; obtain ⟨⟨y0, y1, y2, y3, y4, y5, y6, y7, y8, y9, y10, y11⟩, yf, yl⟩ := twelve bS; obtain ⟨⟨x0, x1, x2, x3, x4, x5, x6, x7, x8, x9, x10, x11⟩, xf, xl⟩ := twelve bR; have hnS3 : w1.heap.size ≠ w.heap.size := (by omega)))
  refine bodyPost_ret (v := .agg #[.int .i64 7, .string mn, .string ⟨#[]⟩, .int .i64 0, .int .i64 0, .string ⟨#[]⟩, .string ⟨#[]⟩, .int .i64 0, .slice none 0 0, .int .i64 0, .slice (some ⟨w3.heap.size, 0, none⟩) 1 1, .int .i64 0]) ?_ rfl ⟨7, mn, ⟨#[]⟩, 0, 0, ⟨#[]⟩, ⟨#[]⟩, 0, none, 0, [], 0, some ⟨w3.heap.size, 0, none⟩, 1, [.mk bad bcp body], 0, rfl, ?_, ?_, ?_, ?_⟩
  · simp [results, Tryz.results204, go_sem, x0, x1, x2, x3, x4, x5, x6, x7, x8, x9, x10, x11, xl]
  · rw [St.clr, Ex.clr, Ex.clrL, Bl.clrL, Bl.clrL, hclr, ← HM.out]; rfl
  · refine StBy.one (k := w3.heap.size) (T := 60) (from_iff.2 K.size) ⟨i64_small (by decide) (by decide), i64_small (by decide) (by decide), i64_small (by decide) (by decide), len_of hfit, len_e0⟩ By.zero (newB' _ _ _ _ (by simp)) ?_
    have hpR := from_not hz1
    have hpS := from_not hzS
    refine (Bl.By.kq hBy ?_).mono (Nat.le_of_lt hz1)
    repeat (first | with_reducible refine Kq.set ?_ (.inl hpR) _ | with_reducible refine Kq.set ?_ (.inl hpS) _ | with_reducible refine Kq.al ?_ _)
    with_reducible exact Kq.refl _ _
  · repeat (first | with_reducible refine Pz.At.put ?_ hne hng _ | with_reducible refine Pz.At.put ?_ hnS hnS2 _ | with_reducible refine Pz.At.al ?_ _)
    exact A
  · repeat (first | with_reducible refine Kp.set ?_ (.inr (Nat.le_refl _)) _ | with_reducible refine Kp.set ?_ (.inr hSw) _ | with_reducible refine Kp.al ?_ _)
    with_reducible exact K
set_option maxRecDepth 100000 in
set_option maxHeartbeats 2000000 in
theorem while_any (x : Ex × S) (y : Bl × S) (b g cap : Nat) (toks : List Out) (s : S) (w : World) (h : At b g cap toks s w)
    (hE : ∀ W, At b g cap toks (s.want k_while) W → Kp b w W → Calls Tryz.prog 30 #[.pointer (some ⟨b, 0, none⟩)] W (ExBack b g cap toks x W)) (hB : ∀ W, At b g cap toks x.2 W → Kp b w W → Calls Tryz.prog 121 #[.pointer (some ⟨b, 0, none⟩)] W (BlBack b g cap toks y W)) :
    Calls Tryz.prog 201 #[.pointer (some ⟨b, 0, none⟩)] w (StBack b g cap toks (st 4 e0 e0 0 x.1 [y.1] 0, y.2) w) := by
  have hb := h.lt
  have hgl := h.glt
  have A := h.al (.cells #[.int .i64 0, .string ⟨#[]⟩, .string ⟨#[]⟩, .int .i64 0, .int .i64 0, .string ⟨#[]⟩, .string ⟨#[]⟩, .int .i64 0, .slice none 0 0, .int .i64 0, .slice none 0 0, .int .i64 0] 108)
  have bR := newB w #[.int .i64 0, .string ⟨#[]⟩, .string ⟨#[]⟩, .int .i64 0, .int .i64 0, .string ⟨#[]⟩, .string ⟨#[]⟩, .int .i64 0, .slice none 0 0, .int .i64 0, .slice none 0 0, .int .i64 0] 108
  have hne : w.heap.size ≠ b := by omega
  have hng : w.heap.size ≠ g := by omega
  have K : Kp b w (w.alloc (.cells #[.int .i64 0, .string ⟨#[]⟩, .string ⟨#[]⟩, .int .i64 0, .int .i64 0, .string ⟨#[]⟩, .string ⟨#[]⟩, .int .i64 0, .slice none 0 0, .int .i64 0, .slice none 0 0, .int .i64 0] 108)) := (Kp.refl b w).al _
  go_enter Tryz.func201, Tryz.ntmps201
  go_wp2_with (first
      | (go_at_call 156; (with_reducible refine (want_any ⟨#[119, 104, 105, 108, 101]⟩ b g cap toks s _ A).mono ?_); rintro r w1 ⟨rfl, A, k⟩; have A : At b g cap toks (s.want k_while) w1 := A; have K := K.trans k; have bR := k.box bR hne)
      | (go_at_call 30; (with_reducible refine (hE _ A K).mono ?_); rintro r w1 ⟨eop, emon, ename, en, ead, ecp, ekids, epos, rfl, heclr, heBy, A, k⟩; have hzE := ltB bR; have K := K.trans k; have bR := k.box bR hne; have hlR := ltB bR; have A := A.al (.cells #[.int .i64 4, .string ⟨#[]⟩, .string ⟨#[]⟩, .int .i64 0, .int .i64 eop, .string emon, .string ename, .int .i64 en, .slice ead ekids.length ecp, .int .i64 epos, .slice none 0 0, .int .i64 0] 108); have K := K.al (.cells #[.int .i64 4, .string ⟨#[]⟩, .string ⟨#[]⟩, .int .i64 0, .int .i64 eop, .string emon, .string ename, .int .i64 en, .slice ead ekids.length ecp, .int .i64 epos, .slice none 0 0, .int .i64 0] 108); have bR := bel_box bR (bel_al _ (.cells #[.int .i64 4, .string ⟨#[]⟩, .string ⟨#[]⟩, .int .i64 0, .int .i64 eop, .string emon, .string ename, .int .i64 en, .slice ead ekids.length ecp, .int .i64 epos, .slice none 0 0, .int .i64 0] 108)); have bS := newB w1 #[.int .i64 4, .string ⟨#[]⟩, .string ⟨#[]⟩, .int .i64 0, .int .i64 eop, .string emon, .string ename, .int .i64 en, .slice ead ekids.length ecp, .int .i64 epos, .slice none 0 0, .int .i64 0] 108; have hnS : w1.heap.size ≠ b := (by omega); have hnS2 : w1.heap.size ≠ g := (by omega); have hnR : w.heap.size ≠ w1.heap.size := (by omega); have hSw : w.heap.size ≤ w1.heap.size := (by omega); obtain ⟨⟨y0, y1, y2, y3, y4, y5, y6, y7, y8, y9, y10, y11⟩, yf, yl⟩ := twelve bS; have hz1 := ltB bR; have hzS := ltB bS)
      | (go_at_call 121; (with_reducible refine (hB _ A K).mono ?_); rintro r w3 ⟨bad, bcp, body, rfl, hclr, hBy, A, k⟩; have K := K.trans k; have bR := k.box bR hne; have bS := k.box bS hnS; obtain ⟨⟨y0, y1, y2, y3, y4, y5, y6, y7, y8, y9, y10, y11⟩, yf, yl⟩ := twelve bS; obtain ⟨⟨x0, x1, x2, x3, x4, x5, x6, x7, x8, x9, x10, x11⟩, xf, xl⟩ := twelve bR; have hnS3 : w1.heap.size ≠ w.heap.size := (by omega)))
  refine bodyPost_ret (v := .agg #[.int .i64 4, .string ⟨#[]⟩, .string ⟨#[]⟩, .int .i64 0, .int .i64 eop, .string emon, .string ename, .int .i64 en, .slice ead ekids.length ecp, .int .i64 epos, .slice (some ⟨w3.heap.size, 0, none⟩) 1 1, .int .i64 0]) ?_ rfl ⟨4, ⟨#[]⟩, ⟨#[]⟩, 0, eop, emon, ename, en, ead, ecp, ekids, epos, some ⟨w3.heap.size, 0, none⟩, 1, [.mk bad bcp body], 0, rfl, ?_, ?_, ?_, ?_⟩
  · simp [results, Tryz.results201, go_sem, x0, x1, x2, x3, x4, x5, x6, x7, x8, x9, x10, x11, xl]
  · rw [St.clr, heclr, Bl.clrL, Bl.clrL, hclr]; rfl
  · have hpR : past w.heap.size w1.heap.size w.heap.size = false := past_le (Nat.le_refl _)
    have hpS : past w.heap.size w1.heap.size w1.heap.size = false := past_eq
    have hpb : past w.heap.size w1.heap.size b = false := past_le (by omega)
    refine St.By.weak (Q := past w.heap.size w1.heap.size) ?_ (fun k hk _ => from_iff.2 (Nat.le_of_lt (past_iff.1 hk).1))
    refine StBy.one (k := w3.heap.size) (T := 60) (past_iff.2 ⟨by omega, by omega⟩) ⟨i64_small (by decide) (by decide), i64_small (by decide) (by decide), i64_small (by decide) (by decide), len_e0, len_e0⟩ ?_ (newB' _ _ _ _ (by simp)) ?_
    · refine Ex.By.kq (Ex.By.weak heBy (fun k hk hl => past_from hk hzE (by omega))) ?_
      repeat (first | with_reducible refine Kq.set ?_ (.inl hpR) _ | with_reducible refine Kq.set ?_ (.inl hpS) _ | with_reducible refine Kq.al ?_ _)
      exact ((Kq.refl _ _).al _).kp k hpb
    · refine Bl.By.kq (Bl.By.weak hBy (fun k hk hl => past_from hk hz1 (by have := from_iff.1 hk; omega))) ?_
      repeat (first | with_reducible refine Kq.set ?_ (.inl hpR) _ | with_reducible refine Kq.set ?_ (.inl hpS) _ | with_reducible refine Kq.al ?_ _)
      with_reducible exact Kq.refl _ _
  · repeat (first | with_reducible refine Pz.At.put ?_ hne hng _ | with_reducible refine Pz.At.put ?_ hnS hnS2 _ | with_reducible refine Pz.At.al ?_ _)
    exact A
  · repeat (first | with_reducible refine Kp.set ?_ (.inr (Nat.le_refl _)) _ | with_reducible refine Kp.set ?_ (.inr hSw) _ | with_reducible refine Kp.al ?_ _)
    with_reducible exact K
set_option maxRecDepth 100000 in
set_option maxHeartbeats 2000000 in
theorem set_any (x : Ex × S) (b g cap : Nat) (toks : List Out) (s : S) (w : World) (h : At b g cap toks s w)
    (hE : ∀ W, At b g cap toks ((path s).2.want s_eq) W → Kp b w W → Calls Tryz.prog 30 #[.pointer (some ⟨b, 0, none⟩)] W (ExBack b g cap toks x W)) :
    Calls Tryz.prog 198 #[.pointer (some ⟨b, 0, none⟩)] w (StBack b g cap toks (st 2 (path s).1.1 (path s).1.2 0 x.1 [] 0, x.2.want s_semi) w) := by
  have hb := h.lt
  have hgl := h.glt
  have A := h.al (.cells #[.int .i64 0, .string ⟨#[]⟩, .string ⟨#[]⟩, .int .i64 0, .int .i64 0, .string ⟨#[]⟩, .string ⟨#[]⟩, .int .i64 0, .slice none 0 0, .int .i64 0, .slice none 0 0, .int .i64 0] 108)
  have bR := newB w #[.int .i64 0, .string ⟨#[]⟩, .string ⟨#[]⟩, .int .i64 0, .int .i64 0, .string ⟨#[]⟩, .string ⟨#[]⟩, .int .i64 0, .slice none 0 0, .int .i64 0, .slice none 0 0, .int .i64 0] 108
  have hne : w.heap.size ≠ b := by omega
  have hng : w.heap.size ≠ g := by omega
  have K : Kp b w (w.alloc (.cells #[.int .i64 0, .string ⟨#[]⟩, .string ⟨#[]⟩, .int .i64 0, .int .i64 0, .string ⟨#[]⟩, .string ⟨#[]⟩, .int .i64 0, .slice none 0 0, .int .i64 0, .slice none 0 0, .int .i64 0] 108)) := (Kp.refl b w).al _
  have hpl := path_fit h.ok
  obtain ⟨pm, hpm⟩ : ∃ pm, (path s).1.1 = pm := ⟨_, rfl⟩
  obtain ⟨pn, hpn⟩ : ∃ pn, (path s).1.2 = pn := ⟨_, rfl⟩
  have HM := hid hpm
  have HN := hid hpn
  rw [hpm, hpn] at hpl
  have hpa : ∀ W, At b g cap toks s W → Calls Tryz.prog 174 #[.pointer (some ⟨b, 0, none⟩)] W fun e w' => e = .returned (.tuple #[.string pm, .string pn]) ∧ At b g cap toks (path s).2 w' ∧ Kp b W w' := fun W hW => by
    have := path_any b g cap toks _ W hW
    rw [hpm, hpn] at this
    exact this
  clear hpm hpn
  have hlR := ltB bR
  have bS := newB' (w.alloc (.cells #[.int .i64 0, .string ⟨#[]⟩, .string ⟨#[]⟩, .int .i64 0, .int .i64 0, .string ⟨#[]⟩, .string ⟨#[]⟩, .int .i64 0, .slice none 0 0, .int .i64 0, .slice none 0 0, .int .i64 0] 108)) #[.int .i64 2, .string ⟨#[]⟩, .string ⟨#[]⟩, .int .i64 0, .int .i64 0, .string ⟨#[]⟩, .string ⟨#[]⟩, .int .i64 0, .slice none 0 0, .int .i64 0, .slice none 0 0, .int .i64 0] 108 (w.heap.size + 1) (by simp)
  have A := A.al (.cells #[.int .i64 2, .string ⟨#[]⟩, .string ⟨#[]⟩, .int .i64 0, .int .i64 0, .string ⟨#[]⟩, .string ⟨#[]⟩, .int .i64 0, .slice none 0 0, .int .i64 0, .slice none 0 0, .int .i64 0] 108)
  have K := K.al (.cells #[.int .i64 2, .string ⟨#[]⟩, .string ⟨#[]⟩, .int .i64 0, .int .i64 0, .string ⟨#[]⟩, .string ⟨#[]⟩, .int .i64 0, .slice none 0 0, .int .i64 0, .slice none 0 0, .int .i64 0] 108)
  have bR := bel_box bR (bel_al _ (.cells #[.int .i64 2, .string ⟨#[]⟩, .string ⟨#[]⟩, .int .i64 0, .int .i64 0, .string ⟨#[]⟩, .string ⟨#[]⟩, .int .i64 0, .slice none 0 0, .int .i64 0, .slice none 0 0, .int .i64 0] 108))
  have hnS : w.heap.size + 1 ≠ b := by omega
  have hnS2 : w.heap.size + 1 ≠ g := by omega
  have hnR : w.heap.size ≠ w.heap.size + 1 := by omega
  have hSw : w.heap.size ≤ w.heap.size + 1 := by omega
  obtain ⟨⟨y0, y1, y2, y3, y4, y5, y6, y7, y8, y9, y10, y11⟩, yf, yl⟩ := twelve bS
  go_enter Tryz.func198, Tryz.ntmps198
  go_wp2_with (first
      | (go_at_call 174; (with_reducible refine (hpa _ A).mono ?_); rintro r w1 ⟨rfl, A, k⟩; have K := K.trans k; have bR := k.box bR hne; have bS := k.box bS hnS; obtain ⟨⟨y0, y1, y2, y3, y4, y5, y6, y7, y8, y9, y10, y11⟩, yf, yl⟩ := twelve bS; have A := (A.put (p := ⟨w.heap.size + 1, 1, none⟩) hnS hnS2 (.string pm)).put (p := ⟨w.heap.size + 1, 2, none⟩) hnS hnS2 (.string pn); have K := (K.set (p := ⟨w.heap.size + 1, 1, none⟩) (.inr hSw) (.string pm)).set (p := ⟨w.heap.size + 1, 2, none⟩) (.inr hSw) (.string pn); have bR := set_box (j := w.heap.size + 1) (i := 2) (set_box (j := w.heap.size + 1) (i := 1) bR hnR (.string pm)) hnR (.string pn); have bS := setBx (i := 2) (c2 := #[.int .i64 2, .string pm, .string pn, .int .i64 0, .int .i64 0, .string ⟨#[]⟩, .string ⟨#[]⟩, .int .i64 0, .slice none 0 0, .int .i64 0, .slice none 0 0, .int .i64 0]) (setBx (i := 1) (c2 := #[.int .i64 2, .string pm, .string ⟨#[]⟩, .int .i64 0, .int .i64 0, .string ⟨#[]⟩, .string ⟨#[]⟩, .int .i64 0, .slice none 0 0, .int .i64 0, .slice none 0 0, .int .i64 0]) bS (.string pm) rfl) (.string pn) rfl)
      | (go_at_call 156; (with_reducible refine (want_any ⟨#[61]⟩ b g cap toks _ _ A).mono ?_); rintro r w2 ⟨rfl, A, k⟩; have A : At b g cap toks ((path s).2.want s_eq) w2 := A; have K := K.trans k; have bR := k.box bR hne; have bS := k.box bS hnS; have hz1 := ltB bR; have hzS := ltB bS; have hzb := A.lt)
      | (go_at_call 30; (with_reducible refine (hE _ A K).mono ?_); rintro r w3 ⟨eop, emon, ename, en, ead, ecp, ekids, epos, rfl, heclr, heBy, A, k⟩; have K := K.trans k; have bR := k.box bR hne; have bS := k.box bS hnS; obtain ⟨⟨y0, y1, y2, y3, y4, y5, y6, y7, y8, y9, y10, y11⟩, yf, yl⟩ := twelve bS; have A := ((((((A.put (p := ⟨w.heap.size + 1, 4, none⟩) hnS hnS2 (.int .i64 eop)).put (p := ⟨w.heap.size + 1, 5, none⟩) hnS hnS2 (.string emon)).put (p := ⟨w.heap.size + 1, 6, none⟩) hnS hnS2 (.string ename)).put (p := ⟨w.heap.size + 1, 7, none⟩) hnS hnS2 (.int .i64 en)).put (p := ⟨w.heap.size + 1, 8, none⟩) hnS hnS2 (.slice ead ekids.length ecp)).put (p := ⟨w.heap.size + 1, 9, none⟩) hnS hnS2 (.int .i64 epos)); have K := ((((((K.set (p := ⟨w.heap.size + 1, 4, none⟩) (.inr hSw) (.int .i64 eop)).set (p := ⟨w.heap.size + 1, 5, none⟩) (.inr hSw) (.string emon)).set (p := ⟨w.heap.size + 1, 6, none⟩) (.inr hSw) (.string ename)).set (p := ⟨w.heap.size + 1, 7, none⟩) (.inr hSw) (.int .i64 en)).set (p := ⟨w.heap.size + 1, 8, none⟩) (.inr hSw) (.slice ead ekids.length ecp)).set (p := ⟨w.heap.size + 1, 9, none⟩) (.inr hSw) (.int .i64 epos)); have bR := (set_box (j := w.heap.size + 1) (i := 9) (set_box (j := w.heap.size + 1) (i := 8) (set_box (j := w.heap.size + 1) (i := 7) (set_box (j := w.heap.size + 1) (i := 6) (set_box (j := w.heap.size + 1) (i := 5) (set_box (j := w.heap.size + 1) (i := 4) bR hnR (.int .i64 eop)) hnR (.string emon)) hnR (.string ename)) hnR (.int .i64 en)) hnR (.slice ead ekids.length ecp)) hnR (.int .i64 epos)); have bS := (setBx (i := 9) (c2 := #[.int .i64 2, .string pm, .string pn, .int .i64 0, .int .i64 eop, .string emon, .string ename, .int .i64 en, .slice ead ekids.length ecp, .int .i64 epos, .slice none 0 0, .int .i64 0]) (setBx (i := 8) (c2 := #[.int .i64 2, .string pm, .string pn, .int .i64 0, .int .i64 eop, .string emon, .string ename, .int .i64 en, .slice ead ekids.length ecp, .int .i64 0, .slice none 0 0, .int .i64 0]) (setBx (i := 7) (c2 := #[.int .i64 2, .string pm, .string pn, .int .i64 0, .int .i64 eop, .string emon, .string ename, .int .i64 en, .slice none 0 0, .int .i64 0, .slice none 0 0, .int .i64 0]) (setBx (i := 6) (c2 := #[.int .i64 2, .string pm, .string pn, .int .i64 0, .int .i64 eop, .string emon, .string ename, .int .i64 0, .slice none 0 0, .int .i64 0, .slice none 0 0, .int .i64 0]) (setBx (i := 5) (c2 := #[.int .i64 2, .string pm, .string pn, .int .i64 0, .int .i64 eop, .string emon, .string ⟨#[]⟩, .int .i64 0, .slice none 0 0, .int .i64 0, .slice none 0 0, .int .i64 0]) (setBx (i := 4) (c2 := #[.int .i64 2, .string pm, .string pn, .int .i64 0, .int .i64 eop, .string ⟨#[]⟩, .string ⟨#[]⟩, .int .i64 0, .slice none 0 0, .int .i64 0, .slice none 0 0, .int .i64 0]) bS (.int .i64 eop) rfl) (.string emon) rfl) (.string ename) rfl) (.int .i64 en) rfl) (.slice ead ekids.length ecp) rfl) (.int .i64 epos) rfl); have Q := (((((((Kq.refl (from_ w2.heap.size) w3).set (p := ⟨w.heap.size + 1, 4, none⟩) (.inl (from_not hzS)) (.int .i64 eop)).set (p := ⟨w.heap.size + 1, 5, none⟩) (.inl (from_not hzS)) (.string emon)).set (p := ⟨w.heap.size + 1, 6, none⟩) (.inl (from_not hzS)) (.string ename)).set (p := ⟨w.heap.size + 1, 7, none⟩) (.inl (from_not hzS)) (.int .i64 en)).set (p := ⟨w.heap.size + 1, 8, none⟩) (.inl (from_not hzS)) (.slice ead ekids.length ecp)).set (p := ⟨w.heap.size + 1, 9, none⟩) (.inl (from_not hzS)) (.int .i64 epos)))
      | (go_at_call 156; (with_reducible refine (want_any ⟨#[59]⟩ b g cap toks _ _ A).mono ?_); rintro r w4 ⟨rfl, A, k⟩; have K := K.trans k; have bR := k.box bR hne; have bS := k.box bS hnS; obtain ⟨⟨y0, y1, y2, y3, y4, y5, y6, y7, y8, y9, y10, y11⟩, yf, yl⟩ := twelve bS; obtain ⟨⟨x0, x1, x2, x3, x4, x5, x6, x7, x8, x9, x10, x11⟩, xf, xl⟩ := twelve bR; have Q := Q.kp k (from_not hzb)))
  refine bodyPost_ret (v := .agg #[.int .i64 2, .string pm, .string pn, .int .i64 0, .int .i64 eop, .string emon, .string ename, .int .i64 en, .slice ead ekids.length ecp, .int .i64 epos, .slice none 0 0, .int .i64 0]) ?_ rfl ⟨2, pm, pn, 0, eop, emon, ename, en, ead, ecp, ekids, epos, none, 0, [], 0, rfl, ?_, ?_, ?_, ?_⟩
  · simp [results, Tryz.results198, go_sem, x0, x1, x2, x3, x4, x5, x6, x7, x8, x9, x10, x11]
  · rw [St.clr, heclr, Bl.clrL, ← HM.out, ← HN.out]; rfl
  · refine StBy.leaf ⟨i64_small (by decide) (by decide), i64_small (by decide) (by decide), i64_small (by decide) (by decide), len_of hpl.1, len_of hpl.2⟩ ?_
    have hpR := from_not hz1
    have hpS := from_not hzS
    refine (Ex.By.kq heBy ?_).mono (Nat.le_of_lt hz1)
    repeat (first | with_reducible refine Kq.set ?_ (.inl hpR) _ | with_reducible refine Kq.set ?_ (.inl hpS) _ | with_reducible refine Kq.al ?_ _)
    with_reducible exact Q
  · repeat (first | with_reducible refine Pz.At.put ?_ hne hng _ | with_reducible refine Pz.At.put ?_ hnS hnS2 _ | with_reducible refine Pz.At.al ?_ _)
    exact A
  · repeat (first | with_reducible refine Kp.set ?_ (.inr (Nat.le_refl _)) _ | with_reducible refine Kp.set ?_ (.inr hSw) _ | with_reducible refine Kp.al ?_ _)
    with_reducible exact K
end Go.Proofs.YtaekbgljbgmchaaGreatDoor
