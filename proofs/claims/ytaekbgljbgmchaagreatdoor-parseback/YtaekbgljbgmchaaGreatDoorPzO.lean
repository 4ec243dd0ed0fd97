/-
  skip, call, notify, notifyAll of package parse.
-/
import Derived.Test.YtaekbgljbgmchaaGreatDoorPzN
namespace Go.Proofs.YtaekbgljbgmchaaGreatDoor
open Go.RowKit
open Lx (Out)
open Pz
theorem setBx {w : World} {k i : Nat} {c c2 : Array Value} {T : TypeId} {z : Nat × Nat} (h : w.heap[k]? = some (.cells c T z)) (x : Value) (hc : c.setIfInBounds i x = c2) : (w.setCell ⟨k, i, none⟩ x).heap[k]? = some (.cells c2 T z) := by rw [← hc]; exact setB h x
set_option maxRecDepth 100000 in
set_option maxHeartbeats 2000000 in
theorem skip_any (b g cap : Nat) (toks : List Out) (s : S) (w : World) (h : At b g cap toks s w) :
    Calls Tryz.prog 199 #[.pointer (some ⟨b, 0, none⟩)] w (StBack b g cap toks (stSkip s) w) := by
  have hb := h.lt
  have hgl := h.glt
  have A := h.al (.cells #[.int .i64 0, .string ⟨#[]⟩, .string ⟨#[]⟩, .int .i64 0, .int .i64 0, .string ⟨#[]⟩, .string ⟨#[]⟩, .int .i64 0, .slice none 0 0, .int .i64 0, .slice none 0 0, .int .i64 0] 108)
  have bR := newB w #[.int .i64 0, .string ⟨#[]⟩, .string ⟨#[]⟩, .int .i64 0, .int .i64 0, .string ⟨#[]⟩, .string ⟨#[]⟩, .int .i64 0, .slice none 0 0, .int .i64 0, .slice none 0 0, .int .i64 0] 108
  have hne : w.heap.size ≠ b := by omega
  have hng : w.heap.size ≠ g := by omega
  have K : Kp b w (w.alloc (.cells #[.int .i64 0, .string ⟨#[]⟩, .string ⟨#[]⟩, .int .i64 0, .int .i64 0, .string ⟨#[]⟩, .string ⟨#[]⟩, .int .i64 0, .slice none 0 0, .int .i64 0, .slice none 0 0, .int .i64 0] 108)) := (Kp.refl b w).al _
  go_enter Tryz.func199, Tryz.ntmps199
  go_wp2_with (first
      | (go_at_call 156; (with_reducible refine (want_any _ b g cap toks _ _ A).mono ?_); rintro r w1 ⟨rfl, A, k⟩; have K := K.trans k; have bR := k.box bR hne; obtain ⟨⟨x0, x1, x2, x3, x4, x5, x6, x7, x8, x9, x10, x11⟩, xf, xl⟩ := twelve bR))
  refine bodyPost_ret (v := .agg #[.int .i64 1, .string ⟨#[]⟩, .string ⟨#[]⟩, .int .i64 0, .int .i64 0, .string ⟨#[]⟩, .string ⟨#[]⟩, .int .i64 0, .slice none 0 0, .int .i64 0, .slice none 0 0, .int .i64 0]) ?_ rfl ⟨1, ⟨#[]⟩, ⟨#[]⟩, 0, 0, ⟨#[]⟩, ⟨#[]⟩, 0, none, 0, [], 0, none, 0, [], 0, rfl, ?_, ?_, ?_, ?_⟩
  · simp [results, Tryz.results199, go_sem, x0, x1, x2, x3, x4, x5, x6, x7, x8, x9, x10, x11]
  · rw [St.clr, Ex.clr, Ex.clrL, Bl.clrL]; rfl
  · exact StBy.leaf ⟨i64_small (by decide) (by decide), i64_small (by decide) (by decide), i64_small (by decide) (by decide), len_e0, len_e0⟩ By.zero
  · repeat (first | with_reducible refine Pz.At.put ?_ hne hng _ | with_reducible refine Pz.At.al ?_ _)
    exact A
  · repeat (first | with_reducible refine Kp.set ?_ (.inr (Nat.le_refl _)) _ | with_reducible refine Kp.set ?_ (.inl rfl) _ | with_reducible refine Kp.al ?_ _)
    with_reducible exact K
set_option maxRecDepth 100000 in
set_option maxHeartbeats 2000000 in
theorem notify_any (b g cap : Nat) (toks : List Out) (s : S) (w : World) (h : At b g cap toks s w) :
    Calls Tryz.prog 207 #[.pointer (some ⟨b, 0, none⟩)] w (StBack b g cap toks (stNotify s) w) := by
  have hb := h.lt
  have hgl := h.glt
  have A := h.al (.cells #[.int .i64 0, .string ⟨#[]⟩, .string ⟨#[]⟩, .int .i64 0, .int .i64 0, .string ⟨#[]⟩, .string ⟨#[]⟩, .int .i64 0, .slice none 0 0, .int .i64 0, .slice none 0 0, .int .i64 0] 108)
  have bR := newB w #[.int .i64 0, .string ⟨#[]⟩, .string ⟨#[]⟩, .int .i64 0, .int .i64 0, .string ⟨#[]⟩, .string ⟨#[]⟩, .int .i64 0, .slice none 0 0, .int .i64 0, .slice none 0 0, .int .i64 0] 108
  have hne : w.heap.size ≠ b := by omega
  have hng : w.heap.size ≠ g := by omega
  have K : Kp b w (w.alloc (.cells #[.int .i64 0, .string ⟨#[]⟩, .string ⟨#[]⟩, .int .i64 0, .int .i64 0, .string ⟨#[]⟩, .string ⟨#[]⟩, .int .i64 0, .slice none 0 0, .int .i64 0, .slice none 0 0, .int .i64 0] 108)) := (Kp.refl b w).al _
  have hfit := (take_fit (h.ok.want k_notify) 1).1
  obtain ⟨mn, hmn⟩ : ∃ mn, ((s.want k_notify).take 1).1.text = mn := ⟨_, rfl⟩
  have HM := hid hmn
  rw [hmn] at hfit
  have hna : ∀ W, At b g cap toks (s.want ⟨#[110, 111, 116, 105, 102, 121]⟩) W → Calls Tryz.prog 193 #[.pointer (some ⟨b, 0, none⟩)] W fun e w' => e = .returned (.string mn) ∧ At b g cap toks ((s.want k_notify).take 1).2 w' ∧ Kp b W w' := fun W hW => by
    have := nameTok_any b g cap toks _ W hW
    rw [show ((s.want ⟨#[110, 111, 116, 105, 102, 121]⟩).take 1).1.text = mn from hmn] at this
    exact this
  clear hmn
  go_enter Tryz.func207, Tryz.ntmps207
  go_wp2_with (first
      | (go_at_call 193; (with_reducible refine (hna _ A).mono ?_); rintro r w1 ⟨rfl, A, k⟩; have K := K.trans k; have bR := k.box bR hne; have hlR := ltB bR; have A := A.al (.cells #[.int .i64 10, .string mn, .string ⟨#[]⟩, .int .i64 0, .int .i64 0, .string ⟨#[]⟩, .string ⟨#[]⟩, .int .i64 0, .slice none 0 0, .int .i64 0, .slice none 0 0, .int .i64 0] 108); have K := K.al (.cells #[.int .i64 10, .string mn, .string ⟨#[]⟩, .int .i64 0, .int .i64 0, .string ⟨#[]⟩, .string ⟨#[]⟩, .int .i64 0, .slice none 0 0, .int .i64 0, .slice none 0 0, .int .i64 0] 108); have bR := bel_box bR (bel_al _ (.cells #[.int .i64 10, .string mn, .string ⟨#[]⟩, .int .i64 0, .int .i64 0, .string ⟨#[]⟩, .string ⟨#[]⟩, .int .i64 0, .slice none 0 0, .int .i64 0, .slice none 0 0, .int .i64 0] 108)); have bS := newB w1 #[.int .i64 10, .string mn, .string ⟨#[]⟩, .int .i64 0, .int .i64 0, .string ⟨#[]⟩, .string ⟨#[]⟩, .int .i64 0, .slice none 0 0, .int .i64 0, .slice none 0 0, .int .i64 0] 108; have hnS : w1.heap.size ≠ b := (by omega); have hnS2 : w1.heap.size ≠ g := (by omega); have hnR : w.heap.size ≠ w1.heap.size := (by omega); have hSw : w.heap.size ≤ w1.heap.size := (by omega); obtain ⟨⟨y0, y1, y2, y3, y4, y5, y6, y7, y8, y9, y10, y11⟩, yf, yl⟩ := twelve bS)
      | (go_at_call 156; (with_reducible refine (want_any ⟨#[59]⟩ b g cap toks _ _ A).mono ?_); rintro r w1 ⟨rfl, A, k⟩; have K := K.trans k; have bR := k.box bR hne; have bS := k.box bS hnS; obtain ⟨⟨y0, y1, y2, y3, y4, y5, y6, y7, y8, y9, y10, y11⟩, yf, yl⟩ := twelve bS; obtain ⟨⟨x0, x1, x2, x3, x4, x5, x6, x7, x8, x9, x10, x11⟩, xf, xl⟩ := twelve bR)
      | (go_at_call 156; (with_reducible refine (want_any ⟨#[110, 111, 116, 105, 102, 121]⟩ b g cap toks _ _ A).mono ?_); rintro r w1 ⟨rfl, A, k⟩; have K := K.trans k; have bR := k.box bR hne))
  refine bodyPost_ret (v := .agg #[.int .i64 10, .string mn, .string ⟨#[]⟩, .int .i64 0, .int .i64 0, .string ⟨#[]⟩, .string ⟨#[]⟩, .int .i64 0, .slice none 0 0, .int .i64 0, .slice none 0 0, .int .i64 0]) ?_ rfl ⟨10, mn, ⟨#[]⟩, 0, 0, ⟨#[]⟩, ⟨#[]⟩, 0, none, 0, [], 0, none, 0, [], 0, rfl, ?_, ?_, ?_, ?_⟩
  · simp [results, Tryz.results207, go_sem, x0, x1, x2, x3, x4, x5, x6, x7, x8, x9, x10, x11]
  · rw [St.clr, Ex.clr, Ex.clrL, Bl.clrL, ← HM.out]; rfl
  · exact StBy.leaf ⟨i64_small (by decide) (by decide), i64_small (by decide) (by decide), i64_small (by decide) (by decide), len_of hfit, len_e0⟩ By.zero
  · repeat (first | with_reducible refine Pz.At.put ?_ hne hng _ | with_reducible refine Pz.At.al ?_ _)
    exact A
  · repeat (first | with_reducible refine Kp.set ?_ (.inr (Nat.le_refl _)) _ | with_reducible refine Kp.set ?_ (.inl rfl) _ | with_reducible refine Kp.al ?_ _)
    with_reducible exact K
set_option maxRecDepth 100000 in
set_option maxHeartbeats 2000000 in
theorem notifyAll_any (b g cap : Nat) (toks : List Out) (s : S) (w : World) (h : At b g cap toks s w) :
    Calls Tryz.prog 208 #[.pointer (some ⟨b, 0, none⟩)] w (StBack b g cap toks (stAll s) w) := by
  have hb := h.lt
  have hgl := h.glt
  have A := h.al (.cells #[.int .i64 0, .string ⟨#[]⟩, .string ⟨#[]⟩, .int .i64 0, .int .i64 0, .string ⟨#[]⟩, .string ⟨#[]⟩, .int .i64 0, .slice none 0 0, .int .i64 0, .slice none 0 0, .int .i64 0] 108)
  have bR := newB w #[.int .i64 0, .string ⟨#[]⟩, .string ⟨#[]⟩, .int .i64 0, .int .i64 0, .string ⟨#[]⟩, .string ⟨#[]⟩, .int .i64 0, .slice none 0 0, .int .i64 0, .slice none 0 0, .int .i64 0] 108
  have hne : w.heap.size ≠ b := by omega
  have hng : w.heap.size ≠ g := by omega
  have K : Kp b w (w.alloc (.cells #[.int .i64 0, .string ⟨#[]⟩, .string ⟨#[]⟩, .int .i64 0, .int .i64 0, .string ⟨#[]⟩, .string ⟨#[]⟩, .int .i64 0, .slice none 0 0, .int .i64 0, .slice none 0 0, .int .i64 0] 108)) := (Kp.refl b w).al _
  have hfit := (take_fit (h.ok.want k_notifyall) 1).1
  obtain ⟨mn, hmn⟩ : ∃ mn, ((s.want k_notifyall).take 1).1.text = mn := ⟨_, rfl⟩
  have HM := hid hmn
  rw [hmn] at hfit
  have hna : ∀ W, At b g cap toks (s.want ⟨#[110, 111, 116, 105, 102, 121, 97, 108, 108]⟩) W → Calls Tryz.prog 193 #[.pointer (some ⟨b, 0, none⟩)] W fun e w' => e = .returned (.string mn) ∧ At b g cap toks ((s.want k_notifyall).take 1).2 w' ∧ Kp b W w' := fun W hW => by
    have := nameTok_any b g cap toks _ W hW
    rw [show ((s.want ⟨#[110, 111, 116, 105, 102, 121, 97, 108, 108]⟩).take 1).1.text = mn from hmn] at this
    exact this
  clear hmn
  go_enter Tryz.func208, Tryz.ntmps208
  go_wp2_with (first
      | (go_at_call 193; (with_reducible refine (hna _ A).mono ?_); rintro r w1 ⟨rfl, A, k⟩; have K := K.trans k; have bR := k.box bR hne; have hlR := ltB bR; have A := A.al (.cells #[.int .i64 11, .string mn, .string ⟨#[]⟩, .int .i64 0, .int .i64 0, .string ⟨#[]⟩, .string ⟨#[]⟩, .int .i64 0, .slice none 0 0, .int .i64 0, .slice none 0 0, .int .i64 0] 108); have K := K.al (.cells #[.int .i64 11, .string mn, .string ⟨#[]⟩, .int .i64 0, .int .i64 0, .string ⟨#[]⟩, .string ⟨#[]⟩, .int .i64 0, .slice none 0 0, .int .i64 0, .slice none 0 0, .int .i64 0] 108); have bR := bel_box bR (bel_al _ (.cells #[.int .i64 11, .string mn, .string ⟨#[]⟩, .int .i64 0, .int .i64 0, .string ⟨#[]⟩, .string ⟨#[]⟩, .int .i64 0, .slice none 0 0, .int .i64 0, .slice none 0 0, .int .i64 0] 108)); have bS := newB w1 #[.int .i64 11, .string mn, .string ⟨#[]⟩, .int .i64 0, .int .i64 0, .string ⟨#[]⟩, .string ⟨#[]⟩, .int .i64 0, .slice none 0 0, .int .i64 0, .slice none 0 0, .int .i64 0] 108; have hnS : w1.heap.size ≠ b := (by omega); have hnS2 : w1.heap.size ≠ g := (by omega); have hnR : w.heap.size ≠ w1.heap.size := (by omega); have hSw : w.heap.size ≤ w1.heap.size := (by omega); obtain ⟨⟨y0, y1, y2, y3, y4, y5, y6, y7, y8, y9, y10, y11⟩, yf, yl⟩ := twelve bS)
      | (go_at_call 156; (with_reducible refine (want_any ⟨#[59]⟩ b g cap toks _ _ A).mono ?_); rintro r w1 ⟨rfl, A, k⟩; have K := K.trans k; have bR := k.box bR hne; have bS := k.box bS hnS; obtain ⟨⟨y0, y1, y2, y3, y4, y5, y6, y7, y8, y9, y10, y11⟩, yf, yl⟩ := twelve bS; obtain ⟨⟨x0, x1, x2, x3, x4, x5, x6, x7, x8, x9, x10, x11⟩, xf, xl⟩ := twelve bR)
      | (go_at_call 156; (with_reducible refine (want_any ⟨#[110, 111, 116, 105, 102, 121, 97, 108, 108]⟩ b g cap toks _ _ A).mono ?_); rintro r w1 ⟨rfl, A, k⟩; have K := K.trans k; have bR := k.box bR hne))
  refine bodyPost_ret (v := .agg #[.int .i64 11, .string mn, .string ⟨#[]⟩, .int .i64 0, .int .i64 0, .string ⟨#[]⟩, .string ⟨#[]⟩, .int .i64 0, .slice none 0 0, .int .i64 0, .slice none 0 0, .int .i64 0]) ?_ rfl ⟨11, mn, ⟨#[]⟩, 0, 0, ⟨#[]⟩, ⟨#[]⟩, 0, none, 0, [], 0, none, 0, [], 0, rfl, ?_, ?_, ?_, ?_⟩
  · simp [results, Tryz.results208, go_sem, x0, x1, x2, x3, x4, x5, x6, x7, x8, x9, x10, x11]
  · rw [St.clr, Ex.clr, Ex.clrL, Bl.clrL, ← HM.out]; rfl
  · exact StBy.leaf ⟨i64_small (by decide) (by decide), i64_small (by decide) (by decide), i64_small (by decide) (by decide), len_of hfit, len_e0⟩ By.zero
  · repeat (first | with_reducible refine Pz.At.put ?_ hne hng _ | with_reducible refine Pz.At.al ?_ _)
    exact A
  · repeat (first | with_reducible refine Kp.set ?_ (.inr (Nat.le_refl _)) _ | with_reducible refine Kp.set ?_ (.inl rfl) _ | with_reducible refine Kp.al ?_ _)
    with_reducible exact K
set_option maxRecDepth 100000 in
set_option maxHeartbeats 2000000 in
theorem call_any (b g cap : Nat) (toks : List Out) (s : S) (w : World) (h : At b g cap toks s w) :
    Calls Tryz.prog 205 #[.pointer (some ⟨b, 0, none⟩)] w (StBack b g cap toks (stCall s) w) := by
  have hb := h.lt
  have hgl := h.glt
  have A := h.al (.cells #[.int .i64 0, .string ⟨#[]⟩, .string ⟨#[]⟩, .int .i64 0, .int .i64 0, .string ⟨#[]⟩, .string ⟨#[]⟩, .int .i64 0, .slice none 0 0, .int .i64 0, .slice none 0 0, .int .i64 0] 108)
  have bR := newB w #[.int .i64 0, .string ⟨#[]⟩, .string ⟨#[]⟩, .int .i64 0, .int .i64 0, .string ⟨#[]⟩, .string ⟨#[]⟩, .int .i64 0, .slice none 0 0, .int .i64 0, .slice none 0 0, .int .i64 0] 108
  have hne : w.heap.size ≠ b := by omega
  have hng : w.heap.size ≠ g := by omega
  have K : Kp b w (w.alloc (.cells #[.int .i64 0, .string ⟨#[]⟩, .string ⟨#[]⟩, .int .i64 0, .int .i64 0, .string ⟨#[]⟩, .string ⟨#[]⟩, .int .i64 0, .slice none 0 0, .int .i64 0, .slice none 0 0, .int .i64 0] 108)) := (Kp.refl b w).al _
  have hpl := path_fit (h.ok.want k_call)
  obtain ⟨pm, hpm⟩ : ∃ pm, (path (s.want k_call)).1.1 = pm := ⟨_, rfl⟩
  obtain ⟨pn, hpn⟩ : ∃ pn, (path (s.want k_call)).1.2 = pn := ⟨_, rfl⟩
  have HM := hid hpm
  have HN := hid hpn
  rw [hpm, hpn] at hpl
  have hpa : ∀ W, At b g cap toks (s.want ⟨#[99, 97, 108, 108]⟩) W → Calls Tryz.prog 174 #[.pointer (some ⟨b, 0, none⟩)] W fun e w' => e = .returned (.tuple #[.string pm, .string pn]) ∧ At b g cap toks (path (s.want k_call)).2 w' ∧ Kp b W w' := fun W hW => by
    have := path_any b g cap toks _ W hW
    rw [show (path (s.want ⟨#[99, 97, 108, 108]⟩)).1.1 = pm from hpm, show (path (s.want ⟨#[99, 97, 108, 108]⟩)).1.2 = pn from hpn] at this
    exact this
  clear hpm hpn
  go_enter Tryz.func205, Tryz.ntmps205
  go_wp2_with (first
      | (go_at_call 156; (with_reducible refine (want_any ⟨#[99, 97, 108, 108]⟩ b g cap toks s _ A).mono ?_); rintro r w1 ⟨rfl, A, k⟩; have K := K.trans k; have bR := k.box bR hne; have hlR := ltB bR; have A := A.al (.cells #[.int .i64 8, .string ⟨#[]⟩, .string ⟨#[]⟩, .int .i64 0, .int .i64 0, .string ⟨#[]⟩, .string ⟨#[]⟩, .int .i64 0, .slice none 0 0, .int .i64 0, .slice none 0 0, .int .i64 0] 108); have K := K.al (.cells #[.int .i64 8, .string ⟨#[]⟩, .string ⟨#[]⟩, .int .i64 0, .int .i64 0, .string ⟨#[]⟩, .string ⟨#[]⟩, .int .i64 0, .slice none 0 0, .int .i64 0, .slice none 0 0, .int .i64 0] 108); have bR := bel_box bR (bel_al _ (.cells #[.int .i64 8, .string ⟨#[]⟩, .string ⟨#[]⟩, .int .i64 0, .int .i64 0, .string ⟨#[]⟩, .string ⟨#[]⟩, .int .i64 0, .slice none 0 0, .int .i64 0, .slice none 0 0, .int .i64 0] 108)); have bS := newB w1 #[.int .i64 8, .string ⟨#[]⟩, .string ⟨#[]⟩, .int .i64 0, .int .i64 0, .string ⟨#[]⟩, .string ⟨#[]⟩, .int .i64 0, .slice none 0 0, .int .i64 0, .slice none 0 0, .int .i64 0] 108; have hnS : w1.heap.size ≠ b := (by omega); have hnS2 : w1.heap.size ≠ g := (by omega); have hnR : w.heap.size ≠ w1.heap.size := (by omega); have hSw : w.heap.size ≤ w1.heap.size := (by omega); obtain ⟨⟨y0, y1, y2, y3, y4, y5, y6, y7, y8, y9, y10, y11⟩, yf, yl⟩ := twelve bS)
      | (go_at_call 174; (with_reducible refine (hpa _ A).mono ?_); rintro r w3 ⟨rfl, A, k⟩; have K := K.trans k; have bR := k.box bR hne; have bS := k.box bS hnS; obtain ⟨⟨y0, y1, y2, y3, y4, y5, y6, y7, y8, y9, y10, y11⟩, yf, yl⟩ := twelve bS; have A := (A.put (p := ⟨w1.heap.size, 1, none⟩) hnS hnS2 (.string pm)).put (p := ⟨w1.heap.size, 2, none⟩) hnS hnS2 (.string pn); have K := (K.set (p := ⟨w1.heap.size, 1, none⟩) (.inr hSw) (.string pm)).set (p := ⟨w1.heap.size, 2, none⟩) (.inr hSw) (.string pn); have bR := set_box (j := w1.heap.size) (i := 2) (set_box (j := w1.heap.size) (i := 1) bR hnR (.string pm)) hnR (.string pn); have bS := setBx (i := 2) (c2 := #[.int .i64 8, .string pm, .string pn, .int .i64 0, .int .i64 0, .string ⟨#[]⟩, .string ⟨#[]⟩, .int .i64 0, .slice none 0 0, .int .i64 0, .slice none 0 0, .int .i64 0]) (setBx (i := 1) (c2 := #[.int .i64 8, .string pm, .string ⟨#[]⟩, .int .i64 0, .int .i64 0, .string ⟨#[]⟩, .string ⟨#[]⟩, .int .i64 0, .slice none 0 0, .int .i64 0, .slice none 0 0, .int .i64 0]) bS (.string pm) rfl) (.string pn) rfl)
      | (go_at_call 156; (with_reducible refine (want_any ⟨#[59]⟩ b g cap toks _ _ A).mono ?_); rintro r w4 ⟨rfl, A, k⟩; have K := K.trans k; have bR := k.box bR hne; have bS := k.box bS hnS; obtain ⟨⟨y0, y1, y2, y3, y4, y5, y6, y7, y8, y9, y10, y11⟩, yf, yl⟩ := twelve bS; obtain ⟨⟨x0, x1, x2, x3, x4, x5, x6, x7, x8, x9, x10, x11⟩, xf, xl⟩ := twelve bR))
  refine bodyPost_ret (v := .agg #[.int .i64 8, .string pm, .string pn, .int .i64 0, .int .i64 0, .string ⟨#[]⟩, .string ⟨#[]⟩, .int .i64 0, .slice none 0 0, .int .i64 0, .slice none 0 0, .int .i64 0]) ?_ rfl ⟨8, pm, pn, 0, 0, ⟨#[]⟩, ⟨#[]⟩, 0, none, 0, [], 0, none, 0, [], 0, rfl, ?_, ?_, ?_, ?_⟩
  · simp [results, Tryz.results205, go_sem, x0, x1, x2, x3, x4, x5, x6, x7, x8, x9, x10, x11]
  · rw [St.clr, Ex.clr, Ex.clrL, Bl.clrL, ← HM.out, ← HN.out]; rfl
  · exact StBy.leaf ⟨i64_small (by decide) (by decide), i64_small (by decide) (by decide), i64_small (by decide) (by decide), len_of hpl.1, len_of hpl.2⟩ By.zero
  · repeat (first | with_reducible refine Pz.At.put ?_ hne hng _ | with_reducible refine Pz.At.al ?_ _)
    exact A
  · repeat (first | with_reducible refine Kp.set ?_ (.inr (Nat.le_refl _)) _ | with_reducible refine Kp.set ?_ (.inl rfl) _ | with_reducible refine Kp.al ?_ _)
    with_reducible exact K
end Go.Proofs.YtaekbgljbgmchaaGreatDoor
