/-
  The document's Gcd tells what the program's tells.
-/
import Derived.Test.YtflhdohbkhmoaaaNmF
namespace Go.Proofs.Ytflhdohbkhmoaaa
open Go.ChangeShapes Go.WideShapes Go.ChangeAt Go.RowKit
theorem hasR_more (l : List Int) (k : Nat) (hk : k < l.length) (h : hasL (l.take k) = false) (e : (l[k] == -9223372036854775808) = false) : hasL (l.take (k + 1)) = false :=
  hasL_more l k hk h (by rw [beq_eq_false_iff_ne] at e ⊢; exact fun h => e h.symm)
theorem hasR_hit (l : List Int) (k : Nat) (hk : k < l.length) (e : (l[k] == -9223372036854775808) = true) : hasL l = true :=
  hasL_hit l k hk (by rw [beq_iff_eq] at e ⊢; exact e.symm)
theorem tmod_nn {x z : Int} (hx : 0 ≤ x) : 0 ≤ x.tmod z := Int.tmod_nonneg z hx
def Pair (k : Nat) (y x z : Int) : Prop := 0 ≤ x ∧ 0 ≤ z ∧ Mid x ∧ Mid z ∧ gg x z = gg k y
theorem Pair.step {k : Nat} {y x z : Int} (h : Pair k y x z) : Pair k y z (x.tmod z) :=
  ⟨h.2.1, tmod_nn h.1, h.2.2.2.1, tmod_mid h.2.2.1, (gg_step x z).trans h.2.2.2.2⟩
theorem Pair.stop {k : Nat} {y x z : Int} (h : Pair k y x z) (hz : (z != 0) = false) : x = ((gg k y : Nat) : Int) := by
  have hz : z = 0 := by simpa using hz
  subst hz
  have := h.2.2.2.2
  rw [gg_zero] at this
  have := h.1
  omega
theorem Pair.neg {k : Nat} {y : Int} (hk : Mid (k : Int)) (hy : Mid y) (h : y < 0) : Pair k y (k : Int) (wrap64 (-y)) := by
  have e : wrap64 (-y) = -y := InR.wr (by unfold Mid at hy; unfold InR; omega)
  rw [e]
  exact ⟨by omega, by omega, hk, by unfold Mid at hy ⊢; omega, by unfold gg; rw [Int.natAbs_neg]⟩
theorem Pair.pos {k : Nat} {y : Int} (hk : Mid (k : Int)) (hy : Mid y) (h : 0 ≤ y) : Pair k y (k : Int) y := ⟨by omega, h, hk, hy, rfl⟩
theorem tmod_less {x z : Int} (h : ¬ z = 0) : (x.tmod z).natAbs < z.natAbs := by
  rw [Int.natAbs_tmod]; exact Nat.mod_lt _ (Int.natAbs_pos.mpr h)
set_option maxRecDepth 100000 in
set_option maxHeartbeats 4000000 in
theorem gcdR_any (l : List Int) (ad : Option Addr) (cap : Nat) (w : World) (hn : l.length ≤ 140737488355328) (hr : ∀ x ∈ l, InR x) (hs : Sl w ad l) :
    Calls Try.prog 23 #[.slice ad l.length cap] w fun r w' => r = .returned (.int .i64 (gcdL l)) ∧ ∃ n, w' = w.drewN n := by
  go_enter Try.func23, Try.ntmps23
  go_wp2
  go_loopw [4] (fun i wr => ∃ j : Nat, j ≤ l.length ∧ i = .int .i64 j ∧ Hid (wr = w) ∧ Hid (hasL (l.take j) = false))
    (fun i _ => l.length + 1 - (intOf i).toNat)
  case atStart => exact ⟨0, by omega, rfl, rfl, by rw [List.take_zero]; rfl⟩
  case round =>
    obtain ⟨j, hj, rfl, HW, HK⟩ := hrel
    obtain rfl : w = wr := HW.out.symm
    by_cases hlt : j < l.length
    · have hd1 : decide ((j : Int) < (l.length : Int)) = true := by simp; omega
      rcases hs with h | ⟨b, off, rfl, hrow⟩
      · subst h; simp at hlt
      have c0 := hrow j hlt
      have HA := hid (hasR_more l j hlt HK.out)
      have HB := hid (hasR_hit l j hlt)
      generalize l[j] = y at *
      cases he : (y == -9223372036854775808)
      · have HA := hid (HA.out he)
        clear hrow HB HK hr
        go_wp2
        go_roundw
        case rel => exact ⟨j + 1, by omega, by go_num, by show True; trivial, HA.out⟩
        case measure => simp [intOf]; omega
      · have HB := hid (HB.out he)
        clear hrow HA HK hr
        have HG : Hid (gcdL l = 0) := by show _ = _; unfold gcdL; rw [HB.out]; rfl
        go_wp2
        go_ret
        exact ⟨ret_i HG.out.symm, 0, rfl⟩
    · have hd1 : decide ((j : Int) < (l.length : Int)) = false := by simp; omega
      have HE := hid (hasL_end l j (by omega) HK)
      have HM : Hid (∀ x ∈ l, Mid x) := fun x hx => mid_of hr HE.out hx
      have HG : Hid (gcdL l = ((l.foldl (fun g n => gg g n) 0 : Nat) : Int)) := by show _ = _; unfold gcdL; rw [HE.out]; rfl
      clear HK hr HE
      go_wp2
      go_loopw [3, 5, 6, 7, 8] (fun g i sa sb sc wr => ∃ j : Nat, j ≤ l.length ∧ i = .int .i64 j ∧ (∃ k : Nat, g = .int .i64 (k : Int) ∧ Hid (k = (l.take j).foldl (fun g n => gg g n) 0)) ∧ Hid (∃ n, wr = w.drewN n))
        (fun _ i _ _ _ _ => l.length + 1 - (intOf i).toNat)
      case atStart => exact ⟨0, by omega, rfl, ⟨0, rfl, by rw [List.take_zero]; rfl⟩, 0, rfl⟩
      case round =>
        obtain ⟨j, hj, rfl, ⟨k, rfl, HK⟩, HW⟩ := hrel
        obtain ⟨n, rfl⟩ := HW.out
        by_cases hlt : j < l.length
        · have hd1 : decide ((j : Int) < (l.length : Int)) = true := by simp; omega
          rcases hs with h | ⟨b, off, rfl, hrow⟩
          · subst h; simp at hlt
          have c0 := hrow j hlt
          have HMK : Hid (Mid (k : Int)) := by show Mid _; rw [HK.out]; exact fold_mid HM.out j
          have HMY : Hid (Mid l[j]) := HM.out _ (List.getElem_mem hlt)
          have HS := hid (fold_step l j hlt)
          rw [← HK.out] at HS
          generalize l[j] = y at *
          clear HK hrow
          by_cases hneg : y < 0
          · have HN := hid (Pair.neg HMK.out HMY.out hneg)
            go_wp2_with fail
            go_quiet (fail)
            go_wp2
            go_loopw [6, 7, 8] (fun sa sb sc wr => ∃ x z : Int, sa = .int .i64 x ∧ sb = .int .i64 z ∧ Hid (Pair k y x z) ∧ Hid (∃ n, wr = w.drewN n))
              (fun _ sb _ _ => (intOf sb).natAbs)
            case atStart => exact ⟨_, _, rfl, rfl, HN.out, _, rfl⟩
            case round =>
              obtain ⟨x, z, rfl, rfl, HP, HW⟩ := hrel
              obtain ⟨n3, rfl⟩ := HW.out
              cases hz0 : (z != 0)
              · have HX := hid (HP.out.stop hz0)
                go_wp2
                go_roundw
                case rel => exact ⟨j + 1, by omega, by go_num, ⟨gg k y, by rw [HX.out], HS.out.symm⟩, n3, rfl⟩
                case measure => simp [intOf]; omega
              · have hz : ¬ z = 0 := by simpa using hz0
                have HL := hid (tmod_less (x := x) hz)
                go_wp2
                go_roundw
                case rel => exact ⟨_, _, rfl, rfl, HP.out.step, n3, rfl⟩
                case measure => simp only [intOf]; exact HL.out
          · have HN := hid (Pair.pos HMK.out HMY.out (by omega))
            go_wp2_with fail
            go_quiet (fail)
            go_wp2
            go_loopw [6, 7, 8] (fun sa sb sc wr => ∃ x z : Int, sa = .int .i64 x ∧ sb = .int .i64 z ∧ Hid (Pair k y x z) ∧ Hid (∃ n, wr = w.drewN n))
              (fun _ sb _ _ => (intOf sb).natAbs)
            case atStart => exact ⟨_, _, rfl, rfl, HN.out, _, rfl⟩
            case round =>
              obtain ⟨x, z, rfl, rfl, HP, HW⟩ := hrel
              obtain ⟨n3, rfl⟩ := HW.out
              cases hz0 : (z != 0)
              · have HX := hid (HP.out.stop hz0)
                go_wp2
                go_roundw
                case rel => exact ⟨j + 1, by omega, by go_num, ⟨gg k y, by rw [HX.out], HS.out.symm⟩, n3, rfl⟩
                case measure => simp [intOf]; omega
              · have hz : ¬ z = 0 := by simpa using hz0
                have HL := hid (tmod_less (x := x) hz)
                go_wp2
                go_roundw
                case rel => exact ⟨_, _, rfl, rfl, HP.out.step, n3, rfl⟩
                case measure => simp only [intOf]; exact HL.out
        · have hd1 : decide ((j : Int) < (l.length : Int)) = false := by simp; omega
          have HE : Hid (k = l.foldl (fun g n => gg g n) 0) := by
            show _ = _
            rw [HK.out, List.take_of_length_le (by omega)]
          clear HK hs HM
          go_wp2
          go_ret
          exact ⟨ret_i (by rw [HG.out, HE.out]), n, rfl⟩
end Go.Proofs.Ytflhdohbkhmoaaa
