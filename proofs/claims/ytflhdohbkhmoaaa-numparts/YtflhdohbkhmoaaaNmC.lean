/-
  Package num: the greatest divisor of two, and of many.
-/
import Derived.Test.YtflhdohbkhmoaaaNmA
import Derived.Deep.Cut
import Derived.WalkMore
import Derived.ScopeJumps
import Derived.BigQuiet
namespace Go.Proofs.Ytflhdohbkhmoaaa
open Go.ChangeShapes Go.WideShapes Go.ChangeAt Go.RowKit
def gg (a b : Int) : Nat := Nat.gcd a.natAbs b.natAbs
theorem gg_step (a b : Int) : gg b (a.tmod b) = gg a b := by
  unfold gg
  rw [Int.natAbs_tmod, Nat.gcd_comm, ← Nat.gcd_rec, Nat.gcd_comm]
theorem gg_zero (a : Int) : gg a 0 = a.natAbs := by unfold gg; simp
def Mid (x : Int) : Prop := -9223372036854775807 ≤ x ∧ x ≤ 9223372036854775807
theorem tmod_mid {a b : Int} (ha : Mid a) : Mid (a.tmod b) := by
  have h : (a.tmod b).natAbs ≤ a.natAbs := by rw [Int.natAbs_tmod]; exact Nat.mod_le _ _
  unfold Mid at ha ⊢; omega
theorem gg_mid {a b : Int} (ha : Mid a) (hb : Mid b) : Mid ((gg a b : Nat) : Int) := by
  have h : gg a b ≤ 9223372036854775807 := by
    unfold gg
    by_cases h0 : a.natAbs = 0
    · rw [h0, Nat.gcd_zero_left]; unfold Mid at hb; omega
    · have := Nat.gcd_le_left b.natAbs (show 0 < a.natAbs by omega)
      unfold Mid at ha; omega
  unfold Mid; omega
theorem gg_end {x y a b : Int} (h0 : (y != 0) = false) (h : gg x y = gg a b) (hx : Mid x) : (x < wrap64 (-x) → wrap64 (-x) = ((gg a b : Nat) : Int)) ∧ (wrap64 (-x) ≤ x → x = ((gg a b : Nat) : Int)) := by
  have hy : y = 0 := by simpa using h0
  subst hy
  rw [gg_zero] at h
  have e : wrap64 (-x) = -x := InR.wr (by unfold Mid at hx; unfold InR; omega)
  rw [e, ← h]
  omega
theorem ret_i {x y : Int} (h : x = y) : Ending.returned (.int .i64 x) = .returned (.int .i64 y) := by rw [h]
theorem ret_b {x y : Bool} (h : x = y) : Ending.returned (.bool x) = .returned (.bool y) := by rw [h]
/-- divisorOfTwo. -/
theorem gcd2_any {a b : Int} (ha : Mid a) (hb : Mid b) (w : World) : Calls Try.prog 26 #[.int .i64 a, .int .i64 b] w fun r w' => r = .returned (.int .i64 ((gg a b : Nat) : Int)) ∧ ∃ n, w' = w.drewN n := by
  have HA := hid ha
  have HB := hid hb
  clear ha hb
  go_enter Try.func26, Try.ntmps26
  go_wp2
  refine wp_scope_jumps 0 (fun a' w' => (∃ n, w' = w.drewN n) ∧ ∃ (x y : Int) (u5 u6 u7 u8 u9 u10 : Value), a' = { tmps := #[.int .i64 x, .int .i64 y, undef, undef, .int .i64 0, u5, u6, u7, u8, u9, u10, undef, undef, undef, undef], defers := [] } ∧ Hid (gg x y = gg a b ∧ Mid x ∧ Mid y)) (fun a' _ => (intOf (a'.tmps.getD 1 undef)).natAbs) rfl ?_ ?_
  · go_wp2
    go_step3
    cases h0 : (b != 0)
    · go_wp2
      · rename_i h
        have HE := hid ((gg_end h0 rfl HA.out).1 h)
        simp only [Exit.jump]
        go_ret
        exact ⟨ret_i HE.out, 0, rfl⟩
      · rename_i h
        have HE := hid ((gg_end h0 rfl HA.out).2 h)
        simp only [Exit.jump]
        go_ret
        exact ⟨ret_i HE.out, 0, rfl⟩
    · have hz : ¬ b = 0 := by simpa using h0
      go_wp2
      go_quiet (fail)
      go_wp2
      go_step3
      exact ⟨rfl, ⟨_, rfl⟩, _, _, _, _, _, _, _, _, rfl, (gg_step a b), HB.out, tmod_mid HA.out⟩
  · rintro a' w' ⟨⟨n, rfl⟩, x, y, u5, u6, u7, u8, u9, u10, rfl, HM⟩
    cases h0 : (y != 0)
    · go_wp2
      · rename_i h
        have HE := hid ((gg_end h0 HM.out.1 HM.out.2.1).1 h)
        simp only [Exit.jump]
        go_ret
        exact ⟨ret_i HE.out, n, rfl⟩
      · rename_i h
        have HE := hid ((gg_end h0 HM.out.1 HM.out.2.1).2 h)
        simp only [Exit.jump]
        go_ret
        exact ⟨ret_i HE.out, n, rfl⟩
    · have hz : ¬ y = 0 := by simpa using h0
      go_wp2
      go_quiet (fail)
      go_wp2
      go_step3
      refine ⟨rfl, ⟨⟨n + nq, World.drewN_drewN _ _ _⟩, _, _, _, _, _, _, _, _, rfl, (gg_step x y).trans HM.out.1, HM.out.2.2, tmod_mid HM.out.2.1⟩, ?_⟩
      show (x.tmod y).natAbs < y.natAbs
      rw [Int.natAbs_tmod]
      exact Nat.mod_lt _ (Int.natAbs_pos.mpr hz)
/-- The numbers l lie at block b from off on. -/
def Lie (w : World) (b off : Nat) (l : List Int) : Prop := ∀ j (h : j < l.length), w.cell? ⟨b, off + j, none⟩ = some (.int .i64 l[j])
/-- A slice with the numbers l. -/
def Sl (w : World) (ad : Option Addr) (l : List Int) : Prop := l = [] ∨ ∃ b off, ad = some ⟨b, off, none⟩ ∧ Lie w b off l
def least : Int := -9223372036854775808
def hasL (l : List Int) : Bool := l.any (· == -9223372036854775808)
theorem hasL_end (l : List Int) (k : Nat) (hk : l.length ≤ k) (h : Hid (hasL (l.take k) = false)) : hasL l = false := by
  rw [List.take_of_length_le hk] at h; exact h
theorem hasL_more (l : List Int) (k : Nat) (hk : k < l.length) (h : hasL (l.take k) = false) (e : (-9223372036854775808 == l[k]) = false) : hasL (l.take (k + 1)) = false := by
  rw [List.take_succ_eq_append_getElem hk]
  unfold hasL at h ⊢
  rw [List.any_append, h]
  have : ¬ l[k] = -9223372036854775808 := fun e' => by rw [e'] at e; exact absurd e (by decide)
  simp [this]
theorem hasL_hit (l : List Int) (k : Nat) (hk : k < l.length) (e : (-9223372036854775808 == l[k]) = true) : hasL l = true := by
  unfold hasL
  rw [List.any_eq_true]
  refine ⟨l[k], List.getElem_mem hk, ?_⟩
  have : l[k] = -9223372036854775808 := by simpa using (beq_iff_eq.mp e).symm
  rw [this]; rfl
def IxBack (l : List Int) (w : World) (r : Ending) (w' : World) : Prop := (∃ i : Int, r = .returned (.int .i64 i) ∧ decide (0 ≤ i) = hasL l) ∧ w' = w
set_option maxHeartbeats 1000000 in
theorem index_any (l : List Int) (ad : Option Addr) (cap : Nat) (w : World) (hn : l.length ≤ 140737488355328) (hs : Sl w ad l) :
    Calls Try.prog 27 #[.slice ad l.length cap, .int .i64 (-9223372036854775808)] w fun r w' => IxBack l w r w' := by
  go_enter Try.func27, Try.ntmps27
  go_wp2
  go_loopw [5, 8] (fun u i wr => ∃ j : Nat, j ≤ l.length ∧ i = .int .i64 j ∧ Hid (wr = w) ∧ Hid (hasL (l.take j) = false))
    (fun _ i _ => l.length + 1 - (intOf i).toNat)
  case atStart => exact ⟨0, by omega, rfl, rfl, by rw [List.take_zero]; rfl⟩
  case round =>
    obtain ⟨j, hj, rfl, HW, HK⟩ := hrel
    obtain rfl : w = wr := HW.out.symm
    by_cases hlt : j < l.length
    · have hd1 : decide ((j : Int) < (l.length : Int)) = true := by simp; omega
      rcases hs with h | ⟨b, off, rfl, hrow⟩
      · subst h; simp at hlt
      have c0 := hrow j hlt
      have HA := hid (hasL_more l j hlt HK.out)
      have HB := hid (hasL_hit l j hlt)
      generalize l[j] = y at *
      cases he : (-9223372036854775808 == y)
      · have HA := hid (HA.out he)
        clear hrow HB HK
        go_wp2
        go_roundw
        case rel => exact ⟨j + 1, by omega, by go_num, by show True; trivial, HA.out⟩
        case measure => simp [intOf]; omega
      · have HB := hid (HB.out he)
        clear hrow HA HK
        go_wp2
        go_ret
        exact ⟨⟨_, rfl, by rw [HB.out]; simp⟩, rfl⟩
    · have hd1 : decide ((j : Int) < (l.length : Int)) = false := by simp; omega
      have HE := hid (hasL_end l j (by omega) HK)
      clear HK hs
      go_wp2
      go_ret
      exact ⟨⟨_, rfl, by rw [HE.out]; rfl⟩, rfl⟩
theorem contains_any (l : List Int) (ad : Option Addr) (cap : Nat) (w : World) (hn : l.length ≤ 140737488355328) (hs : Sl w ad l) :
    Calls Try.prog 25 #[.slice ad l.length cap, .int .i64 (-9223372036854775808)] w fun r w' => r = .returned (.bool (hasL l)) ∧ w' = w := by
  have hc := fun w hs => index_any l ad cap w hn hs
  clear hn
  go_enter Try.func25, Try.ntmps25
  go_wp2_with (go_at_call 27; refine (hc _ hs).mono ?_; rintro e w' ⟨⟨i, rfl, hd⟩, rfl⟩)
  go_ret
  exact ⟨ret_b (by first | exact hd | (rw [← hd])), rfl⟩
/-- What Gcd tells. -/
def gcdL (l : List Int) : Int := if hasL l then 0 else ((l.foldl (fun g n => gg g n) 0 : Nat) : Int)
theorem fold_step (l : List Int) (j : Nat) (hj : j < l.length) : (l.take (j + 1)).foldl (fun g n => gg g n) 0 = gg ((l.take j).foldl (fun g n => gg g n) 0 : Nat) l[j] := by
  rw [List.take_succ_eq_append_getElem hj, List.foldl_append]; rfl
theorem mid_of {l : List Int} (hr : ∀ x ∈ l, InR x) (h : hasL l = false) {x : Int} (hx : x ∈ l) : Mid x := by
  have h1 := hr x hx
  have h2 : x ≠ -9223372036854775808 := fun e => by
    unfold hasL at h
    rw [List.any_eq_false] at h
    exact h x hx (by rw [e]; rfl)
  unfold InR at h1; unfold Mid; omega
theorem fold_mid {l : List Int} (hm : ∀ x ∈ l, Mid x) (j : Nat) : Mid (((l.take j).foldl (fun g n => gg g n) 0 : Nat) : Int) := by
  induction j with
  | zero => rw [List.take_zero]; unfold Mid; simp
  | succ j ih =>
    by_cases hj : j < l.length
    · rw [fold_step l j hj]
      exact gg_mid ih (hm _ (List.getElem_mem hj))
    · rw [List.take_of_length_le (by omega)]
      rwa [List.take_of_length_le (by omega)] at ih
theorem Lie.drewN {w : World} {ad : Option Addr} {l : List Int} (h : Sl w ad l) (n : Nat) : Sl (w.drewN n) ad l := h
set_option maxHeartbeats 1000000 in
theorem gcd_any (l : List Int) (ad : Option Addr) (cap : Nat) (w : World) (hn : l.length ≤ 140737488355328) (hr : ∀ x ∈ l, InR x) (hs : Sl w ad l) :
    Calls Try.prog 22 #[.slice ad l.length cap] w fun r w' => r = .returned (.int .i64 (gcdL l)) ∧ ∃ n, w' = w.drewN n := by
  have hc := fun w hs => contains_any l ad cap w hn hs
  cases hL : hasL l
  · have hm : ∀ x ∈ l, Mid x := fun x hx => mid_of hr hL hx
    have HG : Hid (gcdL l = ((l.foldl (fun g n => gg g n) 0 : Nat) : Int)) := by show _ = _; unfold gcdL; rw [hL]; rfl
    have HM := hid hm
    clear hm hr
    simp only [hL] at hc
    clear hL
    go_enter Try.func22, Try.ntmps22
    go_wp2_with (go_at_call 25; refine (hc _ hs).mono ?_; rintro e w' ⟨rfl, rfl⟩)
    clear hc
    go_loopw [3, 5, 10] (fun g u i wr => ∃ j : Nat, j ≤ l.length ∧ i = .int .i64 j ∧ (∃ k : Nat, g = .int .i64 (k : Int) ∧ Hid (k = (l.take j).foldl (fun g n => gg g n) 0)) ∧ Hid (∃ n, wr = w'.drewN n))
      (fun _ _ i _ => l.length + 1 - (intOf i).toNat)
    case atStart => exact ⟨0, by omega, rfl, ⟨0, rfl, by rw [List.take_zero]; rfl⟩, 0, rfl⟩
    case round =>
      obtain ⟨j, hj, rfl, ⟨k, rfl, HK⟩, HW⟩ := hrel
      obtain ⟨n, rfl⟩ := HW.out
      by_cases hlt : j < l.length
      · have hd1 : decide ((j : Int) < (l.length : Int)) = true := by simp; omega
        rcases hs with h | ⟨b, off, rfl, hrow⟩
        · subst h; simp at hlt
        have c0 := hrow j hlt
        have hmk : Mid (k : Int) := by rw [HK.out]; exact fold_mid HM.out j
        have hmy : Mid l[j] := HM.out _ (List.getElem_mem hlt)
        have HS := hid (fold_step l j hlt)
        rw [← HK.out] at HS
        generalize l[j] = y at *
        have h2 := fun w => gcd2_any hmk hmy w
        clear hmk hmy HK hrow HM
        go_wp2_with (go_at_call 26; refine (h2 _).mono ?_; rintro e w2 ⟨rfl, n2, rfl⟩)
        go_roundw
        case rel => exact ⟨j + 1, by omega, by go_num, ⟨_, rfl, HS.out.symm⟩, n + n2, rfl⟩
        case measure => simp [intOf]; omega
      · have hd1 : decide ((j : Int) < (l.length : Int)) = false := by simp; omega
        have HE : Hid (k = l.foldl (fun g n => gg g n) 0) := by
          show _ = _
          rw [HK.out, List.take_of_length_le (by omega)]
        clear HK hs HM
        go_wp2
        go_ret
        exact ⟨ret_i (by rw [HG.out, HE.out]), n, rfl⟩
  · have HG : Hid (gcdL l = 0) := by show _ = _; unfold gcdL; rw [hL]; rfl
    clear hr
    simp only [hL] at hc
    clear hL
    go_enter Try.func22, Try.ntmps22
    go_wp2_with (go_at_call 25; refine (hc _ hs).mono ?_; rintro e w' ⟨rfl, rfl⟩)
    go_ret
    exact ⟨ret_i HG.out.symm, 0, rfl⟩
end Go.Proofs.Ytflhdohbkhmoaaa
