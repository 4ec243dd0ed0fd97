/-
  Package num: the quotient and what is left make the number; the greatest divisor divides each, and grows with all. No condition besides.
-/
import Derived.Test.YtflhdohbkhmoaaaNmE
import Derived.Deep.DeepCutAuto
import Derived.WalkKit
import Derived.ProofKit
import Derived.OpenShut
namespace Go.Proofs.Ytflhdohbkhmoaaa.numDivides
open Go.ChangeShapes Go.WideShapes Go.ChangeAt Go.RowKit
set_option linter.unusedVariables false

theorem own : ownKnob Try.prog.godebug = none := by kernel_rfl

set_option maxRecDepth 100000 in
set_option maxHeartbeats 4000000 in
theorem walk (a0 : Int) (a1 : Int) (a2 : Int) (w0 : (Lit.int .i64 a0).wf = true) (w1 : (Lit.int .i64 a1).wf = true) (w2 : (Lit.int .i64 a2).wf = true) (w : World) :
    Calls Try.prog 8 #[.int .i64 a0, .int .i64 a1, .int .i64 a2] w fun e w' => e = .returned (.bool true) ∧ Grown w w' := by
  have ha := inR_of w0
  have hb := inR_of w1
  go_enter Try.func8, Try.ntmps8
  go_upto_if 14 with fail
  go_cut [8, 9, 10, 11, 12] (fun s8 s9 s10 s11 s12 wx => wx = w)
  case first =>
    by_cases h : 0 < a1
    · have hq := quo_fact ha hb h
      have hd := divF_pos (a := a0) h
      have hD := fun w => div_any (a := a0) (b := a1) ha w
      rw [hd] at hD
      obtain ⟨q, eq⟩ : ∃ q, a0 / a1 = q := ⟨_, rfl⟩
      rw [eq] at hq hD
      have hM := fun w => mul_any hq.1 hb w
      by_cases hin : InR (q * a1)
      · rw [two_in hin] at hM
        have hS := fun w => sub_any ha hin w
        rw [two_in (hq.2 hin).1] at hS
        have d1 : decide (a0 - q * a1 < 0) = false := by have := (hq.2 hin).2.1; simp; omega
        have d2 : decide (a1 ≤ a0 - q * a1) = false := by have := (hq.2 hin).2.2; simp; omega
        generalize a0 - q * a1 = lf at *
        generalize q * a1 = p at *
        clear hq hd eq hin ha hb w0 w1 w2
        go_wp2_with (first | (go_at_call 20; refine (hD _).mono ?_; rintro e w' ⟨rfl, rfl⟩) | (go_at_call 16; refine (hM _).mono ?_; rintro e w' ⟨rfl, rfl⟩) | (go_at_call 11; refine (hS _).mono ?_; rintro e w' ⟨rfl, rfl⟩))
        go_meet
        case rel => rfl
      · rw [two_out hin] at hM
        clear hq hd eq hin ha hb w0 w1 w2
        go_wp2_with (first | (go_at_call 20; refine (hD _).mono ?_; rintro e w' ⟨rfl, rfl⟩) | (go_at_call 16; refine (hM _).mono ?_; rintro e w' ⟨rfl, rfl⟩))
        go_meet
        case rel => rfl
    · have h' : a1 ≤ 0 := by omega
      clear h ha hb w0 w1 w2
      go_wp2
      go_meet
      case rel => rfl
  case rest =>
    obtain rfl : w = wc := hcut.symm
    have hG : ∀ w ad cap, Sl w ad [a0, a1] → Calls Try.prog 22 #[.slice ad 2 cap] w fun r w' => r = .returned (.int .i64 (gcdL [a0, a1])) ∧ ∃ n, w' = w.drewN n := fun w ad cap hs => gcd_any [a0, a1] ad cap w (by simp) (by simp [ha, hb]) hs
    by_cases hl : a0 = -9223372036854775808 ∨ a1 = -9223372036854775808
    · rw [gcd_least hl] at hG
      cases d1 : (a0 == -9223372036854775808)
      · have d2 : (a1 == -9223372036854775808) = true := by
          rw [beq_eq_false_iff_ne] at d1
          rcases hl with h | h
          · exact absurd h d1
          · rw [h]; rfl
        clear hl ha hb w0 w1 w2
        go_wp2_with (first | (go_at_call 22; refine (hG _ _ 2 (lie_two (MapKept.heap_alloc _ _).1)).mono ?_; rintro e w2 ⟨rfl, n2, rfl⟩) | (go_at_call 15; refine (live_at _).mono ?_; rintro e w' ⟨rfl, c1, n5, c2, rfl⟩))
        go_ret
        exact ⟨rfl, by (repeat (first | exact Grown.refl _ | apply Grown.drew | apply Grown.alloc | apply Grown.dr))⟩
      · clear hl ha hb w0 w1 w2
        go_wp2_with (first | (go_at_call 22; refine (hG _ _ 2 (lie_two (MapKept.heap_alloc _ _).1)).mono ?_; rintro e w2 ⟨rfl, n2, rfl⟩) | (go_at_call 15; refine (live_at _).mono ?_; rintro e w' ⟨rfl, c1, n5, c2, rfl⟩))
        go_ret
        exact ⟨rfl, by (repeat (first | exact Grown.refl _ | apply Grown.drew | apply Grown.alloc | apply Grown.dr))⟩
    · have n1 : a0 ≠ -9223372036854775808 := fun h => hl (.inl h)
      have n2 : a1 ≠ -9223372036854775808 := fun h => hl (.inr h)
      have d1 : (a0 == -9223372036854775808) = false := by rw [beq_eq_false_iff_ne]; exact n1
      have d2 : (a1 == -9223372036854775808) = false := by rw [beq_eq_false_iff_ne]; exact n2
      rw [gcd_two n1 n2] at hG
      have hT0 : 1 ≤ a2 ∧ a2 ≤ 1000 → (-1125899906842624 ≤ a0 ∧ a0 ≤ 1125899906842624) → (-1125899906842624 ≤ a1 ∧ a1 ≤ 1125899906842624) → ∀ w ad cap, Sl w ad [wrap64 (a0 * a2), wrap64 (a1 * a2)] → Calls Try.prog 22 #[.slice ad 2 cap] w fun r w' => r = .returned (.int .i64 (wrap64 (((gg a0 a1 : Nat) : Int) * a2))) ∧ ∃ n, w' = w.drewN n := fun h1 h2 h3 w ad cap hs => by
        have := gcd_times h1 h2 h3
        have hx := gcd_any _ ad cap w (by simp) (by simp [this.2.1, this.2.2]) hs
        rw [this.1] at hx
        exact hx
      have hU : ∀ w ad cap, Sl w ad [a0, a1, ((gg a0 a1 : Nat) : Int)] → Calls Try.prog 22 #[.slice ad 3 cap] w fun r w' => r = .returned (.int .i64 (gcdL [a0, a1, ((gg a0 a1 : Nat) : Int)])) ∧ ∃ n, w' = w.drewN n := fun w ad cap hs => gcd_any [a0, a1, ((gg a0 a1 : Nat) : Int)] ad cap w (by simp) (by
        have := gg_mid (a := a0) (b := a1) (by unfold InR at ha; unfold Mid; omega) (by unfold InR at hb; unfold Mid; omega)
        have : InR ((gg a0 a1 : Nat) : Int) := by unfold Mid at this; unfold InR; omega
        simp [ha, hb, this]) hs
      rw [gcd_three n1 n2] at hU
      have hz := @gg_null a0 a1
      have hv := @gg_dvd a0 a1
      generalize gg a0 a1 = G at *
      clear hl ha hb w0 w1 w2 n1 n2
      have hq := seven_ways a0 a1 a2
      have hT : (decide (a2 < 1) = false ∧ decide (1000 < a2) = false ∧ decide (1125899906842624 < a0) = false ∧ decide (a0 < -1125899906842624) = false ∧ decide (1125899906842624 < a1) = false ∧ decide (a1 < -1125899906842624) = false) → ∀ w ad cap, Sl w ad [wrap64 (a0 * a2), wrap64 (a1 * a2)] → Calls Try.prog 22 #[.slice ad 2 cap] w fun r w' => r = .returned (.int .i64 (wrap64 ((G : Int) * a2))) ∧ ∃ n, w' = w.drewN n := fun h => by
        simp only [decide_eq_false_iff_not] at h
        exact hT0 (by omega) (by omega) (by omega)
      clear hT0
      by_cases hg0 : G = 0
      · obtain ⟨rfl, rfl⟩ := hz.mp hg0
        subst hg0
        clear hz hv hT
        have z1 : wrap64 (0 * a2) = 0 := by rw [Int.zero_mul]; unfold wrap64; omega
        have z2 : wrap64 0 = 0 := by unfold wrap64; omega
        have hT := hG
        simp only [Int.natCast_zero] at hG hU hT
        rcases hq with k1 | ⟨k1, k2⟩ | ⟨k1, k2, k3⟩ | ⟨k1, k2, k3, k4⟩ | ⟨k1, k2, k3, k4, k5⟩ | ⟨k1, k2, k3, k4, k5, k6⟩ | ⟨k1, k2, k3, k4, k5, k6⟩
        rotate_left 2
        · exact absurd k3 (by decide)
        · exact absurd k4 (by decide)
        · exact absurd k5 (by decide)
        · exact absurd k6 (by decide)
        all_goals go_wp2_with (first | (go_at_call 22; first | ((with_reducible refine (hG _ _ 2 ?hs).mono ?_); (case hs => with_reducible exact lie_two' (by first | rfl | simp)); rintro e w2 ⟨rfl, n2, rfl⟩) | ((with_reducible refine (hT _ _ 2 ?hs).mono ?_); (case hs => with_reducible exact lie_two' (by first | rfl | simp)); rintro e w3 ⟨rfl, n3, rfl⟩) | ((with_reducible refine (hU _ _ 3 ?hs).mono ?_); (case hs => with_reducible exact lie_three' (by first | rfl | simp)); rintro e w4 ⟨rfl, n4, rfl⟩)) | (go_at_call 15; refine (live_at _).mono ?_; rintro e w' ⟨rfl, c1, n5, c2, rfl⟩))
        all_goals go_ret
        all_goals exact ⟨rfl, by (repeat (first | exact Grown.refl _ | apply Grown.drew | apply Grown.alloc | apply Grown.dr))⟩
      · have g1 : decide ((G : Int) < 0) = false := by simp
        have g2 : ((G : Int) == 0) = false := by rw [beq_eq_false_iff_ne]; omega
        have g3 : decide (0 < (G : Int)) = true := by simp; omega
        have g4 : (a0.tmod (G : Int) != 0) = false := by rw [hv.1]; rfl
        have g5 : (a1.tmod (G : Int) != 0) = false := by rw [hv.2]; rfl
        have g6 : ¬ (G : Int) = 0 := by omega
        have g7 : (a0 == 0) = true → (a1 == 0) = false := fun h => by
          rw [beq_eq_false_iff_ne]; exact fun h2 => hg0 (hz.mpr ⟨by simpa using h, h2⟩)
        generalize (G : Int) = g at *
        clear hz hv hg0
        cases hz0 : (a0 == 0)
        · clear g7
          rcases hq with k1 | ⟨k1, k2⟩ | ⟨k1, k2, k3⟩ | ⟨k1, k2, k3, k4⟩ | ⟨k1, k2, k3, k4, k5⟩ | ⟨k1, k2, k3, k4, k5, k6⟩ | hq
          rotate_left 6
          · have hT := hT hq
            obtain ⟨k1, k2, k3, k4, k5, k6⟩ := hq
            go_wp2_with (first | (go_at_call 22; first | ((with_reducible refine (hG _ _ 2 ?hs).mono ?_); (case hs => with_reducible exact lie_two' (by first | rfl | simp)); rintro e w2 ⟨rfl, n2, rfl⟩) | ((with_reducible refine (hT _ _ 2 ?hs).mono ?_); (case hs => with_reducible exact lie_two' (by first | rfl | simp)); rintro e w3 ⟨rfl, n3, rfl⟩) | ((with_reducible refine (hU _ _ 3 ?hs).mono ?_); (case hs => with_reducible exact lie_three' (by first | rfl | simp)); rintro e w4 ⟨rfl, n4, rfl⟩)) | (go_at_call 15; refine (live_at _).mono ?_; rintro e w' ⟨rfl, c1, n5, c2, rfl⟩))
            go_ret
            exact ⟨rfl, by (repeat (first | exact Grown.refl _ | apply Grown.drew | apply Grown.alloc | apply Grown.dr))⟩
          all_goals clear hT hU
          all_goals go_wp2_with (first | (go_at_call 22; refine (hG _ _ 2 (lie_two (MapKept.heap_alloc _ _).1)).mono ?_; rintro e w2 ⟨rfl, n2, rfl⟩) | (go_at_call 15; refine (live_at _).mono ?_; rintro e w' ⟨rfl, c1, n5, c2, rfl⟩))
          all_goals go_ret
          all_goals exact ⟨rfl, by (repeat (first | exact Grown.refl _ | apply Grown.drew | apply Grown.alloc | apply Grown.dr))⟩
        · have g7 := g7 hz0
          rcases hq with k1 | ⟨k1, k2⟩ | ⟨k1, k2, k3⟩ | ⟨k1, k2, k3, k4⟩ | ⟨k1, k2, k3, k4, k5⟩ | ⟨k1, k2, k3, k4, k5, k6⟩ | hq
          rotate_left 6
          · have hT := hT hq
            obtain ⟨k1, k2, k3, k4, k5, k6⟩ := hq
            go_wp2_with (first | (go_at_call 22; first | ((with_reducible refine (hG _ _ 2 ?hs).mono ?_); (case hs => with_reducible exact lie_two' (by first | rfl | simp)); rintro e w2 ⟨rfl, n2, rfl⟩) | ((with_reducible refine (hT _ _ 2 ?hs).mono ?_); (case hs => with_reducible exact lie_two' (by first | rfl | simp)); rintro e w3 ⟨rfl, n3, rfl⟩) | ((with_reducible refine (hU _ _ 3 ?hs).mono ?_); (case hs => with_reducible exact lie_three' (by first | rfl | simp)); rintro e w4 ⟨rfl, n4, rfl⟩)) | (go_at_call 15; refine (live_at _).mono ?_; rintro e w' ⟨rfl, c1, n5, c2, rfl⟩))
            go_ret
            exact ⟨rfl, by (repeat (first | exact Grown.refl _ | apply Grown.drew | apply Grown.alloc | apply Grown.dr))⟩
          all_goals clear hT hU
          all_goals go_wp2_with (first | (go_at_call 22; refine (hG _ _ 2 (lie_two (MapKept.heap_alloc _ _).1)).mono ?_; rintro e w2 ⟨rfl, n2, rfl⟩) | (go_at_call 15; refine (live_at _).mono ?_; rintro e w' ⟨rfl, c1, n5, c2, rfl⟩))
          all_goals go_ret
          all_goals exact ⟨rfl, by (repeat (first | exact Grown.refl _ | apply Grown.drew | apply Grown.alloc | apply Grown.dr))⟩

set_option maxRecDepth 100000 in
theorem lifted (os : Os) (started : os.Started) (H : Type) (enc : TypeId × Value → H) :
    ReturnsInHanded {} Try.checked os 8 .any (Rows.numDividesSpec.pre6 enc Try.prog Try.f8 Rows.numDividesRow.domain false) (Rows.numDividesSpec.post enc Try.prog Try.f8 false true false false) := by
  refine returnsInHanded_of_change (C := Try.checked) own started (by kernel_rfl) Try.func8
    (ChangeSpec.witness6 (enc := enc) (C := Try.checked) false ⟨#[], #[.int .i64 0, .int .i64 0, .int .i64 0], []⟩ 8 (by kernel_rfl) (by kernel_rfl) (by kernel_rfl) (by kernel_rfl)) ?_
  intro W base args ds gs before hval0 hW hcnd _
  have hval : ∀ (j : Nat) t v, Try.f8.params[j]? = some t → args[j]? = some v → Value.okWide Try.prog W .any base t v := hval0
  have hW' := hW
  obtain ⟨p, q, hA0, hV, rfl, hfz, hnd⟩ := hW
  have hA : DataW.TrodAll enc Try.prog W 0 (fun _ => true) true Try.f8.params.toList args.toList ds p := hA0
  rw [Try.params8] at hA hval
  obtain ⟨v0, vs0, d0, ds0, p0, q0, hargs, rfl, rfl, h0, r0⟩ := trodAll_cons hA
  obtain ⟨v1, vs1, d1, ds1, p1, q1, rfl, rfl, rfl, h1, r1⟩ := trodAll_cons r0
  obtain ⟨v2, vs2, d2, ds2, p2, q2, rfl, rfl, rfl, h2, r2⟩ := trodAll_cons r1
  obtain ⟨rfl, rfl, rfl⟩ := trodAll_nil r2
  obtain rfl : args = #[v0, v1, v2] := by cases args; simp_all
  obtain ⟨rfl, rfl⟩ := trodVars_none hV
  obtain ⟨a0, rfl, rfl, rfl, w0⟩ := open_int Try.underlying2 (hval 0 2 v0 rfl rfl) h0
  obtain ⟨a1, rfl, rfl, rfl, w1⟩ := open_int Try.underlying2 (hval 1 2 v1 rfl rfl) h1
  obtain ⟨a2, rfl, rfl, rfl, w2⟩ := open_int Try.underlying2 (hval 2 2 v2 rfl rfl) h2
  clear hA0 hval0
  simp only [List.append_nil] at hW'
  refine (walk a0 a1 a2 w0 w1 w2 W).mono fun e W' ⟨he, hg⟩ => ?_
  subst he
  exact ⟨_, rfl, post_of_same (pa := []) (pv := []) hW' (fun _ _ _ => (trodAll_cons_mk (shut_bool Try.underlying4 _) trodAll_mk0)) (fun sp _ => (trodAll_cons_mk (shut_int Try.underlying2 w0) (trodAll_cons_mk (shut_int Try.underlying2 w1) (trodAll_cons_mk (shut_int Try.underlying2 w2) trodAll_mk0)))) (fun _ _ => rfl) rfl
    (hg.frame _) hg.2.1 (ok_one (by kernel_rfl) rfl (okWide_bool_mk Try.underlying4 _))⟩

theorem over : Rows.numDividesRow.holds Try.pinned (OpenSpec.ofChange Rows.numDividesSpec) :=
  OpenClaim.holds_of_wide 8 Try.f8 rfl rfl rfl rfl rfl rfl rfl ⟨rfl, rfl, rfl, rfl, rfl⟩ rfl rfl rfl rfl rfl (by kernel_rfl) Try.func8 (by kernel_rfl)
    (of_decide_eq_true (by kernel_rfl)) (by unfold Func.isWrapper; first | (rw [if_pos (by decide +kernel)]; kernel_rfl) | (rw [if_neg (by decide +kernel)]; exact ⟨rfl, rfl⟩))
    (fun os started H enc _ => lifted os started H enc)

theorem proved : Rows.NumDividesSaid :=
  over
end Go.Proofs.Ytflhdohbkhmoaaa.numDivides
namespace Go.Proofs.Ytflhdohbkhmoaaa
theorem numDivides_holds : Rows.NumDividesSaid := numDivides.proved
end Go.Proofs.Ytflhdohbkhmoaaa
