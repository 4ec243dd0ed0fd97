/-
  Package num: sums and products may be made in any order, what is added and taken away is as before, a product goes over a sum, where all are there. No condition besides.
-/
import Derived.Test.YtflhdohbkhmoaaaNmD
import Derived.WalkKit
import Derived.ProofKit
import Derived.OpenShut
namespace Go.Proofs.Ytflhdohbkhmoaaa.numRing
open Go.ChangeShapes Go.WideShapes Go.ChangeAt Go.RowKit
set_option linter.unusedVariables false

theorem six_ways {y2 y5 y3 y4 y6 : Bool} {x5 x6 : Int} (h : y2 = true → y5 = true → y3 = true → y4 = true → y6 = true → x5 = x6) :
    y2 = false ∨ (y2 = true ∧ y5 = false) ∨ (y2 = true ∧ y5 = true ∧ y3 = false) ∨ (y2 = true ∧ y5 = true ∧ y3 = true ∧ y4 = false) ∨ (y2 = true ∧ y5 = true ∧ y3 = true ∧ y4 = true ∧ y6 = false) ∨ (y2 = true ∧ y5 = true ∧ y3 = true ∧ y4 = true ∧ y6 = true ∧ (x5 != x6) = false) := by
  cases y2 <;> cases y5 <;> cases y3 <;> cases y4 <;> cases y6 <;> simp_all
theorem back_fact (a b : Int) (ha : InR a) (h : fb (a + b) = true) : fv (fv (a + b) - b) = a ∧ fb (fv (a + b) - b) = true := by
  have hi : InR (a + b) := of_decide_eq_true h
  rw [fv_in hi, Int.add_sub_cancel]
  exact ⟨fv_in ha, fb_in ha⟩
theorem ring_fact (a b c : Int) (h1 : fb (b + c) = true) (h2 : fb (a * fv (b + c)) = true) (h3 : fb (a * b) = true) (h4 : fb (a * c) = true) (h5 : fb (fv (a * b) + fv (a * c)) = true) : fv (a * fv (b + c)) = fv (fv (a * b) + fv (a * c)) := by
  have i1 : InR (b + c) := of_decide_eq_true h1
  have i3 : InR (a * b) := of_decide_eq_true h3
  have i4 : InR (a * c) := of_decide_eq_true h4
  rw [fv_in i1, fv_in i3, fv_in i4, Int.mul_add]

theorem own : ownKnob Try.prog.godebug = none := by kernel_rfl

set_option maxRecDepth 100000 in
set_option maxHeartbeats 4000000 in
theorem walk (a0 : Int) (a1 : Int) (a2 : Int) (w0 : (Lit.int .i64 a0).wf = true) (w1 : (Lit.int .i64 a1).wf = true) (w2 : (Lit.int .i64 a2).wf = true) (w : World) :
    Calls Try.prog 7 #[.int .i64 a0, .int .i64 a1, .int .i64 a2] w fun e w' => e = .returned (.bool true) ∧ Grown w w' := by
  have ha := inR_of w0
  have hb := inR_of w1
  have hc := inR_of w2
  have e1 : a1 + a0 = a0 + a1 := Int.add_comm _ _
  have e2 : a1 * a0 = a0 * a1 := Int.mul_comm _ _
  have k1 := fv_inR (a0 + a1)
  have k2 := fv_inR (a1 + a2)
  have k3 := fv_inR (a0 * a1)
  have k4 := fv_inR (a0 * a2)
  have HR := ring_fact a0 a1 a2
  have HB := back_fact a0 a1 ha
  obtain ⟨x1, q1⟩ : ∃ x, fv (a0 + a1) = x := ⟨_, rfl⟩
  obtain ⟨y1, p1⟩ : ∃ x, fb (a0 + a1) = x := ⟨_, rfl⟩
  obtain ⟨x2, q2⟩ : ∃ x, fv (a1 + a2) = x := ⟨_, rfl⟩
  obtain ⟨y2, p2⟩ : ∃ x, fb (a1 + a2) = x := ⟨_, rfl⟩
  obtain ⟨x3, q3⟩ : ∃ x, fv (a0 * a1) = x := ⟨_, rfl⟩
  obtain ⟨y3, p3⟩ : ∃ x, fb (a0 * a1) = x := ⟨_, rfl⟩
  obtain ⟨x4, q4⟩ : ∃ x, fv (a0 * a2) = x := ⟨_, rfl⟩
  obtain ⟨y4, p4⟩ : ∃ x, fb (a0 * a2) = x := ⟨_, rfl⟩
  rw [q1] at k1 HB
  rw [p1] at HB
  rw [q2] at k2 HR
  rw [q3] at k3 HR
  rw [q4] at k4 HR
  rw [p2, p3, p4] at HR
  obtain ⟨x5, q5⟩ : ∃ x, fv (a0 * x2) = x := ⟨_, rfl⟩
  obtain ⟨y5, p5⟩ : ∃ x, fb (a0 * x2) = x := ⟨_, rfl⟩
  obtain ⟨x6, q6⟩ : ∃ x, fv (x3 + x4) = x := ⟨_, rfl⟩
  obtain ⟨y6, p6⟩ : ∃ x, fb (x3 + x4) = x := ⟨_, rfl⟩
  rw [q5, p5, q6, p6] at HR
  have hA : ∀ w, Calls Try.prog 9 #[.int .i64 a0, .int .i64 a1] w fun r w' => r = .returned (.tuple #[.int .i64 x1, .bool y1]) ∧ w' = w := fun w => by have := add_any ha hb w; unfold two at this; rwa [q1, p1] at this
  have hB : ∀ w, Calls Try.prog 9 #[.int .i64 a1, .int .i64 a0] w fun r w' => r = .returned (.tuple #[.int .i64 x1, .bool y1]) ∧ w' = w := fun w => by have := add_any hb ha w; unfold two at this; rwa [e1, q1, p1] at this
  have hC : ∀ w, Calls Try.prog 16 #[.int .i64 a0, .int .i64 a1] w fun r w' => r = .returned (.tuple #[.int .i64 x3, .bool y3]) ∧ w' = w := fun w => by have := mul_any ha hb w; unfold two at this; rwa [q3, p3] at this
  have hD : ∀ w, Calls Try.prog 16 #[.int .i64 a1, .int .i64 a0] w fun r w' => r = .returned (.tuple #[.int .i64 x3, .bool y3]) ∧ w' = w := fun w => by have := mul_any hb ha w; unfold two at this; rwa [e2, q3, p3] at this
  have hE : ∀ w, Calls Try.prog 9 #[.int .i64 a1, .int .i64 a2] w fun r w' => r = .returned (.tuple #[.int .i64 x2, .bool y2]) ∧ w' = w := fun w => by have := add_any hb hc w; unfold two at this; rwa [q2, p2] at this
  have hF : ∀ w, Calls Try.prog 16 #[.int .i64 a0, .int .i64 x2] w fun r w' => r = .returned (.tuple #[.int .i64 x5, .bool y5]) ∧ w' = w := fun w => by have := mul_any ha k2 w; unfold two at this; rwa [q5, p5] at this
  have hG : ∀ w, Calls Try.prog 16 #[.int .i64 a0, .int .i64 a2] w fun r w' => r = .returned (.tuple #[.int .i64 x4, .bool y4]) ∧ w' = w := fun w => by have := mul_any ha hc w; unfold two at this; rwa [q4, p4] at this
  have hH : ∀ w, Calls Try.prog 9 #[.int .i64 x3, .int .i64 x4] w fun r w' => r = .returned (.tuple #[.int .i64 x6, .bool y6]) ∧ w' = w := fun w => by have := add_any k3 k4 w; unfold two at this; rwa [q6, p6] at this
  have hI : y1 = true → ∀ w, Calls Try.prog 11 #[.int .i64 x1, .int .i64 a1] w fun r w' => r = .returned (.tuple #[.int .i64 a0, .bool true]) ∧ w' = w := fun h w => by have := sub_any k1 hb w; unfold two at this; rwa [(HB h).1, (HB h).2] at this
  clear ha hb hc e1 e2 k1 k2 k3 k4 HB q1 q2 q3 q4 q5 q6 p1 p2 p3 p4 p5 p6 w0 w1 w2
  cases hy1 : y1
  · clear hI
    subst hy1
    have hk := six_ways HR
    clear HR
    rcases hk with rfl | ⟨rfl, rfl⟩ | ⟨rfl, rfl, rfl⟩ | ⟨rfl, rfl, rfl, rfl⟩ | ⟨rfl, rfl, rfl, rfl, rfl⟩ | ⟨rfl, rfl, rfl, rfl, rfl, hx⟩
    all_goals go_enter Try.func7, Try.ntmps7
    all_goals go_wp2_with (first | (go_at_call 9; (first | (with_reducible refine (hA _).mono ?_) | (with_reducible refine (hB _).mono ?_) | (with_reducible refine (hE _).mono ?_) | (with_reducible refine (hH _).mono ?_)); rintro e w' ⟨rfl, rfl⟩) | (go_at_call 16; (first | (with_reducible refine (hC _).mono ?_) | (with_reducible refine (hD _).mono ?_) | (with_reducible refine (hF _).mono ?_) | (with_reducible refine (hG _).mono ?_)); rintro e w' ⟨rfl, rfl⟩) | (go_at_call 15; refine (live_any _).mono ?_; rintro e w' ⟨rfl, hg⟩))
    all_goals go_ret
    all_goals exact ⟨rfl, hg⟩
  · replace hI := hI hy1
    subst hy1
    have hk := six_ways HR
    clear HR
    rcases hk with rfl | ⟨rfl, rfl⟩ | ⟨rfl, rfl, rfl⟩ | ⟨rfl, rfl, rfl, rfl⟩ | ⟨rfl, rfl, rfl, rfl, rfl⟩ | ⟨rfl, rfl, rfl, rfl, rfl, hx⟩
    all_goals go_enter Try.func7, Try.ntmps7
    all_goals go_wp2_with (first | (go_at_call 9; (first | (with_reducible refine (hA _).mono ?_) | (with_reducible refine (hB _).mono ?_) | (with_reducible refine (hE _).mono ?_) | (with_reducible refine (hH _).mono ?_)); rintro e w' ⟨rfl, rfl⟩) | (go_at_call 16; (first | (with_reducible refine (hC _).mono ?_) | (with_reducible refine (hD _).mono ?_) | (with_reducible refine (hF _).mono ?_) | (with_reducible refine (hG _).mono ?_)); rintro e w' ⟨rfl, rfl⟩) | (go_at_call 11; refine (hI _).mono ?_; rintro e w' ⟨rfl, rfl⟩) | (go_at_call 15; refine (live_any _).mono ?_; rintro e w' ⟨rfl, hg⟩))
    all_goals go_ret
    all_goals exact ⟨rfl, hg⟩

set_option maxRecDepth 100000 in
theorem lifted (os : Os) (started : os.Started) (H : Type) (enc : TypeId × Value → H) :
    ReturnsInHanded {} Try.checked os 7 .any (Rows.numRingSpec.pre6 enc Try.prog Try.f7 Rows.numRingRow.domain false) (Rows.numRingSpec.post enc Try.prog Try.f7 false true false false) := by
  refine returnsInHanded_of_change (C := Try.checked) own started (by kernel_rfl) Try.func7
    (ChangeSpec.witness6 (enc := enc) (C := Try.checked) false ⟨#[], #[.int .i64 0, .int .i64 0, .int .i64 0], []⟩ 8 (by kernel_rfl) (by kernel_rfl) (by kernel_rfl) (by kernel_rfl)) ?_
  intro W base args ds gs before hval0 hW hcnd _
  have hval : ∀ (j : Nat) t v, Try.f7.params[j]? = some t → args[j]? = some v → Value.okWide Try.prog W .any base t v := hval0
  have hW' := hW
  obtain ⟨p, q, hA0, hV, rfl, hfz, hnd⟩ := hW
  have hA : DataW.TrodAll enc Try.prog W 0 (fun _ => true) true Try.f7.params.toList args.toList ds p := hA0
  rw [Try.params7] at hA hval
  obtain ⟨v0, vs0, d0, ds0, p0, q0, hargs, rfl, rfl, h0, r0⟩ := trodAll_cons hA
  obtain ⟨v1, vs1, d1, ds1, p1, q1, rfl, rfl, rfl, h1, r1⟩ := trodAll_cons r0
  obtain ⟨v2, vs2, d2, ds2, p2, q2, rfl, rfl, rfl, h2, r2⟩ := trodAll_cons r1
  obtain ⟨rfl, rfl, rfl⟩ := trodAll_nil r2
  obtain rfl : args = #[v0, v1, v2] := by cases args; simp_all
  obtain ⟨rfl, rfl⟩ := trodVars_none hV
  obtain ⟨a0, rfl, rfl, rfl, w0⟩ := open_int Try.underlying2 (hval 0 2 v0 rfl rfl) h0
  obtain ⟨a1, rfl, rfl, rfl, w1⟩ := open_int Try.underlying2 (hval 1 2 v1 rfl rfl) h1
  obtain ⟨a2, rfl, rfl, rfl, w2⟩ := open_int Try.underlying2 (hval 2 2 v2 rfl rfl) h2
  clear hA0 hval0
  simp only [List.append_nil] at hW'
  refine (walk a0 a1 a2 w0 w1 w2 W).mono fun e W' ⟨he, hg⟩ => ?_
  subst he
  exact ⟨_, rfl, post_of_same (pa := []) (pv := []) hW' (fun _ _ _ => (trodAll_cons_mk (shut_bool Try.underlying4 _) trodAll_mk0)) (fun sp _ => (trodAll_cons_mk (shut_int Try.underlying2 w0) (trodAll_cons_mk (shut_int Try.underlying2 w1) (trodAll_cons_mk (shut_int Try.underlying2 w2) trodAll_mk0)))) (fun _ _ => rfl) rfl
    (hg.frame _) hg.2.1 (ok_one (by kernel_rfl) rfl (okWide_bool_mk Try.underlying4 _))⟩

theorem over : Rows.numRingRow.holds Try.pinned (OpenSpec.ofChange Rows.numRingSpec) :=
  OpenClaim.holds_of_wide 7 Try.f7 rfl rfl rfl rfl rfl rfl rfl ⟨rfl, rfl, rfl, rfl, rfl⟩ rfl rfl rfl rfl rfl (by kernel_rfl) Try.func7 (by kernel_rfl)
    (of_decide_eq_true (by kernel_rfl)) (by unfold Func.isWrapper; first | (rw [if_pos (by decide +kernel)]; kernel_rfl) | (rw [if_neg (by decide +kernel)]; exact ⟨rfl, rfl⟩))
    (fun os started H enc _ => lifted os started H enc)

theorem proved : Rows.NumRingSaid :=
  over
end Go.Proofs.Ytflhdohbkhmoaaa.numRing
namespace Go.Proofs.Ytflhdohbkhmoaaa
theorem numRing_holds : Rows.NumRingSaid := numRing.proved
end Go.Proofs.Ytflhdohbkhmoaaa
