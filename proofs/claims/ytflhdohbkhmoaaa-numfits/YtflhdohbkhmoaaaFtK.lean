/-
  Package num: Fits tells, for every variable and every number, what the document tells. No condition besides.
-/
import Derived.Test.YtflhdohbkhmoaaaNmF
namespace Go.Proofs.Ytflhdohbkhmoaaa.numFits
open Go.ChangeShapes Go.WideShapes Go.ChangeAt Go.RowKit
theorem own : ownKnob Try.prog.godebug = none := by kernel_rfl
theorem laidOut : laidOutB Try.prog = true := by kernel_rfl
theorem c28 : Try.prog.cellsOf 28 = 6 := by kernel_rfl
theorem c2 : Try.prog.cellsOf 2 = 1 := by kernel_rfl
theorem c3 : Try.prog.cellsOf 3 = 1 := by kernel_rfl
theorem c9 : Try.prog.cellsOf 9 = 1 := by kernel_rfl
theorem list6 {α : Type} {l : List α} (h : l.length = 6) : ∃ a b c d e f, l = [a, b, c, d, e, f] := by
  match l, h with
  | [a, b, c, d, e, f], _ => exact ⟨a, b, c, d, e, f, rfl⟩
set_option maxRecDepth 100000 in
theorem open_var {H : Type} {enc : TypeId × Value → H} {W : World} {base : Nat} {v : Value} {d : DataW H} {p : List MemPlace} (hv : Value.okWide Try.prog W .any base 28 v) (h : DataW.Trod enc Try.prog W 0 (fun _ => true) true 28 v d p) :
    ∃ (nm : ByteArray) (t lo hi i at_ : Int), v = .agg #[.string nm, .int .i64 t, .int .i64 lo, .int .i64 hi, .int .i64 i, .int .i64 at_] := by
  obtain ⟨cs, rfl, hsz⟩ := okWide_struct Try.underlying28 hv
  obtain ⟨fuel, hf⟩ := h
  obtain ⟨xs, n, rfl, -, -, hxl, hf⟩ := DataW.trod_struct Try.underlying28 hf
  rw [c28] at hsz
  rcases cs with ⟨l⟩
  obtain ⟨v0, v1, v2, v3, v4, v5, rfl⟩ := list6 (show l.length = 6 from hsz)
  obtain ⟨y0, y1, y2, y3, y4, y5, rfl⟩ := list6 (show xs.length = 6 from hxl)
  have g0 : DataW.trod enc Try.prog W 0 (fun _ => true) true n 9 [v0] = some y0 := by
    have g : DataW.trod enc Try.prog W 0 (fun _ => true) true n 9 (([v0, v1, v2, v3, v4, v5].drop 0).take (Try.prog.cellsOf 9)) = some y0 := hf 0 _ rfl
    rw [c9] at g; exact g
  have g1 : DataW.trod enc Try.prog W 0 (fun _ => true) true n 3 [v1] = some y1 := by
    have g : DataW.trod enc Try.prog W 0 (fun _ => true) true n 3 (([v0, v1, v2, v3, v4, v5].drop 1).take (Try.prog.cellsOf 3)) = some y1 := hf 1 _ rfl
    rw [c3] at g; exact g
  have g2 : DataW.trod enc Try.prog W 0 (fun _ => true) true n 2 [v2] = some y2 := by
    have g : DataW.trod enc Try.prog W 0 (fun _ => true) true n 2 (([v0, v1, v2, v3, v4, v5].drop 2).take (Try.prog.cellsOf 2)) = some y2 := hf 2 _ rfl
    rw [c2] at g; exact g
  have g3 : DataW.trod enc Try.prog W 0 (fun _ => true) true n 2 [v3] = some y3 := by
    have g : DataW.trod enc Try.prog W 0 (fun _ => true) true n 2 (([v0, v1, v2, v3, v4, v5].drop 3).take (Try.prog.cellsOf 2)) = some y3 := hf 3 _ rfl
    rw [c2] at g; exact g
  have g4 : DataW.trod enc Try.prog W 0 (fun _ => true) true n 2 [v4] = some y4 := by
    have g : DataW.trod enc Try.prog W 0 (fun _ => true) true n 2 (([v0, v1, v2, v3, v4, v5].drop 4).take (Try.prog.cellsOf 2)) = some y4 := hf 4 _ rfl
    rw [c2] at g; exact g
  have g5 : DataW.trod enc Try.prog W 0 (fun _ => true) true n 3 [v5] = some y5 := by
    have g : DataW.trod enc Try.prog W 0 (fun _ => true) true n 3 (([v0, v1, v2, v3, v4, v5].drop 5).take (Try.prog.cellsOf 3)) = some y5 := hf 5 _ rfl
    rw [c3] at g; exact g
  obtain ⟨nm, e0, -, -⟩ := DataW.trod_string Try.underlying9 g0
  obtain ⟨t, e1, -, -⟩ := DataW.trod_int Try.underlying3 g1
  obtain ⟨lo, e2, -, -⟩ := DataW.trod_int Try.underlying2 g2
  obtain ⟨hi, e3, -, -⟩ := DataW.trod_int Try.underlying2 g3
  obtain ⟨i, e4, -, -⟩ := DataW.trod_int Try.underlying2 g4
  obtain ⟨at_, e5, -, -⟩ := DataW.trod_int Try.underlying3 g5
  simp only [List.cons.injEq, and_true] at e0 e1 e2 e3 e4 e5
  exact ⟨nm, t, lo, hi, i, at_, by rw [e0, e1, e2, e3, e4, e5]⟩
set_option maxRecDepth 100000 in
theorem lifted (os : Os) (started : os.Started) (H : Type) (enc : TypeId × Value → H) :
    ReturnsInHanded {} Try.checked os 5 .any (Rows.numFitsSpec.pre6 enc Try.prog Try.f5 Rows.numFitsRow.domain false) (Rows.numFitsSpec.post enc Try.prog Try.f5 false true false false) := by
  refine returnsInHanded_of_change (C := Try.checked) own started (by kernel_rfl) Try.func5
    (ChangeSpec.witness6 (enc := enc) (C := Try.checked) false ⟨#[], #[.agg #[.string ⟨#[]⟩, .int .i64 0, .int .i64 0, .int .i64 0, .int .i64 0, .int .i64 0], .int .i64 0], []⟩ 8 (by kernel_rfl) (by kernel_rfl) (by kernel_rfl) (by kernel_rfl)) ?_
  intro W base args ds gs before hval0 hW hcnd _
  have hval : ∀ (j : Nat) t v, Try.f5.params[j]? = some t → args[j]? = some v → Value.okWide Try.prog W .any base t v := hval0
  have hW' := hW
  obtain ⟨p, q, hA0, hV, rfl, hfz, hnd⟩ := hW
  have hA : DataW.TrodAll enc Try.prog W 0 (fun _ => true) true Try.f5.params.toList args.toList ds p := hA0
  rw [Try.params5] at hA hval
  obtain ⟨v0, vs0, d0, ds0, p0, q0, hargs, rfl, rfl, h0, r0⟩ := trodAll_cons hA
  obtain ⟨v1, vs1, d1, ds1, p1, q1, rfl, rfl, rfl, h1, r1⟩ := trodAll_cons r0
  obtain ⟨rfl, rfl, rfl⟩ := trodAll_nil r1
  obtain rfl : args = #[v0, v1] := by cases args; simp_all
  obtain ⟨rfl, rfl⟩ := trodVars_none hV
  have h0k := h0
  obtain ⟨nm, t, lo, hi, i, at_, rfl⟩ := open_var (hval 0 28 v0 rfl rfl) h0
  obtain ⟨a1, rfl, rfl, rfl, w1⟩ := open_int Try.underlying2 (hval 1 2 v1 rfl rfl) h1
  clear hA0 hval0
  simp only [List.append_nil] at hW'
  have hlt : ∀ x ∈ p0, x.block < W.heap.size := fun x hx => by simpa using hW'.lt x hx
  refine (walkF nm t lo hi i at_ a1 W).mono fun e W' ⟨he, hg⟩ => ?_
  subst he
  exact ⟨_, rfl, post_of_same (pa := p0) (pv := []) hW' (fun _ _ _ => (trodAll_cons_mk (shut_bool Try.underlying4 _) trodAll_mk0)) (fun sp hsp => by
      have := WideElems.Trod_stays (sp' := sp) laidOut (by kernel_rfl) (of_decide_eq_true (by kernel_rfl)) h0k (fun x hx => hg.1.same (hlt x hx)) (fun x hx => hsp x hx)
      have e := trodAll_cons_mk this (trodAll_cons_mk (shut_int Try.underlying2 w1) trodAll_mk0)
      rw [List.append_nil, List.append_nil] at e
      exact e) (fun _ _ => rfl) (by simp)
    (hg.1.frame _) hg.2 (ok_one (by kernel_rfl) rfl (okWide_bool_mk Try.underlying4 _))⟩
theorem over : Rows.numFitsRow.holds Try.pinned (OpenSpec.ofChange Rows.numFitsSpec) :=
  OpenClaim.holds_of_wide 5 Try.f5 rfl rfl rfl rfl rfl rfl rfl ⟨rfl, rfl, rfl, rfl, rfl⟩ rfl rfl rfl rfl rfl (by kernel_rfl) Try.func5 (by kernel_rfl)
    (of_decide_eq_true (by kernel_rfl)) (by unfold Func.isWrapper; first | (rw [if_pos (by decide +kernel)]; kernel_rfl) | (rw [if_neg (by decide +kernel)]; exact ⟨rfl, rfl⟩))
    (fun os started H enc _ => lifted os started H enc)
end Go.Proofs.Ytflhdohbkhmoaaa.numFits
namespace Go.Proofs.Ytflhdohbkhmoaaa
theorem numFits_holds : Rows.NumFitsSaid := numFits.over
end Go.Proofs.Ytflhdohbkhmoaaa
