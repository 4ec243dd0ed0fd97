/-
  Package held: HeldFinds tells, for every flow, however it is made, what the document tells. No condition besides.
-/
import Derived.Test.YthdkgfmlihgceaaHdT
import Derived.Test.YthdkgfmlihgceaaHdY
namespace Go.Proofs.Ythdkgfmlihgceaa
open Go.ChangeShapes Go.WideShapes Go.ChangeAt Go.RowKit Go.Deep
theorem oc2 : Try.prog.cellsOf 2 = 1 := by kernel_rfl
theorem oc4 : Try.prog.cellsOf 4 = 1 := by kernel_rfl
theorem oc9 : Try.prog.cellsOf 9 = 1 := by kernel_rfl
theorem oc22 : Try.prog.cellsOf 22 = 1 := by kernel_rfl
theorem oc23 : Try.prog.cellsOf 23 = 1 := by kernel_rfl
theorem oc25 : Try.prog.cellsOf 25 = 5 := by kernel_rfl
theorem oc53 : Try.prog.cellsOf 53 = 1 := by kernel_rfl
theorem oc55 : Try.prog.cellsOf 55 = 6 := by kernel_rfl
theorem oc57 : Try.prog.cellsOf 57 = 15 := by kernel_rfl
theorem i64_of_wf {k : Int} (h : (Lit.int .i64 k).wf = true) : I64 k := by
  have h' : (decide (IntKind.i64.min ≤ k) && decide (k ≤ IntKind.i64.max)) = true := h
  simp only [Bool.and_eq_true, decide_eq_true_eq] at h'
  have e1 : IntKind.i64.min = -9223372036854775808 := by decide
  have e2 : IntKind.i64.max = 9223372036854775807 := by decide
  rw [e1, e2] at h'
  exact h'
theorem list5 {α : Type} {l : List α} (h : l.length = 5) : ∃ a b c d e, l = [a, b, c, d, e] := by
  match l, h with
  | [a, b, c, d, e], _ => exact ⟨a, b, c, d, e, rfl⟩
theorem list6 {α : Type} {l : List α} (h : l.length = 6) : ∃ a b c d e f, l = [a, b, c, d, e, f] := by
  match l, h with
  | [a, b, c, d, e, f], _ => exact ⟨a, b, c, d, e, f, rfl⟩
theorem list10 {α : Type} {l : List α} (h : l.length = 10) : ∃ a b c d e f g h' i j, l = [a, b, c, d, e, f, g, h', i, j] := by
  match l, h with
  | [a, b, c, d, e, f, g, h', i, j], _ => exact ⟨a, b, c, d, e, f, g, h', i, j, rfl⟩
theorem list15 {α : Type} {l : List α} (h : l.length = 15) : ∃ a b c d e f g h' i j k m n o p, l = [a, b, c, d, e, f, g, h', i, j, k, m, n, o, p] := by
  match l, h with
  | [a, b, c, d, e, f, g, h', i, j, k, m, n, o, p], _ => exact ⟨a, b, c, d, e, f, g, h', i, j, k, m, n, o, p, rfl⟩
/-- A slice of whatever comes in is a slice. -/
theorem open_any {H : Type} {enc : TypeId × Value → H} {W : World} {t e : TypeId} {fuel : Nat} {v : Value} {x : DataW H × List MemPlace} (hu : Try.prog.underlying t = some (.slice e)) (h : DataW.trod enc Try.prog W 0 (fun _ => true) true fuel t [v] = some x) : ∃ (ad : Option Addr) (l c : Nat), v = .slice ad l c := by
  rcases DataW.trod_slice hu h with ⟨hv, _⟩ | ⟨a, len, cap, elems, rest, n', _, hv, _⟩
  · simp only [List.cons.injEq, and_true] at hv
    exact ⟨none, 0, 0, hv⟩
  · simp only [List.cons.injEq, and_true] at hv
    exact ⟨some a, len, cap, hv⟩
set_option maxRecDepth 100000 in
theorem open_edge {H : Type} {enc : TypeId × Value → H} {W : World} (fuel : Nat) (cs : List Value) (x : DataW H × List MemPlace) (h : DataW.trod enc Try.prog W 0 (fun _ => true) true fuel 57 cs = some x) : ∃ x : Eg, cs = x.cells ∧ x.Fine := by
  obtain ⟨xs, n, rfl, rfl, hlen, hxl, hf⟩ := DataW.trod_struct Try.underlying57 h
  rw [oc57] at hlen
  obtain ⟨v0, v1, v2, v3, v4, v5, v6, v7, v8, v9, v10, v11, v12, v13, v14, rfl⟩ := list15 hlen
  obtain ⟨y0, y1, y2, y3, y4, y5, y6, y7, y8, y9, rfl⟩ := list10 (show xs.length = 10 from hxl)
  have g0 : DataW.trod enc Try.prog W 0 (fun _ => true) true n 3 [v0] = some y0 := by
    have g : DataW.trod enc Try.prog W 0 (fun _ => true) true n 3 (([v0, v1, v2, v3, v4, v5, v6, v7, v8, v9, v10, v11, v12, v13, v14].drop 0).take (Try.prog.cellsOf 3)) = some y0 := hf 0 _ rfl
    rw [oc3] at g; exact g
  have g1 : DataW.trod enc Try.prog W 0 (fun _ => true) true n 3 [v1] = some y1 := by
    have g : DataW.trod enc Try.prog W 0 (fun _ => true) true n 3 (([v0, v1, v2, v3, v4, v5, v6, v7, v8, v9, v10, v11, v12, v13, v14].drop 1).take (Try.prog.cellsOf 3)) = some y1 := hf 1 _ rfl
    rw [oc3] at g; exact g
  have g2 : DataW.trod enc Try.prog W 0 (fun _ => true) true n 3 [v2] = some y2 := by
    have g : DataW.trod enc Try.prog W 0 (fun _ => true) true n 3 (([v0, v1, v2, v3, v4, v5, v6, v7, v8, v9, v10, v11, v12, v13, v14].drop 2).take (Try.prog.cellsOf 3)) = some y2 := hf 2 _ rfl
    rw [oc3] at g; exact g
  have g3 : DataW.trod enc Try.prog W 0 (fun _ => true) true n 3 [v3] = some y3 := by
    have g : DataW.trod enc Try.prog W 0 (fun _ => true) true n 3 (([v0, v1, v2, v3, v4, v5, v6, v7, v8, v9, v10, v11, v12, v13, v14].drop 3).take (Try.prog.cellsOf 3)) = some y3 := hf 3 _ rfl
    rw [oc3] at g; exact g
  have g4 : DataW.trod enc Try.prog W 0 (fun _ => true) true n 3 [v4] = some y4 := by
    have g : DataW.trod enc Try.prog W 0 (fun _ => true) true n 3 (([v0, v1, v2, v3, v4, v5, v6, v7, v8, v9, v10, v11, v12, v13, v14].drop 4).take (Try.prog.cellsOf 3)) = some y4 := hf 4 _ rfl
    rw [oc3] at g; exact g
  have g5 : DataW.trod enc Try.prog W 0 (fun _ => true) true n 55 [v5, v6, v7, v8, v9, v10] = some y5 := by
    have g : DataW.trod enc Try.prog W 0 (fun _ => true) true n 55 (([v0, v1, v2, v3, v4, v5, v6, v7, v8, v9, v10, v11, v12, v13, v14].drop 5).take (Try.prog.cellsOf 55)) = some y5 := hf 5 _ rfl
    rw [oc55] at g; exact g
  have g6 : DataW.trod enc Try.prog W 0 (fun _ => true) true n 2 [v11] = some y6 := by
    have g : DataW.trod enc Try.prog W 0 (fun _ => true) true n 2 (([v0, v1, v2, v3, v4, v5, v6, v7, v8, v9, v10, v11, v12, v13, v14].drop 11).take (Try.prog.cellsOf 2)) = some y6 := hf 6 _ rfl
    rw [oc2] at g; exact g
  have g7 : DataW.trod enc Try.prog W 0 (fun _ => true) true n 3 [v12] = some y7 := by
    have g : DataW.trod enc Try.prog W 0 (fun _ => true) true n 3 (([v0, v1, v2, v3, v4, v5, v6, v7, v8, v9, v10, v11, v12, v13, v14].drop 12).take (Try.prog.cellsOf 3)) = some y7 := hf 7 _ rfl
    rw [oc3] at g; exact g
  have g8 : DataW.trod enc Try.prog W 0 (fun _ => true) true n 3 [v13] = some y8 := by
    have g : DataW.trod enc Try.prog W 0 (fun _ => true) true n 3 (([v0, v1, v2, v3, v4, v5, v6, v7, v8, v9, v10, v11, v12, v13, v14].drop 13).take (Try.prog.cellsOf 3)) = some y8 := hf 8 _ rfl
    rw [oc3] at g; exact g
  have g9 : DataW.trod enc Try.prog W 0 (fun _ => true) true n 3 [v14] = some y9 := by
    have g : DataW.trod enc Try.prog W 0 (fun _ => true) true n 3 (([v0, v1, v2, v3, v4, v5, v6, v7, v8, v9, v10, v11, v12, v13, v14].drop 14).take (Try.prog.cellsOf 3)) = some y9 := hf 9 _ rfl
    rw [oc3] at g; exact g
  obtain ⟨src, e0, -, w0⟩ := DataW.trod_int Try.underlying3 g0
  obtain ⟨dst, e1, -, w1⟩ := DataW.trod_int Try.underlying3 g1
  obtain ⟨kind, e2, -, w2⟩ := DataW.trod_int Try.underlying3 g2
  obtain ⟨mon, e3, -, w3⟩ := DataW.trod_int Try.underlying3 g3
  obtain ⟨var, e4, -, -⟩ := DataW.trod_int Try.underlying3 g4
  obtain ⟨nn, e11, -, -⟩ := DataW.trod_int Try.underlying2 g6
  obtain ⟨site, e12, -, -⟩ := DataW.trod_int Try.underlying3 g7
  obtain ⟨out, e13, -, -⟩ := DataW.trod_int Try.underlying3 g8
  obtain ⟨pos, e14, -, -⟩ := DataW.trod_int Try.underlying3 g9
  clear hf hlen hxl g0 g1 g2 g3 g4 g6 g7 g8 g9
  obtain ⟨op, s1, s2, k, kad, kl, kc, epos, he⟩ : ∃ (op : Int) (s1 s2 : ByteArray) (k : Int) (kad : Option Addr) (kl kc : Nat) (epos : Int), [v5, v6, v7, v8, v9, v10] = [Value.int .i64 op, .string s1, .string s2, .int .i64 k, .slice kad kl kc, .int .i64 epos] := by
    obtain ⟨zs, n, rfl, hz, hlen, hxl, hf⟩ := DataW.trod_struct Try.underlying55 g5
    clear hz
    obtain ⟨y0, y1, y2, y3, y4, y5', rfl⟩ := list6 (show zs.length = 6 from hxl)
    have g0 : DataW.trod enc Try.prog W 0 (fun _ => true) true n 3 [v5] = some y0 := by
      have g : DataW.trod enc Try.prog W 0 (fun _ => true) true n 3 (([v5, v6, v7, v8, v9, v10].drop 0).take (Try.prog.cellsOf 3)) = some y0 := hf 0 _ rfl
      rw [oc3] at g; exact g
    have g1 : DataW.trod enc Try.prog W 0 (fun _ => true) true n 9 [v6] = some y1 := by
      have g : DataW.trod enc Try.prog W 0 (fun _ => true) true n 9 (([v5, v6, v7, v8, v9, v10].drop 1).take (Try.prog.cellsOf 9)) = some y1 := hf 1 _ rfl
      rw [oc9] at g; exact g
    have g2 : DataW.trod enc Try.prog W 0 (fun _ => true) true n 9 [v7] = some y2 := by
      have g : DataW.trod enc Try.prog W 0 (fun _ => true) true n 9 (([v5, v6, v7, v8, v9, v10].drop 2).take (Try.prog.cellsOf 9)) = some y2 := hf 2 _ rfl
      rw [oc9] at g; exact g
    have g3 : DataW.trod enc Try.prog W 0 (fun _ => true) true n 2 [v8] = some y3 := by
      have g : DataW.trod enc Try.prog W 0 (fun _ => true) true n 2 (([v5, v6, v7, v8, v9, v10].drop 3).take (Try.prog.cellsOf 2)) = some y3 := hf 3 _ rfl
      rw [oc2] at g; exact g
    have g4 : DataW.trod enc Try.prog W 0 (fun _ => true) true n 53 [v9] = some y4 := by
      have g : DataW.trod enc Try.prog W 0 (fun _ => true) true n 53 (([v5, v6, v7, v8, v9, v10].drop 4).take (Try.prog.cellsOf 53)) = some y4 := hf 4 _ rfl
      rw [oc53] at g; exact g
    have g5 : DataW.trod enc Try.prog W 0 (fun _ => true) true n 3 [v10] = some y5' := by
      have g : DataW.trod enc Try.prog W 0 (fun _ => true) true n 3 (([v5, v6, v7, v8, v9, v10].drop 5).take (Try.prog.cellsOf 3)) = some y5' := hf 5 _ rfl
      rw [oc3] at g; exact g
    obtain ⟨op, a0, -, -⟩ := DataW.trod_int Try.underlying3 g0
    obtain ⟨s1, a1, -, -⟩ := DataW.trod_string Try.underlying9 g1
    obtain ⟨s2, a2, -, -⟩ := DataW.trod_string Try.underlying9 g2
    obtain ⟨k, a3, -, -⟩ := DataW.trod_int Try.underlying2 g3
    obtain ⟨kad, kl, kc, a4⟩ := open_any Try.underlying53 g4
    obtain ⟨epos, a5, -, -⟩ := DataW.trod_int Try.underlying3 g5
    simp only [List.cons.injEq, and_true] at a0 a1 a2 a3 a5
    exact ⟨op, s1, s2, k, kad, kl, kc, epos, by rw [a0, a1, a2, a3, a4, a5]⟩
  simp only [List.cons.injEq, and_true] at e0 e1 e2 e3 e4 e11 e12 e13 e14 he
  obtain ⟨b0, b1, b2, b3, b4, b5⟩ := he
  exact ⟨⟨src, dst, kind, mon, var, op, s1, s2, k, kad, kl, kc, epos, nn, site, out, pos⟩, by rw [e0, e1, e2, e3, e4, e11, e12, e13, e14, b0, b1, b2, b3, b4, b5]; rfl, i64_of_wf w0, i64_of_wf w1, i64_of_wf w2, i64_of_wf w3⟩
theorem Eg.cells_len (x : Eg) : x.cells.length = 15 := rfl
instance : Inhabited Eg := ⟨⟨0, 0, 0, 0, 0, 0, ⟨#[]⟩, ⟨#[]⟩, 0, none, 0, 0, 0, 0, 0, 0, 0⟩⟩
set_option maxRecDepth 100000 in
theorem open_flow {H : Type} {enc : TypeId × Value → H} {W : World} {v : Value} {d : DataW H} {p : List MemPlace} {base : Nat} (hv : Value.okWide Try.prog W .any base 25 v) (h : DataW.Trod enc Try.prog W 0 (fun _ => true) true 25 v d p) :
    ∃ f : Fl, v = f.val ∧ f.Is W.heap.size W := by
  obtain ⟨cs, rfl, hsz⟩ := okWide_struct Try.underlying25 hv
  obtain ⟨fuel, hf⟩ := h
  obtain ⟨xs, n, rfl, -, -, hxl, hf⟩ := DataW.trod_struct Try.underlying25 hf
  rw [oc25] at hsz
  rcases cs with ⟨l⟩
  obtain ⟨v0, v1, v2, v3, v4, rfl⟩ := list5 (show l.length = 5 from hsz)
  obtain ⟨y0, y1, y2, y3, y4, rfl⟩ := list5 (show xs.length = 5 from hxl)
  have g0 : DataW.trod enc Try.prog W 0 (fun _ => true) true n 9 [v0] = some y0 := by
    have g : DataW.trod enc Try.prog W 0 (fun _ => true) true n 9 (([v0, v1, v2, v3, v4].drop 0).take (Try.prog.cellsOf 9)) = some y0 := hf 0 _ rfl
    rw [oc9] at g; exact g
  have g1 : DataW.trod enc Try.prog W 0 (fun _ => true) true n 4 [v1] = some y1 := by
    have g : DataW.trod enc Try.prog W 0 (fun _ => true) true n 4 (([v0, v1, v2, v3, v4].drop 1).take (Try.prog.cellsOf 4)) = some y1 := hf 1 _ rfl
    rw [oc4] at g; exact g
  have g2 : DataW.trod enc Try.prog W 0 (fun _ => true) true n 3 [v2] = some y2 := by
    have g : DataW.trod enc Try.prog W 0 (fun _ => true) true n 3 (([v0, v1, v2, v3, v4].drop 2).take (Try.prog.cellsOf 3)) = some y2 := hf 2 _ rfl
    rw [oc3] at g; exact g
  have g3 : DataW.trod enc Try.prog W 0 (fun _ => true) true n 22 [v3] = some y3 := by
    have g : DataW.trod enc Try.prog W 0 (fun _ => true) true n 22 (([v0, v1, v2, v3, v4].drop 3).take (Try.prog.cellsOf 22)) = some y3 := hf 3 _ rfl
    rw [oc22] at g; exact g
  have g4 : DataW.trod enc Try.prog W 0 (fun _ => true) true n 23 [v4] = some y4 := by
    have g : DataW.trod enc Try.prog W 0 (fun _ => true) true n 23 (([v0, v1, v2, v3, v4].drop 4).take (Try.prog.cellsOf 23)) = some y4 := hf 4 _ rfl
    rw [oc23] at g; exact g
  obtain ⟨name, e0, -, -⟩ := DataW.trod_string Try.underlying9 g0
  obtain ⟨star, e1, -⟩ := DataW.trod_bool Try.underlying4 g1
  obtain ⟨locs, e2, -, w2⟩ := DataW.trod_int Try.underlying3 g2
  obtain ⟨ead, ecap, es, e3, hs, hfine⟩ := open_sl (α := Eg) inferInstance (Is := Eg.Fine) (cells := Eg.cells) (size := 15) Try.underlying22 oc57 Eg.cells_len (by decide) g3 (fun n' _ cs x hx => open_edge n' cs x hx)
  obtain ⟨gad, gl, gc, e4⟩ := open_any Try.underlying23 g4
  simp only [List.cons.injEq, and_true] at e0 e1 e2 e3
  exact ⟨⟨name, star, locs, ead, ecap, es, gad, gl, gc⟩, by rw [e0, e1, e2, e3, e4]; rfl, hs, i64_of_wf w2, hfine⟩
set_option maxRecDepth 100000 in
theorem heldFinds_lifted (os : Os) (started : os.Started) (H : Type) (enc : TypeId × Value → H) :
    ReturnsInHanded {} Try.checked os 3 .any (Rows.heldFindsSpec.pre6 enc Try.prog Try.f3 Rows.heldFindsRow.domain false) (Rows.heldFindsSpec.post enc Try.prog Try.f3 false true false false) := by
  refine returnsInHanded_of_change (C := Try.checked) own started (by kernel_rfl) Try.func3
    (ChangeSpec.witness6 (enc := enc) (C := Try.checked) false ⟨#[], #[.agg #[.string ⟨#[]⟩, .bool false, .int .i64 0, .slice none 0 0, .slice none 0 0], .int .i64 0, .int .i64 0], []⟩ 8 (by kernel_rfl) (by kernel_rfl) (by kernel_rfl) (by kernel_rfl)) ?_
  intro W base args ds gs before hval0 hW hcnd _
  have hval : ∀ (j : Nat) t v, Try.f3.params[j]? = some t → args[j]? = some v → Value.okWide Try.prog W .any base t v := hval0
  have hW' := hW
  obtain ⟨p, q, hA0, hV, rfl, hfz, hnd⟩ := hW
  have hA : DataW.TrodAll enc Try.prog W 0 (fun _ => true) true Try.f3.params.toList args.toList ds p := hA0
  rw [Try.params3] at hA hval
  obtain ⟨v0, vs0, d0, ds0, p0, q0, hargs, rfl, rfl, h0, r0⟩ := trodAll_cons hA
  obtain ⟨v1, vs1, d1, ds1, p1, q1, rfl, rfl, rfl, h1, r1⟩ := trodAll_cons r0
  obtain ⟨v2, vs2, d2, ds2, p2, q2, rfl, rfl, rfl, h2, r2⟩ := trodAll_cons r1
  obtain ⟨rfl, rfl, rfl⟩ := trodAll_nil r2
  obtain rfl : args = #[v0, v1, v2] := by cases args; simp_all
  obtain ⟨rfl, rfl⟩ := trodVars_none hV
  have h0k := h0
  obtain ⟨f, rfl, hI⟩ := open_flow (hval 0 25 v0 rfl rfl) h0
  obtain ⟨a1, rfl, rfl, rfl, w1⟩ := open_int Try.underlying3 (hval 1 3 v1 rfl rfl) h1
  obtain ⟨a2, rfl, rfl, rfl, w2⟩ := open_int Try.underlying3 (hval 2 3 v2 rfl rfl) h2
  clear hA0 hval0
  simp only [List.append_nil] at hW'
  have hlt0 : ∀ x ∈ p0, x.block < W.heap.size := fun x hx => hW'.lt x (by simp [hx])
  refine (heldFinds_walk f a1 a2 W.heap.size W (Nat.le_refl _) hI).mono fun e W' ⟨he, hB⟩ => ?_
  subst he
  have ha := Below.trod laidOut (by kernel_rfl) (of_decide_eq_true (by kernel_rfl)) h0k hB hlt0
  have e := trodAll_cons_mk ha (trodAll_cons_mk (shut_int (enc := enc) (w := W') (base := 0) (spare := fun b => decide (b < W.heap.size)) (held := true) Try.underlying3 w1) (trodAll_cons_mk (shut_int Try.underlying3 w2) trodAll_mk0))
  simp only [List.append_nil] at e
  exact ⟨_, rfl, _, _, _, [], p0, [], hW', trodAll_cons_mk (shut_bool Try.underlying4 _) trodAll_mk0, e, rfl, hB.frame _, fun h => by cases h⟩
theorem heldFinds_over : Rows.heldFindsRow.holds Try.pinned (OpenSpec.ofChange Rows.heldFindsSpec) :=
  OpenClaim.holds_of_wide 3 Try.f3 rfl rfl rfl rfl rfl rfl rfl ⟨rfl, rfl, rfl, rfl, rfl⟩ rfl rfl rfl rfl rfl (by kernel_rfl) Try.func3 (by kernel_rfl)
    (of_decide_eq_true (by kernel_rfl)) (by unfold Func.isWrapper; first | (rw [if_pos (by decide +kernel)]; kernel_rfl) | (rw [if_neg (by decide +kernel)]; exact ⟨rfl, rfl⟩))
    (fun os started H enc _ => heldFinds_lifted os started H enc)
theorem heldFinds_holds : Rows.HeldFindsSaid := heldFinds_over
end Go.Proofs.Ythdkgfmlihgceaa
