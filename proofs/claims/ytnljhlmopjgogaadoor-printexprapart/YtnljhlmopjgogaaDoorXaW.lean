/-
  Unlike expressions have unlike texts: the walk.
-/
import Derived.Test.YtnljhlmopjgogaaDoorLvD
import Derived.Test.YtnljhlmopjgogaaDoorUrB
import Derived.Deep.RegionHeld3
import Derived.Deep.Cut
namespace Go.Proofs.YtnljhlmopjgogaaDoor
open Go.RowKit Px
/-- What Expr answers: a text with no error, or an error. -/
theorem exprOut_two (e : Ex) : ∃ (s : ByteArray) (c : Int), exprOut e = .tuple #[.string s, .int .i64 c] ∧ ((c = 0 ∧ e.ok = true ∧ s.data.toList = e.txt 1) ∨ (0 < c ∧ c ≤ 41)) := by
  unfold exprOut
  cases h : e.ok
  · exact ⟨⟨#[]⟩, 20, by simp, .inr ⟨by omega, by omega⟩⟩
  · simp only [if_true]
    split
    · exact ⟨_, _, rfl, .inr ⟨by omega, by omega⟩⟩
    · unfold toldOf
      split
      · exact ⟨_, _, rfl, .inr ⟨by omega, by omega⟩⟩
      · exact ⟨⟨(e.txt 1).toArray⟩, 0, rfl, .inl ⟨rfl, trivial, by simp⟩⟩
set_option maxRecDepth 100000 in
set_option maxHeartbeats 4000000 in
theorem printExprApart_walk (a b : Ex) (w : World) (hL : Laid w) (ha : a.Is w.heap.size w) (hb : b.Is w.heap.size w) :
    Calls Tryd.prog 5 #[a.val, b.val] w fun r w' => r = .returned (.bool true) ∧ Below w.heap.size w w' := by
  have h3 := hL.size
  have hca := rest_count a 400
  have hcb := rest_count b 400
  obtain ⟨ra, hra⟩ : ∃ ra, restE a 400 = ra := ⟨_, rfl⟩
  obtain ⟨rb, hrb⟩ : ∃ rb, restE b 400 = rb := ⟨_, rfl⟩
  have h7a : ∀ W, Below w.heap.size w W → Calls Tryd.prog 7 #[a.val, .int .i64 400] W fun r w' => r = .returned (.int .i64 ra) ∧ Below W.heap.size W w' := fun W hW => by
    have := restExpr_any w.heap.size a 400 W (by omega) (by omega) hW.size (ha.below hW)
    rwa [hra] at this
  have h7b : ∀ W, Below w.heap.size w W → Calls Tryd.prog 7 #[b.val, .int .i64 400] W fun r w' => r = .returned (.int .i64 rb) ∧ Below W.heap.size W w' := fun W hW => by
    have := restExpr_any w.heap.size b 400 W (by omega) (by omega) hW.size (hb.below hW)
    rwa [hrb] at this
  rw [hra] at hca
  rw [hrb] at hcb
  clear hra hrb
  have h8 : ∀ W, Below w.heap.size w W → Calls Tryd.prog 8 #[] W fun r w' => r = .returned (.bool true) ∧ Below W.heap.size W w' := fun W hW => live_any W (hL.below hW h3)
  have h17 : ∀ W, Below w.heap.size w W → Calls Tryd.prog 17 #[a.val, b.val] W fun r w' => r = .returned (.bool (a.same b)) ∧ Below W.heap.size W w' := fun W hW => sameExpr_any w.heap.size a b W hW.size (ha.below hW) (hb.below hW)
  obtain ⟨s, c, hsc, hA⟩ := exprOut_two a
  obtain ⟨t, d, htd, hB⟩ := exprOut_two b
  have h9a : 0 ≤ ra → ∀ W, Below w.heap.size w W → Calls Tryd.prog 9 #[a.val] W fun r w' => r = .returned (.tuple #[.string s, .int .i64 c]) ∧ Below W.heap.size W w' := fun h W hW => by
    have := printExpr_any a w.heap.size W hW.size (ha.below hW) (hL.below hW h3) (by have := hca h; omega)
    rwa [hsc] at this
  have h9b : 0 ≤ rb → ∀ W, Below w.heap.size w W → Calls Tryd.prog 9 #[b.val] W fun r w' => r = .returned (.tuple #[.string t, .int .i64 d]) ∧ Below W.heap.size W w' := fun h W hW => by
    have := printExpr_any b w.heap.size W hW.size (hb.below hW) (hL.below hW h3) (by have := hcb h; omega)
    rwa [htd] at this
  have HQ : Hid (c = 0 → d = 0 → (s.toList == t.toList) = a.same b) := by
    intro hc0 hd0
    rcases hA with ⟨_, ka, ta⟩ | ⟨h, _⟩
    · rcases hB with ⟨_, kb, tb⟩ | ⟨h, _⟩
      · rw [txt_inj ka kb, ← ta, ← tb, ByteArray.toList_eq, ByteArray.toList_eq, Bool.eq_iff_iff, beq_iff_eq, decide_eq_true_iff]
      · omega
    · omega
  have hc : 0 ≤ c ∧ c ≤ 41 := by rcases hA with ⟨h, _⟩ | ⟨h1, h2⟩ <;> omega
  have hd : 0 ≤ d ∧ d ≤ 41 := by rcases hB with ⟨h, _⟩ | ⟨h1, h2⟩ <;> omega
  obtain ⟨sm, hsm⟩ : ∃ sm, a.same b = sm := ⟨_, rfl⟩
  rw [hsm] at HQ
  simp only [hsm] at h17
  clear hsm hsc htd hA hB ha hb hca hcb
  rcases a with ⟨op, mon, name, n, ad, cap, kids, pos⟩
  rcases b with ⟨op', mon', name', n', ad', cap', kids', pos'⟩
  simp only [Ex.val, Ex.cells] at h7a h7b h9a h9b h17 ⊢
  have B1 : Below w.heap.size w ((w.alloc (.cells #[.int .i64 op, .string mon, .string name, .int .i64 n, .slice ad kids.length cap, .int .i64 pos] 24)).alloc (.cells #[.int .i64 op', .string mon', .string name', .int .i64 n', .slice ad' kids'.length cap', .int .i64 pos'] 24)) := ((Below.refl _ w).al le_rfl' _).al le_rfl' _
  have hcX : ExBox _ w.heap.size (.mk op mon name n ad cap kids pos) := (ExBox.new w (.mk op mon name n ad cap kids pos)).below ((Below.refl _ (w.alloc (.cells #[.int .i64 op, .string mon, .string name, .int .i64 n, .slice ad kids.length cap, .int .i64 pos] 24))).al le_rfl' (.cells #[.int .i64 op', .string mon', .string name', .int .i64 n', .slice ad' kids'.length cap', .int .i64 pos'] 24)) (by simp)
  have hcY : ExBox ((w.alloc (.cells #[.int .i64 op, .string mon, .string name, .int .i64 n, .slice ad kids.length cap, .int .i64 pos] 24)).alloc (.cells #[.int .i64 op', .string mon', .string name', .int .i64 n', .slice ad' kids'.length cap', .int .i64 pos'] 24)) (w.heap.size + 1) (.mk op' mon' name' n' ad' cap' kids' pos') := by
    have := ExBox.new (w.alloc (.cells #[.int .i64 op, .string mon, .string name, .int .i64 n, .slice ad kids.length cap, .int .i64 pos] 24)) (.mk op' mon' name' n' ad' cap' kids' pos')
    rwa [World.size_alloc] at this
  have h7x := h7a _ B1
  have hzX := hcX.lt
  have hzY := hcY.lt
  by_cases hr : ra < 0
  · go_enter Tryd.func5, Tryd.ntmps5
    go_wp2_with (first
      | (go_at_call 7; (with_reducible refine h7x.mono ?_); rintro r w1 ⟨rfl, b1⟩; have B2 := B1.tr le_rfl' b1; have h8a := h8 w1 B2)
      | (go_at_call 8; (with_reducible refine h8a.mono ?_); rintro r w2 ⟨rfl, b2⟩))
    go_ret
    exact ⟨rfl, B2.tr le_rfl' b2⟩
  · have hrd : decide (ra < 0) = false := decide_eq_false hr
    have hr0 : 0 ≤ ra := by omega
    have h9a := h9a hr0
    clear hr hr0
    by_cases hr : rb < 0
    · go_enter Tryd.func5, Tryd.ntmps5
      go_wp2_with (first
        | (go_at_call 7; (with_reducible refine h7x.mono ?_); rintro r w1 ⟨rfl, b1⟩; have B2 := B1.tr le_rfl' b1; have bY := hcY.below b1 hzY; obtain ⟨f0, f1, f2, f3, f4, f5⟩ := bY.cells; have h7y := h7b w1 B2)
        | (go_at_call 7; (with_reducible refine h7y.mono ?_); rintro r w2 ⟨rfl, b2⟩; have B3 := B2.tr le_rfl' b2; have h8a := h8 w2 B3)
        | (go_at_call 8; (with_reducible refine h8a.mono ?_); rintro r w3 ⟨rfl, b3⟩))
      go_ret
      exact ⟨rfl, B3.tr le_rfl' b3⟩
    · have hrd2 : decide (rb < 0) = false := decide_eq_false hr
      have hr0 : 0 ≤ rb := by omega
      have h9b := h9b hr0
      clear hr hr0
      by_cases hcd : c + d = 0
      · have hc0 : c = 0 := by omega
        have hd0 : d = 0 := by omega
        subst hc0 hd0
        have hq := HQ.out rfl rfl
        clear HQ hc hd hcd
        cases sm
        · have hq2 : ¬ s.toList = t.toList := by intro h; rw [h] at hq; simp at hq
          go_enter Tryd.func5, Tryd.ntmps5
          go_wp2_with (first
        | (go_at_call 7; (with_reducible refine h7x.mono ?_); rintro r w1 ⟨rfl, b1⟩; have B2 := B1.tr le_rfl' b1; have bX := hcX.below b1 hzX; have bY := hcY.below b1 hzY; have zX := bX.lt; have zY := bY.lt; obtain ⟨f0, f1, f2, f3, f4, f5⟩ := bY.cells; have h7y := h7b w1 B2)
        | (go_at_call 7; (with_reducible refine h7y.mono ?_); rintro r w2 ⟨rfl, b2⟩; have B3 := B2.tr le_rfl' b2; have cX := bX.below b2 zX; have cY := bY.below b2 zY; have yX := cX.lt; have yY := cY.lt; clear f0 f1 f2 f3 f4 f5; obtain ⟨f0, f1, f2, f3, f4, f5⟩ := cX.cells; have h9x := h9a w2 B3)
        | (go_at_call 9; (with_reducible refine h9x.mono ?_); rintro r w3 ⟨rfl, b3⟩; have B4 := B3.tr le_rfl' b3; have dX := cX.below b3 yX; have dY := cY.below b3 yY; have xX := dX.lt; have xY := dY.lt; clear f0 f1 f2 f3 f4 f5; obtain ⟨f0, f1, f2, f3, f4, f5⟩ := dY.cells; have h9y := h9b w3 B4)
        | (go_at_call 9; (with_reducible refine h9y.mono ?_); rintro r w4 ⟨rfl, b4⟩; have B5 := B4.tr le_rfl' b4; have eX := dX.below b4 xX; have eY := dY.below b4 xY; clear f0 f1 f2 f3 f4 f5; obtain ⟨f0, f1, f2, f3, f4, f5⟩ := eX.cells; obtain ⟨e0, e1, e2, e3, e4, e5⟩ := eY.cells; have h8a := h8 w4 B5; have h17a := h17 w4 B5)
        | (go_at_call 11; (with_reducible refine (num_any3 _ _).mono ?_); rintro r w' ⟨rfl, hw'⟩; have hw2 := hw'.symm; subst hw2)
        | (go_at_call 17; (with_reducible refine h17a.mono ?_); rintro r w5 ⟨rfl, b5⟩; have B6 := B5.tr le_rfl' b5; have h8b := h8 w5 B6)
        | (go_at_call 8; (with_reducible refine h8b.mono ?_); rintro r w6 ⟨rfl, b6⟩))
          go_ret
          exact ⟨rfl, B6.tr le_rfl' b6⟩
        · have hst : s = t := by
            have := eq_of_beq hq
            rw [ByteArray.toList_eq, ByteArray.toList_eq] at this
            rcases s with ⟨s⟩; rcases t with ⟨t⟩
            exact congrArg ByteArray.mk (Array.toList_inj.1 this)
          subst hst
          clear hq
          go_enter Tryd.func5, Tryd.ntmps5
          go_wp2_with (first
        | (go_at_call 7; (with_reducible refine h7x.mono ?_); rintro r w1 ⟨rfl, b1⟩; have B2 := B1.tr le_rfl' b1; have bX := hcX.below b1 hzX; have bY := hcY.below b1 hzY; have zX := bX.lt; have zY := bY.lt; obtain ⟨f0, f1, f2, f3, f4, f5⟩ := bY.cells; have h7y := h7b w1 B2)
        | (go_at_call 7; (with_reducible refine h7y.mono ?_); rintro r w2 ⟨rfl, b2⟩; have B3 := B2.tr le_rfl' b2; have cX := bX.below b2 zX; have cY := bY.below b2 zY; have yX := cX.lt; have yY := cY.lt; clear f0 f1 f2 f3 f4 f5; obtain ⟨f0, f1, f2, f3, f4, f5⟩ := cX.cells; have h9x := h9a w2 B3)
        | (go_at_call 9; (with_reducible refine h9x.mono ?_); rintro r w3 ⟨rfl, b3⟩; have B4 := B3.tr le_rfl' b3; have dX := cX.below b3 yX; have dY := cY.below b3 yY; have xX := dX.lt; have xY := dY.lt; clear f0 f1 f2 f3 f4 f5; obtain ⟨f0, f1, f2, f3, f4, f5⟩ := dY.cells; have h9y := h9b w3 B4)
        | (go_at_call 9; (with_reducible refine h9y.mono ?_); rintro r w4 ⟨rfl, b4⟩; have B5 := B4.tr le_rfl' b4; have eX := dX.below b4 xX; have eY := dY.below b4 xY; clear f0 f1 f2 f3 f4 f5; obtain ⟨f0, f1, f2, f3, f4, f5⟩ := eX.cells; obtain ⟨e0, e1, e2, e3, e4, e5⟩ := eY.cells; have h8a := h8 w4 B5; have h17a := h17 w4 B5)
        | (go_at_call 11; (with_reducible refine (num_any3 _ _).mono ?_); rintro r w' ⟨rfl, hw'⟩; have hw2 := hw'.symm; subst hw2)
        | (go_at_call 17; (with_reducible refine h17a.mono ?_); rintro r w5 ⟨rfl, b5⟩; have B6 := B5.tr le_rfl' b5; have h8b := h8 w5 B6)
        | (go_at_call 8; (with_reducible refine h8b.mono ?_); rintro r w6 ⟨rfl, b6⟩))
          go_ret
          exact ⟨rfl, B6.tr le_rfl' b6⟩
      · have hcd2 : (c + d == 0) = false := by simp [hcd]
        clear HQ
        go_enter Tryd.func5, Tryd.ntmps5
        go_wp2_with (first
        | (go_at_call 7; (with_reducible refine h7x.mono ?_); rintro r w1 ⟨rfl, b1⟩; have B2 := B1.tr le_rfl' b1; have bX := hcX.below b1 hzX; have bY := hcY.below b1 hzY; have zX := bX.lt; have zY := bY.lt; obtain ⟨f0, f1, f2, f3, f4, f5⟩ := bY.cells; have h7y := h7b w1 B2)
        | (go_at_call 7; (with_reducible refine h7y.mono ?_); rintro r w2 ⟨rfl, b2⟩; have B3 := B2.tr le_rfl' b2; have cX := bX.below b2 zX; have cY := bY.below b2 zY; have yX := cX.lt; have yY := cY.lt; clear f0 f1 f2 f3 f4 f5; obtain ⟨f0, f1, f2, f3, f4, f5⟩ := cX.cells; have h9x := h9a w2 B3)
        | (go_at_call 9; (with_reducible refine h9x.mono ?_); rintro r w3 ⟨rfl, b3⟩; have B4 := B3.tr le_rfl' b3; have dX := cX.below b3 yX; have dY := cY.below b3 yY; have xX := dX.lt; have xY := dY.lt; clear f0 f1 f2 f3 f4 f5; obtain ⟨f0, f1, f2, f3, f4, f5⟩ := dY.cells; have h9y := h9b w3 B4)
        | (go_at_call 9; (with_reducible refine h9y.mono ?_); rintro r w4 ⟨rfl, b4⟩; have B5 := B4.tr le_rfl' b4; have eX := dX.below b4 xX; have eY := dY.below b4 xY; clear f0 f1 f2 f3 f4 f5; obtain ⟨f0, f1, f2, f3, f4, f5⟩ := eX.cells; obtain ⟨e0, e1, e2, e3, e4, e5⟩ := eY.cells; have h8a := h8 w4 B5; have h17a := h17 w4 B5)
        | (go_at_call 11; (with_reducible refine (num_any3 _ _).mono ?_); rintro r w' ⟨rfl, hw'⟩; have hw2 := hw'.symm; subst hw2)
        | (go_at_call 8; (with_reducible refine h8a.mono ?_); rintro r w6 ⟨rfl, b6⟩))
        go_ret
        exact ⟨rfl, B5.tr le_rfl' b6⟩
end Go.Proofs.YtnljhlmopjgogaaDoor
