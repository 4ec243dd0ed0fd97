/-
  Programs that are not the same have unlike texts: the walk.
-/
import Derived.Test.YtnljhlmopjgogaaDoorLvD
import Derived.Test.YtnljhlmopjgogaaDoorUrC
import Derived.Test.YtnljhlmopjgogaaDoorSmA
namespace Go.Proofs.YtnljhlmopjgogaaDoor
open Go.RowKit Px
/-- What Text answers: a text with no error, or an error. -/
theorem textOut_two (p : Pr) : ∃ (s : ByteArray) (c : Int), textOut p = .tuple #[.string s, .int .i64 c] ∧ ((c = 0 ∧ p.ok = true ∧ s.data.toList = p.txt) ∨ (0 < c ∧ c ≤ 41)) := by
  unfold textOut
  cases h : p.ok
  · exact ⟨⟨#[]⟩, 20, by simp, .inr ⟨by omega, by omega⟩⟩
  · simp only [if_true]
    split
    · exact ⟨_, _, rfl, .inr ⟨by omega, by omega⟩⟩
    · unfold toldOf
      split
      · exact ⟨_, _, rfl, .inr ⟨by omega, by omega⟩⟩
      · exact ⟨⟨p.txt.toArray⟩, 0, rfl, .inl ⟨rfl, trivial, by simp⟩⟩
theorem smallTwo {p : Pr} {w w' : World} {r : Ending} (h : SmallBack p w w' r) : (r = .returned (.bool true) ∧ Hid (p.size ≤ 400) ∧ Below w.heap.size w w') ∨ (r = .returned (.bool false) ∧ Below w.heap.size w w') := by
  obtain ⟨c, rfl, hc, hb⟩ := h
  cases c
  · exact .inr ⟨rfl, hb⟩
  · exact .inl ⟨rfl, hc rfl, hb⟩
/-- A block of two cells. -/
def Duo (W : World) (b : Nat) (x y : Value) : Prop := W.heap[b]? = some (.cells #[x, y] 38 (0, 0))
theorem Duo.lt {W : World} {b : Nat} {x y : Value} (h : Duo W b x y) : b < W.heap.size := (Array.getElem?_eq_some_iff.1 h).1
theorem Duo.keep {W W' : World} {b : Nat} {x y : Value} (h : Duo W b x y) (hb : Below W.heap.size W W') : Duo W' b x y := (hb.block b h.lt).trans h
theorem Duo.cells {W : World} {b : Nat} {x y : Value} (h : Duo W b x y) : W.cell? ⟨b, 0, none⟩ = some x ∧ W.cell? ⟨b, 1, none⟩ = some y := ⟨cell_of h 0, cell_of h 1⟩
set_option maxRecDepth 100000 in
set_option maxHeartbeats 4000000 in
theorem printApart_walk (p q : Pr) (w : World) (hL : Laid w) (hp : p.Is w.heap.size w) (hq : q.Is w.heap.size w) :
    Calls Tryd.prog 4 #[p.val, q.val] w fun r w' => r = .returned (.bool true) ∧ Below w.heap.size w w' := by
  have h3 := hL.size
  have h14p : ∀ W, Below w.heap.size w W → Calls Tryd.prog 14 #[p.val, .int .i64 400] W fun r w' => (r = .returned (.bool true) ∧ Hid (p.size ≤ 400) ∧ Below W.heap.size W w') ∨ (r = .returned (.bool false) ∧ Below W.heap.size W w') := fun W hW => (small_any w.heap.size p W hW.size (hp.below hW)).mono fun r w' h => smallTwo h
  have h14q : ∀ W, Below w.heap.size w W → Calls Tryd.prog 14 #[q.val, .int .i64 400] W fun r w' => (r = .returned (.bool true) ∧ Hid (q.size ≤ 400) ∧ Below W.heap.size W w') ∨ (r = .returned (.bool false) ∧ Below W.heap.size W w') := fun W hW => (small_any w.heap.size q W hW.size (hq.below hW)).mono fun r w' h => smallTwo h
  have h8 : ∀ W, Below w.heap.size w W → Calls Tryd.prog 8 #[] W fun r w' => r = .returned (.bool true) ∧ Below W.heap.size W w' := fun W hW => live_any W (hL.below hW h3)
  have h16 : ∀ W, Below w.heap.size w W → Calls Tryd.prog 16 #[p.val, q.val] W fun r w' => r = .returned (.bool (p.same q)) ∧ Below W.heap.size W w' := fun W hW => same_any w.heap.size p q W hW.size (hp.below hW) (hq.below hW)
  obtain ⟨s, c, hsc, hA⟩ := textOut_two p
  obtain ⟨t, d, htd, hB⟩ := textOut_two q
  have h15p : Hid (p.size ≤ 400) → ∀ W, Below w.heap.size w W → Calls Tryd.prog 15 #[p.val] W fun r w' => r = .returned (.tuple #[.string s, .int .i64 c]) ∧ Below W.heap.size W w' := fun h W hW => by
    have := printText_any p w.heap.size W hW.size (hp.below hW) (hL.below hW h3) (by have := h.out; omega)
    rwa [hsc] at this
  have h15q : Hid (q.size ≤ 400) → ∀ W, Below w.heap.size w W → Calls Tryd.prog 15 #[q.val] W fun r w' => r = .returned (.tuple #[.string t, .int .i64 d]) ∧ Below W.heap.size W w' := fun h W hW => by
    have := printText_any q w.heap.size W hW.size (hq.below hW) (hL.below hW h3) (by have := h.out; omega)
    rwa [htd] at this
  have HQ : Hid (c = 0 → d = 0 → (s.toList == t.toList) = p.same q) := by
    intro hc0 hd0
    rcases hA with ⟨_, ka, ta⟩ | ⟨h, _⟩
    · rcases hB with ⟨_, kb, tb⟩ | ⟨h, _⟩
      · rw [pr_inj ka kb, ← ta, ← tb, ByteArray.toList_eq, ByteArray.toList_eq, Bool.eq_iff_iff, beq_iff_eq, decide_eq_true_iff]
      · omega
    · omega
  have hc : 0 ≤ c ∧ c ≤ 41 := by rcases hA with ⟨h, _⟩ | ⟨h1, h2⟩ <;> omega
  have hd : 0 ≤ d ∧ d ≤ 41 := by rcases hB with ⟨h, _⟩ | ⟨h1, h2⟩ <;> omega
  obtain ⟨sm, hsm⟩ : ∃ sm, p.same q = sm := ⟨_, rfl⟩
  rw [hsm] at HQ
  simp only [hsm] at h16
  clear hsm hsc htd hA hB hp hq
  obtain ⟨A, hA⟩ : ∃ A, Hid (p.size ≤ 400) = A := ⟨_, rfl⟩
  obtain ⟨B, hB⟩ : ∃ B, Hid (q.size ≤ 400) = B := ⟨_, rfl⟩
  simp only [hA] at h14p h15p
  simp only [hB] at h14q h15q
  clear hA hB
  rcases p with ⟨xmad, xmcap, xmons, xrad, xrcap, xroles⟩
  rcases q with ⟨ymad, ymcap, ymons, yrad, yrcap, yroles⟩
  simp only [Pr.val] at h14p h14q h15p h15q h16 ⊢
  have B1 : Below w.heap.size w ((w.alloc (.cells #[.slice xmad xmons.length xmcap, .slice xrad xroles.length xrcap] 38)).alloc (.cells #[.slice ymad ymons.length ymcap, .slice yrad yroles.length yrcap] 38)) := ((Below.refl _ w).al le_rfl' _).al le_rfl' _
  have hX : Duo ((w.alloc (.cells #[.slice xmad xmons.length xmcap, .slice xrad xroles.length xrcap] 38)).alloc (.cells #[.slice ymad ymons.length ymcap, .slice yrad yroles.length yrcap] 38)) w.heap.size (.slice xmad xmons.length xmcap) (.slice xrad xroles.length xrcap) :=
    Duo.keep (W := w.alloc (.cells #[.slice xmad xmons.length xmcap, .slice xrad xroles.length xrcap] 38)) (heap_alloc_new w _) ((Below.refl _ _).al le_rfl' _)
  have hY : Duo ((w.alloc (.cells #[.slice xmad xmons.length xmcap, .slice xrad xroles.length xrcap] 38)).alloc (.cells #[.slice ymad ymons.length ymcap, .slice yrad yroles.length yrcap] 38)) (w.heap.size + 1) (.slice ymad ymons.length ymcap) (.slice yrad yroles.length yrcap) := by
    have := heap_alloc_new (w.alloc (.cells #[.slice xmad xmons.length xmcap, .slice xrad xroles.length xrcap] 38)) (.cells #[.slice ymad ymons.length ymcap, .slice yrad yroles.length yrcap] 38)
    rwa [World.size_alloc] at this
  have h14x := h14p _ B1
  by_cases hcd : c + d = 0
  · have hc0 : c = 0 := by omega
    have hd0 : d = 0 := by omega
    subst hc0 hd0
    have hq := HQ.out rfl rfl
    clear HQ hc hd hcd
    cases sm
    · have hq2 : ¬ s.toList = t.toList := by intro h; rw [h] at hq; simp at hq
      go_enter Tryd.func4, Tryd.ntmps4
      go_wp2_with (first
        | (go_at_call 14; (with_reducible refine h14x.mono ?_); rintro r w1 (⟨rfl, hc1, b1⟩ | ⟨rfl, b1⟩) <;> (have B2 := B1.tr le_rfl' b1; have X1 := hX.keep b1; have Y1 := hY.keep b1; obtain ⟨f0, f1⟩ := Y1.cells; have h14y := h14q w1 B2; have g1 := h8 w1 B2))
        | (go_at_call 14; (with_reducible refine h14y.mono ?_); rintro r w2 (⟨rfl, hc2, b2⟩ | ⟨rfl, b2⟩) <;> (have B3 := B2.tr le_rfl' b2; have X2 := X1.keep b2; have Y2 := Y1.keep b2; clear f0 f1; obtain ⟨f0, f1⟩ := X2.cells; have h15x := h15p hc1 w2 B3; have g2 := h8 w2 B3))
        | (go_at_call 15; (with_reducible refine h15x.mono ?_); rintro r w3 ⟨rfl, b3⟩; have B4 := B3.tr le_rfl' b3; have X3 := X2.keep b3; have Y3 := Y2.keep b3; clear f0 f1; obtain ⟨f0, f1⟩ := Y3.cells; have h15y := h15q hc2 w3 B4)
        | (go_at_call 15; (with_reducible refine h15y.mono ?_); rintro r w4 ⟨rfl, b4⟩; have B5 := B4.tr le_rfl' b4; have X4 := X3.keep b4; have Y4 := Y3.keep b4; clear f0 f1; obtain ⟨f0, f1⟩ := X4.cells; obtain ⟨k0, k1⟩ := Y4.cells; have h16a := h16 w4 B5; have g4 := h8 w4 B5)
        | (go_at_call 11; (with_reducible refine (num_any3 _ _).mono ?_); rintro r w' ⟨rfl, hw'⟩; have hw2 := hw'.symm; subst hw2)
        | (go_at_call 16; (with_reducible refine h16a.mono ?_); rintro r w5 ⟨rfl, b5⟩; have B6 := B5.tr le_rfl' b5; have g5 := h8 w5 B6)
        | (go_at_call 8; (with_reducible refine g5.mono ?_); rintro r w6 ⟨rfl, b6⟩; have BE := B6.tr le_rfl' b6)
        | (go_at_call 8; (with_reducible refine g4.mono ?_); rintro r w6 ⟨rfl, b6⟩; have BE := B5.tr le_rfl' b6)
        | (go_at_call 8; (with_reducible refine g2.mono ?_); rintro r w6 ⟨rfl, b6⟩; have BE := B3.tr le_rfl' b6)
        | (go_at_call 8; (with_reducible refine g1.mono ?_); rintro r w6 ⟨rfl, b6⟩; have BE := B2.tr le_rfl' b6))
      all_goals go_ret
      all_goals exact ⟨rfl, BE⟩
    · have hst : s = t := by
        have := eq_of_beq hq
        rw [ByteArray.toList_eq, ByteArray.toList_eq] at this
        rcases s with ⟨s⟩; rcases t with ⟨t⟩
        exact congrArg ByteArray.mk (Array.toList_inj.1 this)
      subst hst
      clear hq
      go_enter Tryd.func4, Tryd.ntmps4
      go_wp2_with (first
        | (go_at_call 14; (with_reducible refine h14x.mono ?_); rintro r w1 (⟨rfl, hc1, b1⟩ | ⟨rfl, b1⟩) <;> (have B2 := B1.tr le_rfl' b1; have X1 := hX.keep b1; have Y1 := hY.keep b1; obtain ⟨f0, f1⟩ := Y1.cells; have h14y := h14q w1 B2; have g1 := h8 w1 B2))
        | (go_at_call 14; (with_reducible refine h14y.mono ?_); rintro r w2 (⟨rfl, hc2, b2⟩ | ⟨rfl, b2⟩) <;> (have B3 := B2.tr le_rfl' b2; have X2 := X1.keep b2; have Y2 := Y1.keep b2; clear f0 f1; obtain ⟨f0, f1⟩ := X2.cells; have h15x := h15p hc1 w2 B3; have g2 := h8 w2 B3))
        | (go_at_call 15; (with_reducible refine h15x.mono ?_); rintro r w3 ⟨rfl, b3⟩; have B4 := B3.tr le_rfl' b3; have X3 := X2.keep b3; have Y3 := Y2.keep b3; clear f0 f1; obtain ⟨f0, f1⟩ := Y3.cells; have h15y := h15q hc2 w3 B4)
        | (go_at_call 15; (with_reducible refine h15y.mono ?_); rintro r w4 ⟨rfl, b4⟩; have B5 := B4.tr le_rfl' b4; have X4 := X3.keep b4; have Y4 := Y3.keep b4; clear f0 f1; obtain ⟨f0, f1⟩ := X4.cells; obtain ⟨k0, k1⟩ := Y4.cells; have h16a := h16 w4 B5; have g4 := h8 w4 B5)
        | (go_at_call 11; (with_reducible refine (num_any3 _ _).mono ?_); rintro r w' ⟨rfl, hw'⟩; have hw2 := hw'.symm; subst hw2)
        | (go_at_call 16; (with_reducible refine h16a.mono ?_); rintro r w5 ⟨rfl, b5⟩; have B6 := B5.tr le_rfl' b5; have g5 := h8 w5 B6)
        | (go_at_call 8; (with_reducible refine g5.mono ?_); rintro r w6 ⟨rfl, b6⟩; have BE := B6.tr le_rfl' b6)
        | (go_at_call 8; (with_reducible refine g4.mono ?_); rintro r w6 ⟨rfl, b6⟩; have BE := B5.tr le_rfl' b6)
        | (go_at_call 8; (with_reducible refine g2.mono ?_); rintro r w6 ⟨rfl, b6⟩; have BE := B3.tr le_rfl' b6)
        | (go_at_call 8; (with_reducible refine g1.mono ?_); rintro r w6 ⟨rfl, b6⟩; have BE := B2.tr le_rfl' b6))
      all_goals go_ret
      all_goals exact ⟨rfl, BE⟩
  · have hcd2 : (c + d == 0) = false := by simp [hcd]
    clear HQ
    go_enter Tryd.func4, Tryd.ntmps4
    go_wp2_with (first
      | (go_at_call 14; (with_reducible refine h14x.mono ?_); rintro r w1 (⟨rfl, hc1, b1⟩ | ⟨rfl, b1⟩) <;> (have B2 := B1.tr le_rfl' b1; have X1 := hX.keep b1; have Y1 := hY.keep b1; obtain ⟨f0, f1⟩ := Y1.cells; have h14y := h14q w1 B2; have g1 := h8 w1 B2))
      | (go_at_call 14; (with_reducible refine h14y.mono ?_); rintro r w2 (⟨rfl, hc2, b2⟩ | ⟨rfl, b2⟩) <;> (have B3 := B2.tr le_rfl' b2; have X2 := X1.keep b2; have Y2 := Y1.keep b2; clear f0 f1; obtain ⟨f0, f1⟩ := X2.cells; have h15x := h15p hc1 w2 B3; have g2 := h8 w2 B3))
      | (go_at_call 15; (with_reducible refine h15x.mono ?_); rintro r w3 ⟨rfl, b3⟩; have B4 := B3.tr le_rfl' b3; have X3 := X2.keep b3; have Y3 := Y2.keep b3; clear f0 f1; obtain ⟨f0, f1⟩ := Y3.cells; have h15y := h15q hc2 w3 B4)
      | (go_at_call 15; (with_reducible refine h15y.mono ?_); rintro r w4 ⟨rfl, b4⟩; have B5 := B4.tr le_rfl' b4; have X4 := X3.keep b4; have Y4 := Y3.keep b4; clear f0 f1; obtain ⟨f0, f1⟩ := X4.cells; obtain ⟨k0, k1⟩ := Y4.cells; have h16a := h16 w4 B5; have g4 := h8 w4 B5)
      | (go_at_call 11; (with_reducible refine (num_any3 _ _).mono ?_); rintro r w' ⟨rfl, hw'⟩; have hw2 := hw'.symm; subst hw2)
      | (go_at_call 16; (with_reducible refine h16a.mono ?_); rintro r w5 ⟨rfl, b5⟩; have B6 := B5.tr le_rfl' b5; have g5 := h8 w5 B6)
      | (go_at_call 8; (with_reducible refine g5.mono ?_); rintro r w6 ⟨rfl, b6⟩; have BE := B6.tr le_rfl' b6)
      | (go_at_call 8; (with_reducible refine g4.mono ?_); rintro r w6 ⟨rfl, b6⟩; have BE := B5.tr le_rfl' b6)
      | (go_at_call 8; (with_reducible refine g2.mono ?_); rintro r w6 ⟨rfl, b6⟩; have BE := B3.tr le_rfl' b6)
      | (go_at_call 8; (with_reducible refine g1.mono ?_); rintro r w6 ⟨rfl, b6⟩; have BE := B2.tr le_rfl' b6))
    all_goals go_ret
    all_goals exact ⟨rfl, BE⟩
end Go.Proofs.YtnljhlmopjgogaaDoor
