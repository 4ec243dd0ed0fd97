/-
  live of stage 6's statements is true.
-/
import Derived.Test.YtijeiiiiplkfaaaDoorNxP
import Derived.BigRegion
namespace Go.Proofs.YtijeiiiiplkfaaaDoor
open Go.RowKit
theorem num_any (x : Int) (w : World) : Calls Tryd.prog 11 #[.int .i64 x] w fun r w' => r = .returned (.int .i64 x) ∧ w' = w := by
  go_enter Tryd.func11, Tryd.ntmps11
  go_wp2
  go_ret
  exact ⟨rfl, rfl⟩
theorem len1 (n : UInt8) : Len ⟨#[n]⟩ := by show 1 ≤ 140737488351232; omega
theorem i64c (x : Int) (h1 : 0 ≤ x) (h2 : x ≤ 100) : I64 x := ⟨by omega, by omega⟩
theorem slots3 {p : Pr} {n : Nat} {f : FuncId} {args : Array Value} {w : World} (hc : (allV p.mons).length = n) (h : Calls Tryd.prog f args w fun r w' => SlotsBack p.mons w w' r) : Calls Tryd.prog f args w fun r w' => ∃ ad cap, r = .returned (.slice ad n cap) ∧ Below w.heap.size w w' :=
  h.mono fun r w' ⟨v, h1, h2, h3⟩ => by
    obtain ⟨ad, cp, rfl, _⟩ := slOwn Va.len h2
    exact ⟨ad, cp, by rw [← hc]; exact h1, h3⟩
theorem meth7 {o : Option Me} {nm : ByteArray} {ps : Int} {x : Bl} {f : FuncId} {args : Array Value} {w : World} (ho : o = some ⟨nm, x, ps⟩) (h : Calls Tryd.prog f args w fun r w' => MethBack o w w' r) : Calls Tryd.prog f args w fun r w' => ∃ ad l cap, r = .returned (.tuple #[.agg #[.string nm, .slice ad l cap, .int .i64 ps], .bool true]) ∧ Below w.heap.size w w' :=
  h.mono fun r w' hh => by
    rcases hh.1 with ⟨h1, _⟩ | ⟨m, ad, cap, h1, h2, _⟩
    · rw [ho] at h1; cases h1
    · rw [ho] at h1; cases h1; exact ⟨ad, _, cap, h2, hh.2⟩
set_option maxRecDepth 100000 in
set_option maxHeartbeats 16000000 in
theorem live_any (w : World) (hS : Shapes w) :
    Calls Tryd.prog 8 #[] w fun r w' => r = .returned (.bool true) ∧ Below w.heap.size w w' := by
  have hs2 := hS.size
  have h26 := two_any w
  go_enter Tryd.func8, Tryd.ntmps8
  go_upto_region 2 with (go_at_call 26; (with_reducible refine h26.mono ?_); rintro r u0 ⟨rfl, hT0, hM0, hz0, bb0⟩)
  obtain ⟨g, hg⟩ : ∃ g, w.heap.size = g := ⟨_, rfl⟩
  obtain ⟨bP, hB0, hz1⟩ := one_box u0 #[.slice (some ⟨w.heap.size + 6, 0, none⟩) 2 2, .slice none 0 0] 25
  rw [hz0] at bP hB0 hz1
  obtain ⟨W1, hW1⟩ : ∃ W1, u0.alloc (.cells #[.slice (some ⟨w.heap.size + 6, 0, none⟩) 2 2, .slice none 0 0] 25) = W1 := ⟨_, rfl⟩
  rw [hW1] at bP hB0 hz1 ⊢
  clear hW1
  have hB : Below w.heap.size w W1 := bb0.trans (hB0.mono (by omega))
  have hT1 := hT0.below hB0 (by omega)
  have hM1 := (hB0.block (w.heap.size + 6) (by omega)).trans hM0
  rw [hg] at bP hz1 hT1 hM1 ⊢
  have HG := hid hg
  have hz2 : W1.heap.size = g + 8 := by omega
  have hS1 := hS.below hB hs2
  clear hg hz1 hB0 hT0 hz0 bb0 hM0
  have hP1 : ∀ W, Below (g + 8) W1 W → (twoP g ⟨#[78]⟩ 0).Is (g + 8) W := fun W hW => (hT1.below hW (by omega)).is (by omega) (len1 _) (i64c _ (by decide) (by decide))
  have h14a : ∀ W, Below (g + 8) W1 W → Calls Tryd.prog 14 #[.agg #[.slice (some ⟨g + 6, 0, none⟩) 2 2, .slice none 0 0], .string ⟨#[78]⟩, .string ⟨#[97]⟩] W fun r w' => r = .returned (.tuple #[.int .i64 ((2 : Nat) : Int), .bool true]) ∧ Below W.heap.size W w' := fun W hW => FirstBack.yes (slot_any (twoP g ⟨#[78]⟩ 0) ⟨#[78]⟩ ⟨#[97]⟩ (g + 8) W (by have := hW.size; omega) (hP1 W hW) (by show 3 ≤ 1000000; omega)) (twoP_slot g)
  have h14b : ∀ W, Below (g + 8) W1 W → Calls Tryd.prog 14 #[.agg #[.slice (some ⟨g + 6, 0, none⟩) 2 2, .slice none 0 0], .string ⟨#[78]⟩, .string ⟨#[98]⟩] W fun r w' => r = .returned (.tuple #[.int .i64 0, .bool false]) ∧ Below W.heap.size W w' := fun W hW => FirstBack.no (slot_any (twoP g ⟨#[78]⟩ 0) ⟨#[78]⟩ ⟨#[98]⟩ (g + 8) W (by have := hW.size; omega) (hP1 W hW) (by show 3 ≤ 1000000; omega)) (twoP_slot2 g)
  have h12 : ∀ W, Below (g + 8) W1 W → Calls Tryd.prog 12 #[.agg #[.slice (some ⟨g + 6, 0, none⟩) 2 2, .slice none 0 0], .string ⟨#[78]⟩] W fun r w' => r = .returned (.tuple #[.int .i64 ((1 : Nat) : Int), .bool true]) ∧ Below W.heap.size W w' := fun W hW => FirstBack.yes (monitor_any (twoP g ⟨#[78]⟩ 0) ⟨#[78]⟩ (g + 8) W (by have := hW.size; omega) (hP1 W hW)) (twoP_mon g)
  have h16 : ∀ W, Below (g + 8) W1 W → Calls Tryd.prog 16 #[.agg #[.slice (some ⟨g + 6, 0, none⟩) 2 2, .slice none 0 0], .string ⟨#[78]⟩, .string ⟨#[102]⟩] W fun r w' => ∃ ad l cap, r = .returned (.tuple #[.agg #[.string ⟨#[102]⟩, .slice ad l cap, .int .i64 7], .bool true]) ∧ Below W.heap.size W w' := fun W hW => meth7 (twoP_meth g) (method_any (twoP g ⟨#[78]⟩ 0) ⟨#[78]⟩ ⟨#[102]⟩ (g + 8) W (by have := hW.size; omega) (hP1 W hW) (by
    intro m hm f hf
    simp only [twoP, List.mem_cons, List.not_mem_nil, or_false] at hm
    rcases hm with rfl | rfl
    · cases hf
    · simp only [List.mem_cons, List.not_mem_nil, or_false] at hf
      subst hf
      show 0 ≤ 1000000; omega))
  have h9 : ∀ W, Below (g + 8) W1 W → Calls Tryd.prog 9 #[.agg #[.slice (some ⟨g + 6, 0, none⟩) 2 2, .slice none 0 0]] W fun r w' => r = .returned (.tuple #[.int .i64 0, .int .i64 0]) ∧ Below W.heap.size W w' := fun W hW => by
    have := namesCheck_any (twoP g ⟨#[78]⟩ 0) (g + 8) W (by have := hW.size; omega) (hP1 W hW) (hS1.below hW (by omega))
    rw [twoP_chk] at this
    exact this
  have s0 := cellOf bP 0
  have s1 := cellOf bP 1
  simp at s0 s1
  have HK : Hid (∀ W, Below (g + 8) W1 W → W.cell? ⟨g + 7, 0, none⟩ = some (.slice (some ⟨g + 6, 0, none⟩) 2 2) ∧ W.cell? ⟨g + 7, 1, none⟩ = some (.slice none 0 0)) := fun W hW => ⟨(hW.cell (p := ⟨g + 7, 0, none⟩) (by show g + 7 < _; omega)).trans s0, (hW.cell (p := ⟨g + 7, 1, none⟩) (by show g + 7 < _; omega)).trans s1⟩
  have BB : Below (g + 8) W1 W1 := Below.refl _ _
  have HZ := hid hz2
  clear bP hz2
  go_upto_region 7 with (first
    | (go_at_call 14; (with_reducible refine (h14a _ BB).mono ?_); rintro r u1 ⟨rfl, bb⟩; have BB := BB.trans (bb.mono (by have := BB.size; have := HZ.out; omega)); obtain ⟨s0, s1⟩ := HK.out _ BB)
    | (go_at_call 14; (with_reducible refine (h14b _ BB).mono ?_); rintro r u2 ⟨rfl, bb⟩; have BB := BB.trans (bb.mono (by have := BB.size; have := HZ.out; omega)); obtain ⟨s0, s1⟩ := HK.out _ BB)
    | (go_at_call 12; (with_reducible refine (h12 _ BB).mono ?_); rintro r u3 ⟨rfl, bb⟩; have BB := BB.trans (bb.mono (by have := BB.size; have := HZ.out; omega)); obtain ⟨s0, s1⟩ := HK.out _ BB)
    | (go_at_call 16; (with_reducible refine (h16 _ BB).mono ?_); rintro r u4 ⟨ad, l, cap, rfl, bb⟩; have BB := BB.trans (bb.mono (by have := BB.size; have := HZ.out; omega)); obtain ⟨s0, s1⟩ := HK.out _ BB; have hz4 := BB.size; have bM4 := heapNew u4 (.cells #[.string ⟨#[102]⟩, .slice ad l cap, .int .i64 7] 40); have BB := BB.al (by have := HZ.out; omega) (.cells #[.string ⟨#[102]⟩, .slice ad l cap, .int .i64 7] 40); obtain ⟨s0, s1⟩ := HK.out _ BB)
    | (go_at_call 9; (with_reducible refine (h9 _ BB).mono ?_); rintro r u5 ⟨rfl, bb5⟩; have bM5 := (bb5.block u4.heap.size (by simp)).trans bM4; have hz5 := bb5.size; have BB := BB.trans (bb5.mono (by have := BB.size; have := HZ.out; omega)); obtain ⟨s0, s1⟩ := HK.out _ BB))
  have bO := (BB.block (g + 6) (by omega)).trans hM1
  have o4 := cellOf bO 4
  have o7 := cellOf bO 7
  have f4 := frozen_of bO 4
  have f7 := frozen_of bO 7
  simp at o4 o7
  clear bM4 bb5
  go_region
  have hgw := HG.out
  have hz8 := HZ.out
  have hk : ∀ k, k ≠ g + 6 → (((u5.setCell ⟨g + 6, 4, none⟩ (.string ⟨#[77]⟩)).setCell ⟨g + 6, 7, none⟩ (.int .i64 5)).drew).heap[k]? = u5.heap[k]? := fun k hk => by
    show ((u5.setCell ⟨g + 6, 4, none⟩ (.string ⟨#[77]⟩)).setCell ⟨g + 6, 7, none⟩ (.int .i64 5)).heap[k]? = _
    rw [Below.heap_setCell _ ⟨g + 6, 7, none⟩ _ k hk, Below.heap_setCell _ ⟨g + 6, 4, none⟩ _ k hk]
  have hT5 := hT1.below BB (by omega)
  have hT2 : TwoAt (((u5.setCell ⟨g + 6, 4, none⟩ (.string ⟨#[77]⟩)).setCell ⟨g + 6, 7, none⟩ (.int .i64 5)).drew) g ⟨#[77]⟩ 5 := by
    refine ⟨(hk _ (by omega)).trans hT5.v1, (hk _ (by omega)).trans hT5.v2, (hk _ (by omega)).trans hT5.fs, fun i hi => ?_⟩
    have h0 := hT5.ms i hi
    show ((u5.setCell ⟨g + 6, 4, none⟩ (.string ⟨#[77]⟩)).setCell ⟨g + 6, 7, none⟩ (.int .i64 5)).cell? ⟨g + 6, i, none⟩ = _
    rcases i with _ | _ | _ | _ | _ | _ | _ | _ | i
    · simpa [go_sem] using h0
    · simpa [go_sem] using h0
    · simpa [go_sem] using h0
    · simpa [go_sem] using h0
    · simp [go_sem, o4]
    · simpa [go_sem] using h0
    · simpa [go_sem] using h0
    · simp [go_sem, o7]
    · omega
  have hB2 : Below (g + 6) W1 (((u5.setCell ⟨g + 6, 4, none⟩ (.string ⟨#[77]⟩)).setCell ⟨g + 6, 7, none⟩ (.int .i64 5)).drew) := (((BB.mono (by omega)).setCell (p := ⟨g + 6, 4, none⟩) (by simp) _).setCell (p := ⟨g + 6, 7, none⟩) (by simp) _).drew
  have bM2 := (hk u4.heap.size (by omega)).trans bM5
  have x0 := (World.cell?_of_block (a := ⟨g + 7, 0, none⟩) (hk (g + 7) (by omega))).trans s0
  have x1 := (World.cell?_of_block (a := ⟨g + 7, 1, none⟩) (hk (g + 7) (by omega))).trans s1
  have hzW : (((u5.setCell ⟨g + 6, 4, none⟩ (.string ⟨#[77]⟩)).setCell ⟨g + 6, 7, none⟩ (.int .i64 5)).drew).heap.size = u5.heap.size := by simp [World.drew]
  obtain ⟨W2, hW2⟩ : ∃ W2, ((u5.setCell ⟨g + 6, 4, none⟩ (.string ⟨#[77]⟩)).setCell ⟨g + 6, 7, none⟩ (.int .i64 5)).drew = W2 := ⟨_, rfl⟩
  rw [hW2] at hT2 hB2 bM2 x0 x1 hzW ⊢
  clear hW2 hk o4 o7 f4 f7 bO hT5 s0 s1 h9 h16 h12 h14a h14b HK bM5 hP1
  have hzu := BB.size
  have hz48 : u4.heap.size < u5.heap.size := by simp at hz5; omega
  have hB3 : Below w.heap.size w W2 := hB.trans (hB2.mono (by omega))
  have hP2 : (twoP g ⟨#[77]⟩ 5).Is (g + 8) W2 := hT2.is (by omega) (len1 _) (i64c _ (by decide) (by decide))
  have hS2 := hS.below hB3 hs2
  have h9 : Calls Tryd.prog 9 #[.agg #[.slice (some ⟨g + 6, 0, none⟩) 2 2, .slice none 0 0]] W2 fun r w' => r = .returned (.tuple #[.int .i64 60, .int .i64 5]) ∧ Below W2.heap.size W2 w' := by
    have := namesCheck_any (twoP g ⟨#[77]⟩ 5) (g + 8) W2 (by omega) hP2 hS2
    rw [twoP_chk2] at this
    exact this
  have h18 : ∀ W, Below W2.heap.size W2 W → Calls Tryd.prog 18 #[.agg #[.slice (some ⟨g + 6, 0, none⟩) 2 2, .slice none 0 0]] W fun r w' => ∃ ad cap, r = .returned (.slice ad 3 cap) ∧ Below W.heap.size W w' := fun W hW => slots3 (twoP_all g ⟨#[77]⟩ 5) (slots_any (twoP g ⟨#[77]⟩ 5) (g + 8) W (by have := hW.size; omega) (hP2.below (hW.mono (by omega))) (by show 3 ≤ 1000000; omega))
  have h11 := num_any
  have HN : Hid (W2.heap.size = u5.heap.size) := hzW
  have HU := hid hz48
  clear hP2 hT2 hzW hz48 BB hT1 hM1 hS2
  go_wp2_with (first
    | (go_at_call 9; (with_reducible refine h9.mono ?_); rintro r u6 ⟨rfl, bb6⟩; have y0 := (bb6.cell (p := ⟨g + 7, 0, none⟩) (by show g + 7 < _; have := HN.out; omega)).trans x0; have y1 := (bb6.cell (p := ⟨g + 7, 1, none⟩) (by show g + 7 < _; have := HN.out; omega)).trans x1; have m2 := cellOf ((bb6.block u4.heap.size (by have := HN.out; have := HU.out; omega)).trans bM2) 2; simp at m2; have hq18 := h18 u6 bb6)
    | (go_at_call 11; (with_reducible refine (h11 _ _).mono ?_); rintro r w' ⟨rfl, hw'⟩; have hw2 := hw'.symm; subst hw2)
    | (go_at_call 18; (with_reducible refine hq18.mono ?_); rintro r u7 ⟨ad7, cap7, rfl, bb7⟩))
  go_ret
  exact ⟨rfl, (hB3.tr le_rfl' bb6).tr le_rfl' bb7⟩
end Go.Proofs.YtijeiiiiplkfaaaDoor
