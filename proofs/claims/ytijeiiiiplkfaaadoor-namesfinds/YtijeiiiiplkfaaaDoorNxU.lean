/-
  The statement NamesFinds: its walk.
-/
import Derived.Test.YtijeiiiiplkfaaaDoorNxT
import Derived.Laws.StructEq
import Derived.Deep.RegionHeld3
namespace Go.Proofs.YtijeiiiiplkfaaaDoor
open Go.RowKit
theorem below_drewK {B : Nat} {w w' : World} (h : Below B w w') : Below B w w'.drew := ⟨h.os, h.tape, h.output, h.size, h.block⟩
set_option maxRecDepth 100000 in
set_option maxHeartbeats 16000000 in
theorem namesFinds_walk (p : Pr) (mon name : ByteArray) (w : World) (hS : Shapes w) (hp : p.Is w.heap.size w) (hlm : Len mon) (hln : Len name) :
    Calls Tryd.prog 4 #[p.val, .string mon, .string name] w fun e w' => e = .returned (.bool true) ∧ Below w.heap.size w w' := by
  have hs2 := hS.size
  have h7 : ∀ W, Below w.heap.size w W → Calls Tryd.prog 7 #[p.val, .int .i64 400] W fun r w' => SmallBack p W w' r := fun W hW => small_any w.heap.size p W hW.size (hp.below hW)
  have h8 : ∀ W, Below w.heap.size w W → Calls Tryd.prog 8 #[] W fun r w' => r = .returned (.bool true) ∧ Below W.heap.size W w' := fun W hW => live_any W (hS.below hW hs2)
  have h12 : ∀ W, Below w.heap.size w W → Calls Tryd.prog 12 #[p.val, .string mon] W fun r w' => r = .returned (.tuple #[.int .i64 (fbI (monIx p.mons mon)), .bool (monIx p.mons mon).isSome]) ∧ Below W.heap.size W w' := fun W hW => firstUni (monitor_any p mon w.heap.size W hW.size (hp.below hW))
  have h13 : ∀ W, Below w.heap.size w W → Calls Tryd.prog 13 #[p.val, .string mon] W fun r w' => r = .returned (.tuple #[.int .i64 (fbI (monIx p.mons mon)), .bool (monIx p.mons mon).isSome]) ∧ Below W.heap.size W w' := fun W hW => firstUni (refMonitor_any p mon w.heap.size W hW.size (hp.below hW))
  have h14 : vsum p.mons ≤ 1000000 → ∀ W, Below w.heap.size w W → Calls Tryd.prog 14 #[p.val, .string mon, .string name] W fun r w' => r = .returned (.tuple #[.int .i64 (fbI (slotIx p.mons mon name)), .bool (slotIx p.mons mon name).isSome]) ∧ Below W.heap.size W w' := fun hv W hW => firstUni (slot_any p mon name w.heap.size W hW.size (hp.below hW) hv)
  have h15 : vsum p.mons ≤ 1000000 → ∀ W, Below w.heap.size w W → Calls Tryd.prog 15 #[p.val, .string mon, .string name] W fun r w' => r = .returned (.tuple #[.int .i64 (fbI (slotIx p.mons mon name)), .bool (slotIx p.mons mon name).isSome]) ∧ Below W.heap.size W w' := fun hv W hW => firstUni (refSlot_any p mon name w.heap.size W hW.size (hp.below hW) hv)
  have h16 : p.size ≤ 400 → ∀ W, Below w.heap.size w W → Calls Tryd.prog 16 #[p.val, .string mon, .string name] W _ := fun hv W hW => methUni (method_any p mon name w.heap.size W hW.size (hp.below hW) (body_small p hv))
  have h17 : ∀ W, Below w.heap.size w W → Calls Tryd.prog 17 #[p.val, .string mon, .string name] W _ := fun W hW => methUni (refMethod_any p mon name w.heap.size W hW.size (hp.below hW))
  have h18 : vsum p.mons ≤ 1000000 → ∀ W, Below w.heap.size w W → Calls Tryd.prog 18 #[p.val] W _ := fun hv W hW => slotsUni (slots_any p w.heap.size W hW.size (hp.below hW) hv)
  have h19 : vsum p.mons ≤ 1000000 → ∀ W, Below w.heap.size w W → Calls Tryd.prog 19 #[p.val] W _ := fun hv W hW => slotsUni (refSlots_any p w.heap.size W hW.size (hp.below hW) hv)
  have HVS : Hid (p.mons.length ≤ 20 → (∀ m ∈ p.mons, m.vars.length ≤ 40) → vsum p.mons ≤ 1000000) := vsum_small p.mons
  have HAL := hid (allV_len p.mons)
  obtain ⟨fi, hfi⟩ : ∃ fi, fbI (monIx p.mons mon) = fi := ⟨_, rfl⟩
  obtain ⟨fb, hfb⟩ : ∃ fb, (monIx p.mons mon).isSome = fb := ⟨_, rfl⟩
  obtain ⟨si, hsi⟩ : ∃ si, fbI (slotIx p.mons mon name) = si := ⟨_, rfl⟩
  obtain ⟨sb, hsb⟩ : ∃ sb, (slotIx p.mons mon name).isSome = sb := ⟨_, rfl⟩
  obtain ⟨mo, hmo⟩ : ∃ mo, methIx p.mons mon name = mo := ⟨_, rfl⟩
  obtain ⟨av, hav⟩ : ∃ av, allV p.mons = av := ⟨_, rfl⟩
  simp only [hfi, hfb] at h12 h13
  simp only [hsi, hsb] at h14 h15
  simp only [hmo] at h16 h17
  simp only [hav] at h18 h19
  rw [hav] at HAL
  clear hfi hfb hsi hsb hmo hav
  obtain ⟨mnm, hmnm⟩ : ∃ mnm, mNm mo = mnm := ⟨_, rfl⟩
  obtain ⟨mps, hmps⟩ : ∃ mps, mPs mo = mps := ⟨_, rfl⟩
  obtain ⟨mbd, hmbd⟩ : ∃ mbd, mBd mo = mbd := ⟨_, rfl⟩
  obtain ⟨mis, hmis⟩ : ∃ mis, mo.isSome = mis := ⟨_, rfl⟩
  simp only [hmnm, hmps, hmbd, hmis] at h16 h17
  clear hmnm hmps hmbd hmis
  have HPP : Hid (∀ q, q = p → p.size ≤ 400 → p.size ≤ 400) := fun _ _ h => h
  have HSZ : Hid (SmallBack p = SmallBack p) := rfl
  unfold Len at hlm hln
  rcases hpp : p with ⟨mad, mcap, mons, rad, rcap, roles⟩
  have HPQ := hid hpp
  rw [hpp] at hp HAL
  rw [hpp] at HVS
  simp only [hpp, Pr.val] at h7 h12 h13 h14 h15 h16 h17 h18 h19 ⊢
  clear hpp HPP HSZ
  obtain ⟨⟨h3, h4⟩, h5, h6⟩ := hp
  simp only at h3 HVS HAL
  have hl1 := h3.1; have hl2 := h3.2.1
  unfold maxLen at hl2
  go_enter Tryd.func4, Tryd.ntmps4
  go_upto_region 1 with fail
  obtain ⟨bP, hB, hz⟩ := one_box w #[.slice mad mons.length mcap, .slice rad roles.length rcap] 25
  obtain ⟨W0, hW0⟩ : ∃ W0, w.alloc (.cells #[.slice mad mons.length mcap, .slice rad roles.length rcap] 25) = W0 := ⟨_, rfl⟩
  rw [hW0] at bP hB hz ⊢
  clear hW0
  have s0 := cellOf bP 0
  have s1 := cellOf bP 1
  simp at s0 s1
  have HZ := hid hz
  clear bP hz
  have hq7 := h7 W0 hB
  clear h7
  have HK : Hid (∀ W, Below W0.heap.size W0 W → W.cell? ⟨w.heap.size, 0, none⟩ = some (.slice mad mons.length mcap) ∧ W.cell? ⟨w.heap.size, 1, none⟩ = some (.slice rad roles.length rcap)) := fun W hW => ⟨(hW.cell (p := ⟨w.heap.size, 0, none⟩) (by show w.heap.size < _; have := HZ.out; omega)).trans s0, (hW.cell (p := ⟨w.heap.size, 1, none⟩) (by show w.heap.size < _; have := HZ.out; omega)).trans s1⟩
  have hsum : mon.size + name.size ≤ 281474976702464 := by omega
  by_cases g1 : 400 < mon.size + name.size
  · have g1' : (400 : Int) < (mon.size : Int) + (name.size : Int) := by omega
    go_upto_region 2 with (go_at_call 7; (with_reducible refine hq7.mono ?_); rintro r u1 ⟨c, rfl, -, bb1⟩; have B2 := hB.tr le_rfl' bb1; cases c)
    all_goals go_wp2_with (go_at_call 8; (with_reducible refine (h8 _ B2).mono ?_); rintro r u2 ⟨rfl, bb2⟩)
    all_goals go_ret
    all_goals exact ⟨rfl, B2.tr le_rfl' bb2⟩
  have g1' : decide ((400 : Int) < (mon.size : Int) + (name.size : Int)) = false := by simp; omega
  have g1'' : ¬ 400 < mon.size + name.size := g1
  go_upto_if 5 with (go_at_call 7; (with_reducible refine hq7.mono ?_); rintro r u1 ⟨c, rfl, hsm, bb1⟩; have B2 := hB.tr le_rfl' bb1; obtain ⟨s0, s1⟩ := HK.out _ bb1; cases c)
  · (with_reducible refine (h8 _ B2).mono ?_); rintro r u2 ⟨rfl, bb2⟩
    go_wp2
    go_ret
    exact ⟨rfl, B2.tr le_rfl' bb2⟩
  obtain ⟨hm1, hm2, hm3⟩ := hsm (by trivial)
  have hvs := HVS.out hm2 hm3
  have h14 := h14 hvs
  have h15 := h15 hvs
  have h16 := h16 hm1
  have h18 := h18 hvs
  have h19 := h19 hvs
  have hal : av.length ≤ 1000000 := by have := HAL.out; omega
  clear hsm hm1 hm2 hm3 hvs HVS
  (with_reducible refine (h12 _ B2).mono ?_); rintro r u2 ⟨rfl, bb2⟩
  have BB := bb1.tr le_rfl' bb2
  obtain ⟨s0, s1⟩ := HK.out _ BB
  go_upto_region 9 with (first
    | (go_at_call 13; (with_reducible refine (h13 _ (hB.tr le_rfl' BB)).mono ?_); rintro r u3 ⟨rfl, bb⟩; have BB := BB.tr le_rfl' bb; obtain ⟨s0, s1⟩ := HK.out _ BB)
    | (go_at_call 14; (with_reducible refine (h14 _ (hB.tr le_rfl' BB)).mono ?_); rintro r u4 ⟨rfl, bb⟩; have BB := BB.tr le_rfl' bb; obtain ⟨s0, s1⟩ := HK.out _ BB)
    | (go_at_call 15; (with_reducible refine (h15 _ (hB.tr le_rfl' BB)).mono ?_); rintro r u5 ⟨rfl, bb⟩; have BB := BB.tr le_rfl' bb; obtain ⟨s0, s1⟩ := HK.out _ BB)
    | (go_at_call 16; (with_reducible refine (h16 _ (hB.tr le_rfl' BB)).mono ?_); rintro r u6 ⟨mad6, mcap6, rfl, hM6, bb⟩; have BB := BB.tr le_rfl' bb; have hz6 := BB.size; have bM6 := heapNew u6 (.cells #[.string mnm, .slice mad6 mbd.length mcap6, .int .i64 mps] 40); have BB := BB.al le_rfl' (.cells #[.string mnm, .slice mad6 mbd.length mcap6, .int .i64 mps] 40); obtain ⟨s0, s1⟩ := HK.out _ BB)
    | (go_at_call 17; (with_reducible refine (h17 _ (hB.tr le_rfl' BB)).mono ?_); rintro r u7 ⟨mad7, mcap7, rfl, hM7, bb7⟩; have BB := BB.tr le_rfl' bb7; have hz7 := bb7.size; have bM7 := heapNew u7 (.cells #[.string mnm, .slice mad7 mbd.length mcap7, .int .i64 mps] 40); have BB := BB.al le_rfl' (.cells #[.string mnm, .slice mad7 mbd.length mcap7, .int .i64 mps] 40); obtain ⟨s0, s1⟩ := HK.out _ BB))
  have hz6a : (u6.alloc (.cells #[.string mnm, .slice mad6 mbd.length mcap6, .int .i64 mps] 40)).heap.size = u6.heap.size + 1 := by simp
  have hB8 : Below u7.heap.size u7 (u7.alloc (.cells #[.string mnm, .slice mad7 mbd.length mcap7, .int .i64 mps] 40)) := (Below.refl _ u7).al le_rfl' _
  have bM6' := (hB8.block u6.heap.size (by omega)).trans ((bb7.block u6.heap.size (by omega)).trans bM6)
  have I6 := ((hM6.below ((Below.refl _ u6).al le_rfl' (.cells #[.string mnm, .slice mad6 mbd.length mcap6, .int .i64 mps] 40))).below (bb7.mono (by omega))).below (hB8.mono (by omega))
  have I7 := hM7.below hB8
  have hz8 : (u7.alloc (.cells #[.string mnm, .slice mad7 mbd.length mcap7, .int .i64 mps] 40)).heap.size = u7.heap.size + 1 := by simp
  obtain ⟨m6, hm6⟩ : ∃ m6, u6.heap.size = m6 := ⟨_, rfl⟩
  obtain ⟨m7, hm7⟩ : ∃ m7, u7.heap.size = m7 := ⟨_, rfl⟩
  obtain ⟨W8, hW8⟩ : ∃ W8, u7.alloc (.cells #[.string mnm, .slice mad7 mbd.length mcap7, .int .i64 mps] 40) = W8 := ⟨_, rfl⟩
  rw [hW8] at bM7 bM6' I6 I7 BB hz8 s0 s1 ⊢
  rw [hm6] at bM6' I6 hz6a hz6 ⊢
  rw [hm7] at bM7 I7 hz8 ⊢
  rw [hz6a, hm7] at hz7
  clear hW8 hm6 hm7 hB8 bM6 hM6 hM7 bb7 hz6a
  have I6 := I6.mono (show m6 ≤ W8.heap.size by omega)
  have I7 := I7.mono (show m7 ≤ W8.heap.size by omega)
  have HM : Hid (∀ W, Below W8.heap.size W8 W → (W.cell? ⟨m6, 0, none⟩ = some (.string mnm) ∧ W.cell? ⟨m6, 1, none⟩ = some (.slice mad6 mbd.length mcap6) ∧ W.cell? ⟨m6, 2, none⟩ = some (.int .i64 mps)) ∧ W.cell? ⟨m7, 0, none⟩ = some (.string mnm) ∧ W.cell? ⟨m7, 1, none⟩ = some (.slice mad7 mbd.length mcap7) ∧ W.cell? ⟨m7, 2, none⟩ = some (.int .i64 mps)) := fun W hW => by
    have e6 := (hW.block m6 (by omega)).trans bM6'
    have e7 := (hW.block m7 (by omega)).trans bM7
    exact ⟨⟨cellOf e6 0, cellOf e6 1, cellOf e6 2⟩, cellOf e7 0, cellOf e7 1, cellOf e7 2⟩
  have HKB : Hid (∀ W, Below W8.heap.size W8 W → W.cell? ⟨w.heap.size, 0, none⟩ = some (.slice mad mons.length mcap) ∧ W.cell? ⟨w.heap.size, 1, none⟩ = some (.slice rad roles.length rcap)) := fun W hW => HK.out W (BB.tr le_rfl' hW)
  have B8 := hB.tr le_rfl' BB
  have B := below_drewK (Below.refl W8.heap.size W8)
  have HZ8 := hid hz8
  clear hz8 bM7 bM6' s0 s1
  go_region_held3 (fun W => W.cell? ⟨w.heap.size, 0, none⟩ = some (.slice mad mons.length mcap) ∧ W.cell? ⟨w.heap.size, 1, none⟩ = some (.slice rad roles.length rcap))
    (exact HKB.out _ B)
    (first
      | (go_at_call 18; (with_reducible refine (h18 _ (B8.tr le_rfl' B)).mono ?_); rintro r u8 ⟨ad8, cap8, rfl, hV8, bb8⟩; have B := B.tr le_rfl' bb8)
      | (go_at_call 19; (with_reducible refine (h19 _ (B8.tr le_rfl' B)).mono ?_); rintro r u9 ⟨ad9, cap9, rfl, hV9, bb9⟩; have B := B.tr le_rfl' bb9))
  obtain ⟨⟨a0, a1, a2⟩, e0, e1, e2⟩ := HM.out _ B
  have hV8 := hV8.below bb9
  have hzB := B.size
  have hq20 := sameStmts_any W8.heap.size (.mk mad6 mcap6 mbd) (.mk mad7 mcap7 mbd) u9 hzB (I6.below B) (I7.below B)
  rw [blSame_body] at hq20
  simp only [Bl.slice] at hq20
  have B9 := B8.tr le_rfl' B
  have hzu9 := bb9.size
  have hw8 := hV8.1; have hw8' := hV8.2.1; have hw9 := hV9.1; have hw9' := hV9.2.1
  unfold maxLen at hw8' hw9'
  clear I6 I7 HM HKB h12 h13 h14 h15 h16 h17 h18 h19
  go_wp2_with (go_at_call 20; (with_reducible refine hq20.mono ?_); rintro r u10 ⟨rfl, bb10⟩)
  have hV8 := hV8.below (bb10.mono hzu9)
  have hV9 := hV9.below bb10
  have hz10 := bb10.size
  clear a0 a1 a2 e0 e1 e2 hq20
  go_loopw [21] (fun i wr => ∃ j : Nat, j ≤ av.length ∧ i = .int .i64 j ∧ Below u10.heap.size u10 wr)
    (fun i _ => av.length - (intOf i).toNat)
  case atStart => exact ⟨0, by omega, rfl, Below.refl _ _⟩
  case round =>
    obtain ⟨j, hj, rfl, hbw⟩ := hrel
    have hzw := hbw.size
    by_cases hlt : j < av.length
    · rcases hV8.2.2 with h | ⟨kb, koff, rfl, hbn, hrow⟩
      · subst h; simp at hlt
      rcases hV9.2.2 with h | ⟨lb, loff, rfl, hln, hlow⟩
      · subst h; simp at hlt
      have hji : (j : Int) < (av.length : Int) := by omega
      have hbn2 : kb < wr.heap.size := by omega
      have hln2 : lb < wr.heap.size := by omega
      have hr8 := hrow.below (hbw.mono (by omega)) hbn
      have hr9 := hlow.below (hbw.mono (by omega)) hln
      rcases he' : av[j] with ⟨vname, vtype, vlo, vhi, vinit, vpos⟩
      obtain ⟨c0, c1, c2, c3, c4, c5⟩ := row6 hr8 j hlt (by rw [he']; rfl)
      obtain ⟨d0, d1, d2, d3, d4, d5⟩ := row6 hr9 j hlt (by rw [he']; rfl)
      clear he'
      go_wp2
      go_quiet (fail)
      go_wp2
      go_roundw
      case rel => exact ⟨j + 1, by omega, by go_num, below_drewN hbw _⟩
      case measure => simp [intOf]; omega
    · have hjd : decide ((j : Int) < (av.length : Int)) = false := by simp; omega
      have B10 := (B9.tr le_rfl' bb10).tr le_rfl' hbw
      go_wp2_with (go_at_call 8; (with_reducible refine (h8 _ B10).mono ?_); rintro r u11 ⟨rfl, bb11⟩)
      go_ret
      exact ⟨rfl, B10.tr le_rfl' bb11⟩
end Go.Proofs.YtijeiiiiplkfaaaDoor
