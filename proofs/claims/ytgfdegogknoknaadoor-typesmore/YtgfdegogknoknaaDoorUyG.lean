/-
  The statement TypesMore: its walk.
-/
import Derived.Test.YtgfdegogknoknaaDoorUyM
import Derived.Test.YtgfdegogknoknaaDoorNxLs
import Derived.Deep.DeepCutAuto
namespace Go.Proofs.YtgfdegogknoknaaDoor
open Go.RowKit
theorem slOne {W : World} {b : Nat} {m : Mo} (h : W.heap[b]? = some (.cells m.cells.toArray 48 (0, 0))) : SlAt 4 Mo.cells (b + 1) W (some ⟨b, 0, none⟩) 1 [m] := by
  refine ⟨by simp, by unfold maxLen; omega, .inr ⟨b, 0, rfl, by omega, fun j hj i hi => ?_⟩⟩
  have hj2 : j < 1 := by simpa using hj
  obtain rfl : j = 0 := by omega
  rw [cellOf h, List.getElem?_toArray]
  simp
/-- The program with one monitor more lies there. -/
structure MoreAt (w W1 : World) (p : Pr) (m : Mo) (wx : World) : Prop where
  is : ∃ ad2 cp2, (⟨ad2, cp2, p.mons ++ [m], p.rad, p.rcap, p.roles⟩ : Pr).Is wx.heap.size wx ∧ wx.cell? ⟨w.heap.size + 3, 0, none⟩ = some (.slice ad2 (p.mons.length + 1) cp2) ∧ wx.cell? ⟨w.heap.size + 3, 1, none⟩ = some (.slice p.rad p.roles.length p.rcap)
  below : Below (w.heap.size + 3) W1 wx
  lt : w.heap.size + 4 ≤ wx.heap.size
theorem more_at {w W1 w2 : World} {p : Pr} {m : Mo} (hp : p.Is w.heap.size w) (hm : m.Is w.heap.size w) (hB : Below w.heap.size w W1) (B : Below W1.heap.size W1 w2) (hz : W1.heap.size = w.heap.size + 4) {ad2 : Option Addr} {cp2 : Nat}
    (hsl : (p.mons ++ [m]).length ≤ cp2 ∧ cp2 ≤ maxLen ∧ ((p.mons ++ [m]) = [] ∨ ∃ b, ad2 = some ⟨b, 0, none⟩ ∧ W1.heap.size ≤ b ∧ b < w2.heap.size ∧ RowAt 4 Mo.cells w2 b 0 (p.mons ++ [m])))
    (h4 : W1.heap[w.heap.size + 3]? = some (.cells #[.slice p.mad p.mons.length p.mcap, .slice p.rad p.roles.length p.rcap] 25 (0, 0))) : MoreAt w W1 p m (w2.setCell ⟨w.heap.size + 3, 0, none⟩ (.slice ad2 (p.mons.length + 1) cp2)) := by
  have hz2 := B.size
  have e4 := (B.block (w.heap.size + 3) (by omega)).trans h4
  have hbl : ∀ k, k ≠ w.heap.size + 3 → (w2.setCell ⟨w.heap.size + 3, 0, none⟩ (.slice ad2 (p.mons.length + 1) cp2)).heap[k]? = w2.heap[k]? := fun k hk => Below.heap_setCell _ ⟨w.heap.size + 3, 0, none⟩ _ k hk
  have hzs : (w2.setCell ⟨w.heap.size + 3, 0, none⟩ (.slice ad2 (p.mons.length + 1) cp2)).heap.size = w2.heap.size := by simp
  have hBF : Below w.heap.size w (w2.setCell ⟨w.heap.size + 3, 0, none⟩ (.slice ad2 (p.mons.length + 1) cp2)) := (hB.tr le_rfl' B).setCell (p := ⟨w.heap.size + 3, 0, none⟩) (by show w.heap.size ≤ w.heap.size + 3; omega) _
  have k0 : (w2.setCell ⟨w.heap.size + 3, 0, none⟩ (.slice ad2 (p.mons.length + 1) cp2)).cell? ⟨w.heap.size + 3, 0, none⟩ = some (.slice ad2 (p.mons.length + 1) cp2) := World.cell?_setCell_same' w2 ⟨w.heap.size + 3, 0, none⟩ _ (by rw [cellOf e4]; rfl)
  have k1 : (w2.setCell ⟨w.heap.size + 3, 0, none⟩ (.slice ad2 (p.mons.length + 1) cp2)).cell? ⟨w.heap.size + 3, 1, none⟩ = some (.slice p.rad p.roles.length p.rcap) := by
    have h := heap_setCell_same w2 (w.heap.size + 3) 0 _ 25 (.slice ad2 (p.mons.length + 1) cp2) e4
    rw [cellOf h]; rfl
  have hbf : Below (w.heap.size + 3) W1 (w2.setCell ⟨w.heap.size + 3, 0, none⟩ (.slice ad2 (p.mons.length + 1) cp2)) := (B.mono (by omega)).setCell (p := ⟨w.heap.size + 3, 0, none⟩) (by show w.heap.size + 3 ≤ w.heap.size + 3; omega) _
  obtain ⟨W5, hW5⟩ : ∃ W5, w2.setCell ⟨w.heap.size + 3, 0, none⟩ (.slice ad2 (p.mons.length + 1) cp2) = W5 := ⟨_, rfl⟩
  rw [hW5] at hzs hBF k0 k1 hbf ⊢
  simp only [hW5] at hbl
  have hB5z := hBF.size
  refine ⟨⟨ad2, cp2, ⟨⟨⟨hsl.1, hsl.2.1, ?_⟩, fun x hx => ?_⟩, (hp.2.1.below hBF).mono hB5z, fun r hr => ((hp.2.2 r hr).below hBF).mono hB5z⟩, k0, k1⟩, hbf, by omega⟩
  · rcases hsl.2.2 with h | ⟨b, rfl, h5', h6', h7'⟩
    · exact .inl h
    · refine .inr ⟨b, 0, rfl, by omega, fun j hj i hi => ?_⟩
      refine Eq.trans ?_ (h7' j hj i hi)
      exact World.cell?_of_block (hbl b (by omega))
  · rcases List.mem_append.1 hx with hx | hx
    · exact ((hp.1.2 x hx).below hBF).mono hB5z
    · rw [List.mem_singleton.1 hx]
      exact (hm.below hBF).mono hB5z
set_option maxRecDepth 100000 in
set_option maxHeartbeats 16000000 in
theorem typesMore_walk (p : Pr) (e : Ex) (m : Mo) (w : World) (hS : Shapes w) (hp : p.Is w.heap.size w) (he : e.Is w.heap.size w) (hm : m.Is w.heap.size w) (hbd : p.mons.length * 72 ≤ 140737488351232) :
    Calls Tryd.prog 6 #[p.val, e.val, m.val] w fun r w' => r = .returned (.bool true) ∧ Below w.heap.size w w' := by
  obtain ⟨i0, hi0, iz0, iz1, iz2⟩ := info_parts info64
  have hs3 := hS.size
  have h9 : ∀ W, Below w.heap.size w W → Calls Tryd.prog 9 #[e.val, .int .i64 300] W fun r w' => r = .returned (.int .i64 (restE e 300)) ∧ Below W.heap.size W w' := fun W hW => restExpr_any w.heap.size e 300 W (by omega) (by omega) hW.size (he.below hW)
  have h10 : ∀ W, Below w.heap.size w W → Calls Tryd.prog 10 #[] W fun r w' => r = .returned (.bool true) ∧ Below W.heap.size W w' := fun W hW => live_any W (hS.below hW hs3)
  have h13 := num_any
  have hTp : vsum p.mons ≤ 1000000 → ∀ W, Below w.heap.size w W → Calls Tryd.prog 11 #[p.val, e.val] W fun r w' => TyBack (e.is p.mons) (e.tero p.mons) W w' r := fun hv W hW => type_any p hv e w.heap.size W hW.size (hp.below hW) (he.below hW) (hS.below hW hs3)
  have h16 : ∀ W, Below w.heap.size w W → Calls Tryd.prog 16 #[p.val, .string m.name] W fun r w' => FirstBack (monIx p.mons m.name) W w' r := fun W hW => refMonitor_any p m.name w.heap.size W hW.size (hp.below hW)
  have hq8 : ∀ (q : Pr) W W', q.Is W.heap.size W → Below W.heap.size W W' → Calls Tryd.prog 8 #[q.val, .int .i64 300] W' fun r w' => SmallBack q W' w' r := fun q W W' hq hW => small_any W.heap.size q W' hW.size (hq.below hW)
  have hTq : ∀ (q : Pr) W W', q.mons = p.mons ++ [m] → vsum q.mons ≤ 1000000 → q.Is W.heap.size W → Below w.heap.size w W → Below W.heap.size W W' → Calls Tryd.prog 11 #[q.val, e.val] W' fun r w' => TyBack (e.is (p.mons ++ [m])) (e.tero (p.mons ++ [m])) W' w' r := fun q W W' hqm hv hq hW hW' => by
    have h := type_any q hv e W.heap.size W' hW'.size (hq.below hW') (((he.below hW).mono hW.size).below hW') ((hS.below hW hs3).below hW' (by have := hW.size; omega))
    rw [hqm] at h
    exact h
  have HSM : Hid (∀ q : Pr, q.mons = p.mons ++ [m] → q.mons.length ≤ 20 → (∀ x ∈ q.mons, x.vars.length ≤ 40) → vsum q.mons ≤ 1000000 ∧ vsum p.mons ≤ 1000000) := fun q hqm h1 h2 => by
    refine ⟨vsum_small q.mons h1 h2, vsum_small p.mons ?_ fun x hx => h2 x ?_⟩
    · rw [hqm] at h1; simp at h1; omega
    · rw [hqm]; simp [hx]
  have HLE : Hid (e.tero p.mons = none → e.tero (p.mons ++ [m]) = none ∧ e.is (p.mons ++ [m]) = e.is p.mons) := fun h => tero_le m h
  have HIN : Hid ((monIx p.mons m.name).isSome = true → e.tero (p.mons ++ [m]) = e.tero p.mons) := fun h => tero_in h e
  have H61 : Hid (e.tero (p.mons ++ [m]) = none → ∀ c a, e.tero p.mons = some (c, a) → c = 61) := fun h c a h2 => tero_61 m h h2
  have HPp := hid (Ex.tero_pos p.mons e)
  have HPq := hid (Ex.tero_pos (p.mons ++ [m]) e)
  obtain ⟨rs, hrs⟩ : ∃ x, restE e 300 = x := ⟨_, rfl⟩
  obtain ⟨tp, htp⟩ : ∃ x, e.tero p.mons = x := ⟨_, rfl⟩
  obtain ⟨tq, htq⟩ : ∃ x, e.tero (p.mons ++ [m]) = x := ⟨_, rfl⟩
  obtain ⟨ip, hip⟩ : ∃ x, e.is p.mons = x := ⟨_, rfl⟩
  obtain ⟨iq, hiq⟩ : ∃ x, e.is (p.mons ++ [m]) = x := ⟨_, rfl⟩
  obtain ⟨mi, hmi⟩ : ∃ x, monIx p.mons m.name = x := ⟨_, rfl⟩
  simp only [hrs] at h9
  simp only [htp, htq, hip, hiq, hmi] at hTp hTq h16 HLE HIN H61 HPp HPq
  clear hrs htp htq hip hiq hmi hS he
  rcases p with ⟨mad, mcap, mons, rad, rcap, roles⟩
  rcases e with ⟨op, emon, ename, en, ead, ecap, ekids, epos⟩
  rcases m with ⟨mname, mvad, mvcap, mvars, mmad, mmcap, mmeths, mpos⟩
  have HP := hid hp
  have HM := hid hm
  obtain ⟨⟨h3, h4⟩, h5, h6⟩ := hp
  simp only [Pr.val, Ex.val, Ex.cells, Mo.val, Mo.cells] at h3 h4 h5 h6 hbd h9 hTp h16 hq8 hTq HSM ⊢
  have hl1 := h3.1; have hl2 := h3.2.1
  unfold maxLen at hl2
  go_enter Tryd.func6, Tryd.ntmps6
  go_upto_region 2 with fail
  have hB : Below w.heap.size w ((((w.alloc (.cells #[.slice mad mons.length mcap, .slice rad roles.length rcap] 25)).alloc (.cells #[.int .i64 op, .string emon, .string ename, .int .i64 en, .slice ead ekids.length ecap, .int .i64 epos] 28)).alloc (.cells #[.string mname, .slice mvad mvars.length mvcap, .slice mmad mmeths.length mmcap, .int .i64 mpos] 48)).alloc (.cells #[.slice mad mons.length mcap, .slice rad roles.length rcap] 25)) := ((((Below.refl _ w).al le_rfl' _).al le_rfl' _).al le_rfl' _).al le_rfl' _
  obtain ⟨e1, e2, e3, -, hz3⟩ := three_box w #[.slice mad mons.length mcap, .slice rad roles.length rcap] #[.int .i64 op, .string emon, .string ename, .int .i64 en, .slice ead ekids.length ecap, .int .i64 epos] #[.string mname, .slice mvad mvars.length mvcap, .slice mmad mmeths.length mmcap, .int .i64 mpos] 25 28 48
  obtain ⟨W0, hW0⟩ : ∃ W0, ((w.alloc (.cells #[.slice mad mons.length mcap, .slice rad roles.length rcap] 25)).alloc (.cells #[.int .i64 op, .string emon, .string ename, .int .i64 en, .slice ead ekids.length ecap, .int .i64 epos] 28)).alloc (.cells #[.string mname, .slice mvad mvars.length mvcap, .slice mmad mmeths.length mmcap, .int .i64 mpos] 48) = W0 := ⟨_, rfl⟩
  rw [hW0] at e1 e2 e3 hz3 hB ⊢
  clear hW0
  obtain ⟨e4, hB4, hz4⟩ := one_box W0 #[.slice mad mons.length mcap, .slice rad roles.length rcap] 25
  have e1 := (hB4.block _ (by omega)).trans e1
  have e2 := (hB4.block _ (by omega)).trans e2
  have e3 := (hB4.block _ (by omega)).trans e3
  rw [hz3] at e4 hz4
  obtain ⟨W1, hW1⟩ : ∃ W1, W0.alloc (.cells #[.slice mad mons.length mcap, .slice rad roles.length rcap] 25) = W1 := ⟨_, rfl⟩
  rw [hW1] at e1 e2 e3 e4 hB hz4 ⊢
  clear hW1 hB4
  have HZ : Hid (W1.heap.size = w.heap.size + 4) := hid hz4
  simp only [Nat.add_assoc, Nat.reduceAdd]
  clear hz3 hz4
  have s0 := cellOf e1 0
  have m0 := cellOf e3 0
  have m1 := cellOf e3 1
  have m2 := cellOf e3 2
  have m3 := cellOf e3 3
  have q0 := cellOf e4 0
  have f0 := frozen_of e4 0
  simp at s0 m0 m1 m2 m3 q0
  have hb43 : w.heap.size + 3 ≤ W1.heap.size := by have := HZ.out; omega
  have HS : Hid (∀ W, Below (w.heap.size + 3) W1 W → W.cell? ⟨w.heap.size, 0, none⟩ = some (.slice mad mons.length mcap) ∧ W.cell? ⟨w.heap.size + 2, 0, none⟩ = some (.string mname) ∧ W.cell? ⟨w.heap.size + 2, 1, none⟩ = some (.slice mvad mvars.length mvcap) ∧ W.cell? ⟨w.heap.size + 2, 2, none⟩ = some (.slice mmad mmeths.length mmcap) ∧ W.cell? ⟨w.heap.size + 2, 3, none⟩ = some (.int .i64 mpos)) := fun W hW => ⟨(hW.cell (p := ⟨w.heap.size, 0, none⟩) (by show w.heap.size < _; omega)).trans s0, (hW.cell (p := ⟨w.heap.size + 2, 0, none⟩) (by show w.heap.size + 2 < _; omega)).trans m0, (hW.cell (p := ⟨w.heap.size + 2, 1, none⟩) (by show w.heap.size + 2 < _; omega)).trans m1, (hW.cell (p := ⟨w.heap.size + 2, 2, none⟩) (by show w.heap.size + 2 < _; omega)).trans m2, (hW.cell (p := ⟨w.heap.size + 2, 3, none⟩) (by show w.heap.size + 2 < _; omega)).trans m3⟩
  have B := Below.refl W1.heap.size W1
  have hown0 := World.ownsRow_made (base := W1.heap.size) (e := 48) (size := 4) W1 #[] 0 (Nat.le_refl _) (by unfold maxLen; omega) rfl
  have hownC := World.ownsRow_made (base := W1.heap.size) (e := 48) (size := 4) (W1.alloc (.cells #[.string mname, .slice mvad mvars.length mvcap, .slice mmad mmeths.length mmcap, .int .i64 mpos] 48)) #[] 0 (by simp) (by unfold maxLen; omega) rfl
  rw [World.size_alloc] at hownC
  have hmB : ((W1.alloc (.cells #[] 48)).alloc (.cells #[.string mname, .slice mvad mvars.length mvcap, .slice mmad mmeths.length mmcap, .int .i64 mpos] 48)).heap[W1.heap.size + 1]? = some (.cells #[.string mname, .slice mvad mvars.length mvcap, .slice mmad mmeths.length mmcap, .int .i64 mpos] 48 (0, 0)) := heapAt9 _ (by simp)
  have hmC : ((W1.alloc (.cells #[.string mname, .slice mvad mvars.length mvcap, .slice mmad mmeths.length mmcap, .int .i64 mpos] 48)).alloc (.cells #[] 48)).heap[W1.heap.size]? = some (.cells #[.string mname, .slice mvad mvars.length mvcap, .slice mmad mmeths.length mmcap, .int .i64 mpos] 48 (0, 0)) := (Below.heap_alloc _ _ _ (by simp)).trans (heapNew W1 _)
  go_cut [7] (fun t wx => t = .pointer (some ⟨w.heap.size + 3, 0, none⟩) ∧ MoreAt w W1 (⟨mad, mcap, mons, rad, rcap, roles⟩ : Pr) (⟨mname, mvad, mvcap, mvars, mmad, mmcap, mmeths, mpos⟩ : Mo) wx)
  case first =>
    go_region_held3 (fun W => W.cell? ⟨w.heap.size, 0, none⟩ = some (.slice mad mons.length mcap) ∧ W.cell? ⟨w.heap.size + 2, 0, none⟩ = some (.string mname) ∧ W.cell? ⟨w.heap.size + 2, 1, none⟩ = some (.slice mvad mvars.length mvcap) ∧ W.cell? ⟨w.heap.size + 2, 2, none⟩ = some (.slice mmad mmeths.length mmcap) ∧ W.cell? ⟨w.heap.size + 2, 3, none⟩ = some (.int .i64 mpos)) (exact HS.out _ (by repeat (first | exact B.mono hb43 | with_reducible refine below_drewN ?_ _ | with_reducible refine below_drewV ?_ | with_reducible refine Below.al ?_ hb43 _ | refine Below.setCell ?_ (by show w.heap.size + 3 ≤ w.heap.size + 3; exact Nat.le_refl _) _))) (first | (refine step_append_slB (cells := Mo.cells) (by rfl) _ _ 22 (by rfl) W1.heap.size 48 i0 _ 4 72 Tryd.underlying22 hi0 iz0 iz1 iz2 rfl (by decide) Mo.len Mo.one _ [] (by rfl) ?_ mad mcap mons w.heap.size (by rfl) ?_ (by unfold maxLen; simp; omega) (by simp; omega) ?_ W1 ?_ ?_; (first | exact hown0 | exact hown0.alloc _ | exact hownC); exact h3.below (hB.tr le_rfl' (by repeat (first | exact B | with_reducible refine below_drewN ?_ _ | with_reducible refine below_drewV ?_ | with_reducible refine Below.al ?_ le_rfl' _))); exact (show Below W1.heap.size W1 _ from (by repeat (first | exact B | with_reducible refine below_drewN ?_ _ | with_reducible refine below_drewV ?_ | with_reducible refine Below.al ?_ le_rfl' _))).size; exact (by repeat (first | exact B | with_reducible refine below_drewN ?_ _ | with_reducible refine below_drewV ?_ | with_reducible refine Below.al ?_ le_rfl' _)); intro v1 w1 hown1 hg1 hnn1 B; rw [List.nil_append] at hown1) | (refine step_append_slB (cells := Mo.cells) (by rfl) _ _ 22 (by rfl) W1.heap.size 48 i0 _ 4 72 Tryd.underlying22 hi0 iz0 iz1 iz2 rfl (by decide) Mo.len Mo.one v1 mons (by rfl) ?_ (some ⟨w1.heap.size, 0, none⟩) 1 [(⟨mname, mvad, mvcap, mvars, mmad, mmcap, mmeths, mpos⟩ : Mo)] (w1.heap.size + 1) (by rfl) ?_ (by unfold maxLen; simp; omega) (by simp; omega) ?_ W1 ?_ ?_; (first | exact hown1 | exact hown1.alloc _); exact slOne (heapNew _ _); exact (show Below W1.heap.size W1 _ from (by repeat (first | exact B | with_reducible refine below_drewN ?_ _ | with_reducible refine below_drewV ?_ | with_reducible refine Below.al ?_ le_rfl' _))).size; exact (by repeat (first | exact B | with_reducible refine below_drewN ?_ _ | with_reducible refine below_drewV ?_ | with_reducible refine Below.al ?_ le_rfl' _)); intro v2 w2 hown2 hg2 hnn2 B; obtain ⟨ad2, cp2, rfl, hsl3⟩ := slOwn2 Mo.len hown2; have t0 := (B.cell (p := ⟨w.heap.size + 3, 0, none⟩) (by show w.heap.size + 3 < _; have := HZ.out; omega)).trans q0; have f2 := frozen_of ((B.block (w.heap.size + 3) (by have := HZ.out; omega)).trans e4) 0) | (refine step_append_slB (cells := Mo.cells) (by rfl) _ _ 22 (by rfl) W1.heap.size 48 i0 _ 4 72 Tryd.underlying22 hi0 iz0 iz1 iz2 rfl (by decide) Mo.len Mo.one v1 mons (by rfl) ?_ (some ⟨W1.heap.size + 1, 0, none⟩) 1 [(⟨mname, mvad, mvcap, mvars, mmad, mmcap, mmeths, mpos⟩ : Mo)] (W1.heap.size + 1 + 1) (by rfl) ?_ (by unfold maxLen; simp; omega) (by simp; omega) ?_ W1 ?_ ?_; (first | exact hown1 | exact hown1.alloc _); exact slOne ((hg1.block _ (by simp <;> omega) (show ¬ (some (W1.heap.size + 1) = some W1.heap.size) by simp)).trans hmB); exact (show Below W1.heap.size W1 _ from (by repeat (first | exact B | with_reducible refine below_drewN ?_ _ | with_reducible refine below_drewV ?_ | with_reducible refine Below.al ?_ le_rfl' _))).size; exact (by repeat (first | exact B | with_reducible refine below_drewN ?_ _ | with_reducible refine below_drewV ?_ | with_reducible refine Below.al ?_ le_rfl' _)); intro v2 w2 hown2 hg2 hnn2 B; obtain ⟨ad2, cp2, rfl, hsl3⟩ := slOwn2 Mo.len hown2; have t0 := (B.cell (p := ⟨w.heap.size + 3, 0, none⟩) (by show w.heap.size + 3 < _; have := HZ.out; omega)).trans q0; have f2 := frozen_of ((B.block (w.heap.size + 3) (by have := HZ.out; omega)).trans e4) 0) | (refine step_append_slB (cells := Mo.cells) (by rfl) _ _ 22 (by rfl) W1.heap.size 48 i0 _ 4 72 Tryd.underlying22 hi0 iz0 iz1 iz2 rfl (by decide) Mo.len Mo.one v1 mons (by rfl) ?_ (some ⟨W1.heap.size, 0, none⟩) 1 [(⟨mname, mvad, mvcap, mvars, mmad, mmcap, mmeths, mpos⟩ : Mo)] (W1.heap.size + 1) (by rfl) ?_ (by unfold maxLen; simp; omega) (by simp; omega) ?_ W1 ?_ ?_; (first | exact hown1 | exact hown1.alloc _); exact slOne ((hg1.block _ (by simp <;> omega) (show ¬ (some W1.heap.size = some (W1.heap.size + 1)) by simp)).trans hmC); exact (show Below W1.heap.size W1 _ from (by repeat (first | exact B | with_reducible refine below_drewN ?_ _ | with_reducible refine below_drewV ?_ | with_reducible refine Below.al ?_ le_rfl' _))).size; exact (by repeat (first | exact B | with_reducible refine below_drewN ?_ _ | with_reducible refine below_drewV ?_ | with_reducible refine Below.al ?_ le_rfl' _)); intro v2 w2 hown2 hg2 hnn2 B; obtain ⟨ad2, cp2, rfl, hsl3⟩ := slOwn2 Mo.len hown2; have t0 := (B.cell (p := ⟨w.heap.size + 3, 0, none⟩) (by show w.heap.size + 3 < _; have := HZ.out; omega)).trans q0; have f2 := frozen_of ((B.block (w.heap.size + 3) (by have := HZ.out; omega)).trans e4) 0))
    all_goals go_wp2
    all_goals go_meet
    all_goals exact ⟨rfl, more_at HP.out HM.out hB B HZ.out hsl3 e4⟩
  case rest =>
    obtain ⟨rfl, ⟨⟨ad2, cp2, hq, k0, k1⟩, hbq, hltq⟩⟩ := hcut
    simp only at hq k0 k1
    have hBc : Below w.heap.size w wc := hB.trans (hbq.mono (by omega))
    have e1 := (hbq.block _ (by omega)).trans e1
    have e2 := (hbq.block _ (by omega)).trans e2
    have e3 := (hbq.block _ (by omega)).trans e3
    have HK : Hid (∀ W, Below wc.heap.size wc W → W.heap[w.heap.size]? = some (.cells #[.slice mad mons.length mcap, .slice rad roles.length rcap] 25 (0, 0)) ∧ W.heap[w.heap.size + 1]? = some (.cells #[.int .i64 op, .string emon, .string ename, .int .i64 en, .slice ead ekids.length ecap, .int .i64 epos] 28 (0, 0)) ∧ W.heap[w.heap.size + 2]? = some (.cells #[.string mname, .slice mvad mvars.length mvcap, .slice mmad mmeths.length mmcap, .int .i64 mpos] 48 (0, 0)) ∧ W.cell? ⟨w.heap.size + 3, 0, none⟩ = some (.slice ad2 (mons.length + 1) cp2) ∧ W.cell? ⟨w.heap.size + 3, 1, none⟩ = some (.slice rad roles.length rcap)) := fun W hW => ⟨(hW.block _ (by omega)).trans e1, (hW.block _ (by omega)).trans e2, (hW.block _ (by omega)).trans e3, (hW.cell (p := ⟨w.heap.size + 3, 0, none⟩) (by show w.heap.size + 3 < _; omega)).trans k0, (hW.cell (p := ⟨w.heap.size + 3, 1, none⟩) (by show w.heap.size + 3 < _; omega)).trans k1⟩
    have h8 := fun W (hW : Below wc.heap.size wc W) => hq8 _ wc W hq hW
    have hTq2 := fun hv W (hW : Below wc.heap.size wc W) => hTq _ wc W rfl hv hq hBc hW
    have HSM2 := hid (HSM.out _ (rfl : (⟨ad2, cp2, mons ++ [⟨mname, mvad, mvcap, mvars, mmad, mmcap, mmeths, mpos⟩], rad, rcap, roles⟩ : Pr).mons = _))
    simp only [List.length_append, List.length_cons, List.length_nil, Nat.zero_add] at h8 hTq2
    clear hq8 hTq hq HSM e4 q0 f0 s0 m0 m1 m2 m3 HS hown0 hownC hmB hmC k0 k1 HP HM hbd
    have C : Below wc.heap.size wc wc := Below.refl _ _
    obtain ⟨-, -, -, k0, k1⟩ := HK.out _ C
    have r0 := cellOf e1 0
    have r1 := cellOf e1 1
    have a0 := cellOf e2 0
    have a1 := cellOf e2 1
    have a2 := cellOf e2 2
    have a3 := cellOf e2 3
    have a4 := cellOf e2 4
    have a5 := cellOf e2 5
    have n0 := cellOf e3 0
    simp at r0 r1 a0 a1 a2 a3 a4 a5 n0
    clear e1 e2 e3
    by_cases g1 : rs < 0
    · go_upto_if 3 with (first
        | (go_at_call 8; (with_reducible refine (h8 _ C).mono ?_); rintro r u1 ⟨c, rfl, -, bb⟩; have C := C.tr le_rfl' bb; obtain ⟨e1, e2, e3, k0, k1⟩ := HK.out _ C; have r0 := cellOf e1 0; have r1 := cellOf e1 1; have a0 := cellOf e2 0; have a1 := cellOf e2 1; have a2 := cellOf e2 2; have a3 := cellOf e2 3; have a4 := cellOf e2 4; have a5 := cellOf e2 5; have n0 := cellOf e3 0; simp at r0 r1 a0 a1 a2 a3 a4 a5 n0; clear e1 e2 e3; cases c)
        | (go_at_call 9; (with_reducible refine (h9 _ (hBc.tr le_rfl' C)).mono ?_); rintro r u2 ⟨rfl, bb⟩; have C := C.tr le_rfl' bb; obtain ⟨e1, e2, e3, k0, k1⟩ := HK.out _ C; have r0 := cellOf e1 0; have r1 := cellOf e1 1; have a0 := cellOf e2 0; have a1 := cellOf e2 1; have a2 := cellOf e2 2; have a3 := cellOf e2 3; have a4 := cellOf e2 4; have a5 := cellOf e2 5; have n0 := cellOf e3 0; simp at r0 r1 a0 a1 a2 a3 a4 a5 n0; clear e1 e2 e3))
      all_goals ((with_reducible refine (h10 _ (hBc.tr le_rfl' C)).mono ?_); rintro r u3 ⟨rfl, bb⟩; have C := C.tr le_rfl' bb)
      all_goals go_wp2
      all_goals go_ret
      all_goals exact ⟨rfl, hBc.tr le_rfl' C⟩
    have g1' : decide (rs < 0) = false := by simp; omega
    clear g1
    go_upto_if 3 with (first
      | (go_at_call 8; (with_reducible refine (h8 _ C).mono ?_); rintro r u1 ⟨c, rfl, hsm, bb⟩; have C := C.tr le_rfl' bb; obtain ⟨e1, e2, e3, k0, k1⟩ := HK.out _ C; have r0 := cellOf e1 0; have r1 := cellOf e1 1; have a0 := cellOf e2 0; have a1 := cellOf e2 1; have a2 := cellOf e2 2; have a3 := cellOf e2 3; have a4 := cellOf e2 4; have a5 := cellOf e2 5; have n0 := cellOf e3 0; simp at r0 r1 a0 a1 a2 a3 a4 a5 n0; clear e1 e2 e3; cases c)
      | (go_at_call 9; (with_reducible refine (h9 _ (hBc.tr le_rfl' C)).mono ?_); rintro r u2 ⟨rfl, bb⟩; have C := C.tr le_rfl' bb; obtain ⟨e1, e2, e3, k0, k1⟩ := HK.out _ C; have r0 := cellOf e1 0; have r1 := cellOf e1 1; have a0 := cellOf e2 0; have a1 := cellOf e2 1; have a2 := cellOf e2 2; have a3 := cellOf e2 3; have a4 := cellOf e2 4; have a5 := cellOf e2 5; have n0 := cellOf e3 0; simp at r0 r1 a0 a1 a2 a3 a4 a5 n0; clear e1 e2 e3))
    · (with_reducible refine (h10 _ (hBc.tr le_rfl' C)).mono ?_); rintro r u3 ⟨rfl, bb⟩
      have C := C.tr le_rfl' bb
      go_wp2
      go_ret
      exact ⟨rfl, hBc.tr le_rfl' C⟩
    obtain ⟨hv1, hv2⟩ := HSM2.out (hsm (by trivial)).2.1 (hsm (by trivial)).2.2
    have hTp := hTp hv2
    have hTq3 := hTq2 hv1
    clear hsm hv1 hv2 HSM2 hTq2 h8 h9
    rcases tp with _ | ⟨cp, xp⟩
    · obtain ⟨rfl, rfl⟩ := HLE.out rfl
      have hTp := fun W hW => TyBack.no (hTp W hW) rfl
      have hTq3 := fun W hW => TyBack.no (hTq3 W hW) rfl
      (with_reducible refine (hTp _ (hBc.tr le_rfl' C)).mono ?_); rintro r u3 ⟨rfl, bb⟩
      have C := C.tr le_rfl' bb
      obtain ⟨e1, e2, e3, k0, k1⟩ := HK.out _ C
      have r0 := cellOf e1 0
      have r1 := cellOf e1 1
      have a0 := cellOf e2 0
      have a1 := cellOf e2 1
      have a2 := cellOf e2 2
      have a3 := cellOf e2 3
      have a4 := cellOf e2 4
      have a5 := cellOf e2 5
      have n0 := cellOf e3 0
      simp at r0 r1 a0 a1 a2 a3 a4 a5 n0
      clear e1 e2 e3
      go_wp2_with (first
        | (go_at_call 11; (with_reducible refine (hTq3 _ C).mono ?_); rintro r u4 ⟨rfl, bb⟩; have C := C.tr le_rfl' bb; obtain ⟨e1, e2, e3, k0, k1⟩ := HK.out _ C; have r0 := cellOf e1 0; have r1 := cellOf e1 1; have a0 := cellOf e2 0; have a1 := cellOf e2 1; have a2 := cellOf e2 2; have a3 := cellOf e2 3; have a4 := cellOf e2 4; have a5 := cellOf e2 5; have n0 := cellOf e3 0; simp at r0 r1 a0 a1 a2 a3 a4 a5 n0; clear e1 e2 e3)
        | (go_at_call 13; (with_reducible refine (h13 _ _).mono ?_); rintro r w' ⟨rfl, hw'⟩; have hw2 := hw'.symm; subst hw2)
        | (go_at_call 10; (with_reducible refine (h10 _ (hBc.tr le_rfl' C)).mono ?_); rintro r u5 ⟨rfl, bb⟩; have C := C.tr le_rfl' bb))
      go_ret
      exact ⟨rfl, hBc.tr le_rfl' C⟩
    have hcp : (cp == 0) = false := by rw [beq_eq_false_iff_ne]; exact HPp.out cp xp rfl
    have hTp := fun W hW => TyBack.yes (hTp W hW) rfl
    rcases mi with _ | i
    · have h16 := fun W hW => FirstBack.no (h16 W hW) rfl
      rcases tq with _ | ⟨cq, xq⟩
      · have hc61 := H61.out rfl cp xp rfl
        subst hc61
        have hTq3 := fun W hW => TyBack.no (hTq3 W hW) rfl
        (with_reducible refine (hTp _ (hBc.tr le_rfl' C)).mono ?_); rintro r u3 ⟨rfl, bb⟩
        have C := C.tr le_rfl' bb
        obtain ⟨e1, e2, e3, k0, k1⟩ := HK.out _ C
        have r0 := cellOf e1 0
        have r1 := cellOf e1 1
        have a0 := cellOf e2 0
        have a1 := cellOf e2 1
        have a2 := cellOf e2 2
        have a3 := cellOf e2 3
        have a4 := cellOf e2 4
        have a5 := cellOf e2 5
        have n0 := cellOf e3 0
        simp at r0 r1 a0 a1 a2 a3 a4 a5 n0
        clear e1 e2 e3
        go_wp2_with (first
          | (go_at_call 11; (with_reducible refine (hTq3 _ C).mono ?_); rintro r u4 ⟨rfl, bb⟩; have C := C.tr le_rfl' bb; obtain ⟨e1, e2, e3, k0, k1⟩ := HK.out _ C; have r0 := cellOf e1 0; have r1 := cellOf e1 1; have a0 := cellOf e2 0; have a1 := cellOf e2 1; have a2 := cellOf e2 2; have a3 := cellOf e2 3; have a4 := cellOf e2 4; have a5 := cellOf e2 5; have n0 := cellOf e3 0; simp at r0 r1 a0 a1 a2 a3 a4 a5 n0; clear e1 e2 e3)
          | (go_at_call 16; (with_reducible refine (h16 _ (hBc.tr le_rfl' C)).mono ?_); rintro r u6 ⟨rfl, bb⟩; have C := C.tr le_rfl' bb; obtain ⟨e1, e2, e3, k0, k1⟩ := HK.out _ C; have r0 := cellOf e1 0; have r1 := cellOf e1 1; have a0 := cellOf e2 0; have a1 := cellOf e2 1; have a2 := cellOf e2 2; have a3 := cellOf e2 3; have a4 := cellOf e2 4; have a5 := cellOf e2 5; have n0 := cellOf e3 0; simp at r0 r1 a0 a1 a2 a3 a4 a5 n0; clear e1 e2 e3)
          | (go_at_call 13; (with_reducible refine (h13 _ _).mono ?_); rintro r w' ⟨rfl, hw'⟩; have hw2 := hw'.symm; subst hw2)
          | (go_at_call 10; (with_reducible refine (h10 _ (hBc.tr le_rfl' C)).mono ?_); rintro r u5 ⟨rfl, bb⟩; have C := C.tr le_rfl' bb))
        go_ret
        exact ⟨rfl, hBc.tr le_rfl' C⟩
      · have hcq : (cq != 0) = true := by rw [bne_iff_ne]; exact HPq.out cq xq rfl
        have hTq3 := fun W hW => TyBack.yes (hTq3 W hW) rfl
        (with_reducible refine (hTp _ (hBc.tr le_rfl' C)).mono ?_); rintro r u3 ⟨rfl, bb⟩
        have C := C.tr le_rfl' bb
        obtain ⟨e1, e2, e3, k0, k1⟩ := HK.out _ C
        have r0 := cellOf e1 0
        have r1 := cellOf e1 1
        have a0 := cellOf e2 0
        have a1 := cellOf e2 1
        have a2 := cellOf e2 2
        have a3 := cellOf e2 3
        have a4 := cellOf e2 4
        have a5 := cellOf e2 5
        have n0 := cellOf e3 0
        simp at r0 r1 a0 a1 a2 a3 a4 a5 n0
        clear e1 e2 e3
        go_wp2_with (first
          | (go_at_call 11; (with_reducible refine (hTq3 _ C).mono ?_); rintro r u4 ⟨rfl, bb⟩; have C := C.tr le_rfl' bb; obtain ⟨e1, e2, e3, k0, k1⟩ := HK.out _ C; have r0 := cellOf e1 0; have r1 := cellOf e1 1; have a0 := cellOf e2 0; have a1 := cellOf e2 1; have a2 := cellOf e2 2; have a3 := cellOf e2 3; have a4 := cellOf e2 4; have a5 := cellOf e2 5; have n0 := cellOf e3 0; simp at r0 r1 a0 a1 a2 a3 a4 a5 n0; clear e1 e2 e3)
          | (go_at_call 16; (with_reducible refine (h16 _ (hBc.tr le_rfl' C)).mono ?_); rintro r u6 ⟨rfl, bb⟩; have C := C.tr le_rfl' bb; obtain ⟨e1, e2, e3, k0, k1⟩ := HK.out _ C; have r0 := cellOf e1 0; have r1 := cellOf e1 1; have a0 := cellOf e2 0; have a1 := cellOf e2 1; have a2 := cellOf e2 2; have a3 := cellOf e2 3; have a4 := cellOf e2 4; have a5 := cellOf e2 5; have n0 := cellOf e3 0; simp at r0 r1 a0 a1 a2 a3 a4 a5 n0; clear e1 e2 e3)
          | (go_at_call 13; (with_reducible refine (h13 _ _).mono ?_); rintro r w' ⟨rfl, hw'⟩; have hw2 := hw'.symm; subst hw2)
          | (go_at_call 10; (with_reducible refine (h10 _ (hBc.tr le_rfl' C)).mono ?_); rintro r u5 ⟨rfl, bb⟩; have C := C.tr le_rfl' bb))
        go_ret
        exact ⟨rfl, hBc.tr le_rfl' C⟩
    · have h16 := fun W hW => FirstBack.yes (h16 W hW) rfl
      have heq := HIN.out rfl
      subst heq
      have hTq3 := fun W hW => TyBack.yes (hTq3 W hW) rfl
      (with_reducible refine (hTp _ (hBc.tr le_rfl' C)).mono ?_); rintro r u3 ⟨rfl, bb⟩
      have C := C.tr le_rfl' bb
      obtain ⟨e1, e2, e3, k0, k1⟩ := HK.out _ C
      have r0 := cellOf e1 0
      have r1 := cellOf e1 1
      have a0 := cellOf e2 0
      have a1 := cellOf e2 1
      have a2 := cellOf e2 2
      have a3 := cellOf e2 3
      have a4 := cellOf e2 4
      have a5 := cellOf e2 5
      have n0 := cellOf e3 0
      simp at r0 r1 a0 a1 a2 a3 a4 a5 n0
      clear e1 e2 e3
      go_wp2_with (first
        | (go_at_call 11; (with_reducible refine (hTq3 _ C).mono ?_); rintro r u4 ⟨rfl, bb⟩; have C := C.tr le_rfl' bb; obtain ⟨e1, e2, e3, k0, k1⟩ := HK.out _ C; have r0 := cellOf e1 0; have r1 := cellOf e1 1; have a0 := cellOf e2 0; have a1 := cellOf e2 1; have a2 := cellOf e2 2; have a3 := cellOf e2 3; have a4 := cellOf e2 4; have a5 := cellOf e2 5; have n0 := cellOf e3 0; simp at r0 r1 a0 a1 a2 a3 a4 a5 n0; clear e1 e2 e3)
        | (go_at_call 16; (with_reducible refine (h16 _ (hBc.tr le_rfl' C)).mono ?_); rintro r u6 ⟨rfl, bb⟩; have C := C.tr le_rfl' bb; obtain ⟨e1, e2, e3, k0, k1⟩ := HK.out _ C; have r0 := cellOf e1 0; have r1 := cellOf e1 1; have a0 := cellOf e2 0; have a1 := cellOf e2 1; have a2 := cellOf e2 2; have a3 := cellOf e2 3; have a4 := cellOf e2 4; have a5 := cellOf e2 5; have n0 := cellOf e3 0; simp at r0 r1 a0 a1 a2 a3 a4 a5 n0; clear e1 e2 e3)
        | (go_at_call 13; (with_reducible refine (h13 _ _).mono ?_); rintro r w' ⟨rfl, hw'⟩; have hw2 := hw'.symm; subst hw2)
        | (go_at_call 10; (with_reducible refine (h10 _ (hBc.tr le_rfl' C)).mono ?_); rintro r u5 ⟨rfl, bb⟩; have C := C.tr le_rfl' bb))
      go_ret
      exact ⟨rfl, hBc.tr le_rfl' C⟩
end Go.Proofs.YtgfdegogknoknaaDoor
