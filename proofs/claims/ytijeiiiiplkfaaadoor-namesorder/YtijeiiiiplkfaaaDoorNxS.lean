/-
  The statement NamesOrder: its walk.
-/
import Derived.Test.YtijeiiiiplkfaaaDoorNxR
import Derived.Test.YtijeiiiiplkfaaaDoorSmA
namespace Go.Proofs.YtijeiiiiplkfaaaDoor
open Go.RowKit
theorem below_drewK {B : Nat} {w w' : World} (h : Below B w w') : Below B w w'.drew := ⟨h.os, h.tape, h.output, h.size, h.block⟩
set_option maxRecDepth 100000 in
set_option maxHeartbeats 16000000 in
theorem namesOrder_walk (p : Pr) (name : ByteArray) (pos : Int) (w : World) (hS : Shapes w) (hp : p.Is w.heap.size w) (hln : Len name) (hps : I64 pos) :
    Calls Tryd.prog 6 #[p.val, .string name, .int .i64 pos] w fun e w' => e = .returned (.bool true) ∧ Below w.heap.size w w' := by
  obtain ⟨i0, hi0, iz0, iz1, iz2⟩ := info_parts info64
  have hs2 := hS.size
  have h7 : ∀ W, Below w.heap.size w W → Calls Tryd.prog 7 #[p.val, .int .i64 400] W fun r w' => SmallBack p W w' r := fun W hW => small_any w.heap.size p W hW.size (hp.below hW)
  have h8 : ∀ W, Below w.heap.size w W → Calls Tryd.prog 8 #[] W fun r w' => r = .returned (.bool true) ∧ Below W.heap.size W w' := fun W hW => live_any W (hS.below hW hs2)
  have h9 : ∀ W, Below w.heap.size w W → Calls Tryd.prog 9 #[p.val] W fun r w' => r = .returned (.tuple #[.int .i64 p.nchk.1, .int .i64 p.nchk.2]) ∧ Below W.heap.size W w' := fun W hW => namesCheck_any p w.heap.size W hW.size (hp.below hW) (hS.below hW hs2)
  have h9q : ∀ W (q : Pr), Below w.heap.size w W → q.Is W.heap.size W → Calls Tryd.prog 9 #[q.val] W fun r w' => r = .returned (.tuple #[.int .i64 q.nchk.1, .int .i64 q.nchk.2]) ∧ Below W.heap.size W w' := fun W q hW hq => namesCheck_any q W.heap.size W (Nat.le_refl _) hq (hS.below hW hs2)
  have h24q : ∀ W (q : Pr), Below w.heap.size w W → q.Is W.heap.size W → Calls Tryd.prog 24 #[q.val] W fun r w' => r = .returned (.int .i64 (if q.ok then 0 else 20)) ∧ Below W.heap.size W w' := fun W q hW hq => check_any q W.heap.size W (Nat.le_refl _) hq (hS.below hW hs2)
  have h12 : ∀ W, Below w.heap.size w W → Calls Tryd.prog 12 #[p.val, .string name] W fun r w' => FirstBack (monIx p.mons name) W w' r := fun W hW => monitor_any p name w.heap.size W hW.size (hp.below hW)
  have h11 := num_any
  have HP := hid hp
  have hln2 := hln
  unfold Len at hln2
  obtain ⟨c1, hc1⟩ : ∃ c1, p.nchk.1 = c1 := ⟨_, rfl⟩
  obtain ⟨c2, hc2⟩ : ∃ c2, p.nchk.2 = c2 := ⟨_, rfl⟩
  have HC1 := hid hc1
  simp only [hc1, hc2] at h9
  clear hc1 hc2
  rcases hpp : p with ⟨mad, mcap, mons, rad, rcap, roles⟩
  have HPP := hid hpp
  rw [hpp] at hp
  simp only [hpp, Pr.val] at h7 h9 h12 ⊢
  clear hpp
  obtain ⟨⟨h3, h4⟩, h5, h6⟩ := hp
  simp only at h3 h4 h5 h6
  have hl1 := h3.1; have hl2 := h3.2.1
  unfold maxLen at hl2
  go_enter Tryd.func6, Tryd.ntmps6
  go_upto_region 1 with fail
  obtain ⟨bP, hB, hz⟩ := one_box w #[.slice mad mons.length mcap, .slice rad roles.length rcap] 25
  obtain ⟨W0, hW0⟩ : ∃ W0, w.alloc (.cells #[.slice mad mons.length mcap, .slice rad roles.length rcap] 25) = W0 := ⟨_, rfl⟩
  rw [hW0] at bP hB hz ⊢
  clear hW0
  have s0 := cellOf bP 0
  have s1 := cellOf bP 1
  simp at s0 s1
  have HZ := hid hz
  clear bP hz
  have hq7 := h7 W0 hB
  clear h7
  have ARM : True := trivial
  by_cases g1 : 400 < name.size
  · have g1' : (400 : Int) < (name.size : Int) := by omega
    go_upto_region 2 with (go_at_call 7; (with_reducible refine hq7.mono ?_); rintro r u1 ⟨c, rfl, -, bb1⟩; have B2 := hB.tr le_rfl' bb1; cases c)
    all_goals go_wp2_with (go_at_call 8; (with_reducible refine (h8 _ B2).mono ?_); rintro r u2 ⟨rfl, bb2⟩)
    all_goals go_ret
    all_goals exact ⟨rfl, B2.tr le_rfl' bb2⟩
  have g1' : decide ((400 : Int) < (name.size : Int)) = false := by simp; omega
  by_cases g2 : 8 ≤ mons.length
  · have g2' : (8 : Int) ≤ (mons.length : Int) := by omega
    go_upto_region 2 with (go_at_call 7; (with_reducible refine hq7.mono ?_); rintro r u1 ⟨c, rfl, -, bb1⟩; have B2 := hB.tr le_rfl' bb1; have x0 := (bb1.cell (p := ⟨w.heap.size, 0, none⟩) (by show w.heap.size < _; have := HZ.out; omega)).trans s0; cases c)
    all_goals go_wp2_with (go_at_call 8; (with_reducible refine (h8 _ B2).mono ?_); rintro r u2 ⟨rfl, bb2⟩)
    all_goals go_ret
    all_goals exact ⟨rfl, B2.tr le_rfl' bb2⟩
  have g2' : decide ((8 : Int) ≤ (mons.length : Int)) = false := by simp; omega
  go_upto_if 5 with (go_at_call 7; (with_reducible refine hq7.mono ?_); rintro r u1 ⟨c, rfl, -, bb1⟩; have B2 := hB.tr le_rfl' bb1; have hz1 := bb1.size; have x0 := (bb1.cell (p := ⟨w.heap.size, 0, none⟩) (by show w.heap.size < _; have := HZ.out; omega)).trans s0; have x1 := (bb1.cell (p := ⟨w.heap.size, 1, none⟩) (by show w.heap.size < _; have := HZ.out; omega)).trans s1; cases c)
  · (with_reducible refine (h8 _ B2).mono ?_); rintro r u2 ⟨rfl, bb2⟩
    go_wp2
    go_ret
    exact ⟨rfl, B2.tr le_rfl' bb2⟩
  · (with_reducible refine (h9 _ B2).mono ?_); rintro r u2 ⟨rfl, bb2⟩
    have B3 := B2.tr le_rfl' bb2
    have hz2' := bb2.size
    have hzz := HZ.out
    have y0 := (bb2.cell (p := ⟨w.heap.size, 0, none⟩) (by show w.heap.size < _; omega)).trans x0
    have y1 := (bb2.cell (p := ⟨w.heap.size, 1, none⟩) (by show w.heap.size < _; omega)).trans x1
    clear x0 x1 s0 s1
    by_cases hc : c1 = 0
    · subst hc
      go_upto_region 7 with (go_at_call 11; (with_reducible refine (h11 _ _).mono ?_); rintro r w' ⟨rfl, hw'⟩; have hw2 := hw'.symm; subst hw2)
      obtain ⟨bQ, hBQ, hzQ⟩ := one_box u2 #[.slice mad mons.length mcap, .slice rad roles.length rcap] 25
      have z0 := (hBQ.cell (p := ⟨w.heap.size, 0, none⟩) (by show w.heap.size < _; omega)).trans y0
      have z1 := (hBQ.cell (p := ⟨w.heap.size, 1, none⟩) (by show w.heap.size < _; omega)).trans y1
      obtain ⟨bq, hbq⟩ : ∃ bq, u2.heap.size = bq := ⟨_, rfl⟩
      obtain ⟨W1, hW1⟩ : ∃ W1, u2.alloc (.cells #[.slice mad mons.length mcap, .slice rad roles.length rcap] 25) = W1 := ⟨_, rfl⟩
      rw [hW1] at bQ hBQ hzQ z0 z1 ⊢
      clear hW1
      rw [hbq] at bQ hBQ hzQ hz2' ⊢
      have B4 : Below w.heap.size w W1 := B3.trans (hBQ.mono (by omega))
      have hown0 := World.ownsRow_made (base := W1.heap.size) (e := 64) (size := 4) W1 #[] 0 (Nat.le_refl _) (by unfold maxLen; omega) rfl
      have hsl1 := (h3.below B4).below ((Below.refl w.heap.size W1).al B4.size (.cells #[] 64))
      have q0 := ((Below.refl _ W1).al le_rfl' (.cells #[] 64)).cell (p := ⟨w.heap.size, 0, none⟩) (by show w.heap.size < _; omega)
      rw [z0] at q0
      have HQ := hid hbq
      have HZQ := hid hzQ
      have hzq2 : bq < W1.heap.size := by omega
      clear hbq y0 y1 hzQ
      go_wp2_with (first
        | (at_builtin; refine wpList_append_sl (cells := Mo.cells) rfl _ _ 22 rfl W1.heap.size 64 i0 _ 4 72 Tryd.underlying22 hi0 iz0 iz1 iz2 rfl (by decide) Mo.len Mo.one _ [] rfl hown0 mad mcap mons w.heap.size rfl hsl1 (by unfold maxLen; simp; omega) (by simp; omega) (by simp) ?_; intro v1 w1 hown1 hg1 _; rw [List.nil_append] at hown1; have hb1 := owns_grown_below ((Below.refl W1.heap.size W1).al le_rfl' (.cells #[] 64)) hown0 hg1 (by simp); have hown2 := hown1.alloc (.cells #[.string name, .slice none 0 0, .slice none 0 0, .int .i64 pos] 64); have hsl2 : SlAt 4 Mo.cells (w1.heap.size + 1) (w1.alloc (.cells #[.string name, .slice none 0 0, .slice none 0 0, .int .i64 pos] 64)) (some ⟨w1.heap.size, 0, none⟩) 1 [(⟨name, none, 0, [], none, 0, [], pos⟩ : Mo)] := (by refine ⟨by simp, by unfold maxLen; omega, .inr ⟨w1.heap.size, 0, rfl, by omega, fun j hj i hi => ?_⟩⟩; rw [cellOf (heapNew w1 _)]; have hj2 : j < 1 := (by simpa using hj); rcases j with _ | j; (rcases i with _ | _ | _ | _ | i <;> first | rfl | omega); omega))
        | (at_builtin; refine wpList_append_sl (cells := Mo.cells) rfl _ _ 22 rfl W1.heap.size 64 i0 _ 4 72 Tryd.underlying22 hi0 iz0 iz1 iz2 rfl (by decide) Mo.len Mo.one v1 mons rfl hown2 (some ⟨w1.heap.size, 0, none⟩) 1 [(⟨name, none, 0, [], none, 0, [], pos⟩ : Mo)] (w1.heap.size + 1) rfl hsl2 (by unfold maxLen; simp; omega) (by simp; omega) (by have := hb1.size; simp; omega) ?_; intro v2 w2 hown3 hg3 _; have hb2 := owns_grown_below (hb1.al (by have := hb1.size; omega) _) hown2 hg3 (by have := hb1.size; simp; omega); obtain ⟨ad2, cp2, rfl, hsl3⟩ := slOwn2 Mo.len hown3; have bQ2 := (hb2.block bq (by omega)).trans bQ; have t0 := cellOf bQ2 0; have t1 := cellOf bQ2 1; have f0 := frozen_of bQ2 0; simp at t0 t1))
      have hw2z := hb2.size
      have B5 : Below w.heap.size w (w2.setCell ⟨bq, 0, none⟩ (.slice ad2 (mons.length + 1) cp2)) := (B4.trans (hb2.mono B4.size)).setCell (p := ⟨bq, 0, none⟩) (by show w.heap.size ≤ bq; omega) _
      have k0 : (w2.setCell ⟨bq, 0, none⟩ (.slice ad2 (mons.length + 1) cp2)).cell? ⟨bq, 0, none⟩ = some (.slice ad2 (mons.length + 1) cp2) := by simp [go_sem, t0]
      have k1 : (w2.setCell ⟨bq, 0, none⟩ (.slice ad2 (mons.length + 1) cp2)).cell? ⟨bq, 1, none⟩ = some (.slice rad roles.length rcap) := by simpa [go_sem] using t1
      have hkb : ∀ k, k ≠ bq → (w2.setCell ⟨bq, 0, none⟩ (.slice ad2 (mons.length + 1) cp2)).heap[k]? = w2.heap[k]? := fun k hk => Below.heap_setCell _ ⟨bq, 0, none⟩ _ k hk
      have m0 : (w2.setCell ⟨bq, 0, none⟩ (.slice ad2 (mons.length + 1) cp2)).cell? ⟨w.heap.size, 0, none⟩ = some (.slice mad mons.length mcap) := (World.cell?_of_block (a := ⟨w.heap.size, 0, none⟩) (hkb w.heap.size (by omega))).trans ((hb2.cell (p := ⟨w.heap.size, 0, none⟩) (by show w.heap.size < _; omega)).trans z0)
      have m1 : (w2.setCell ⟨bq, 0, none⟩ (.slice ad2 (mons.length + 1) cp2)).cell? ⟨w.heap.size, 1, none⟩ = some (.slice rad roles.length rcap) := (World.cell?_of_block (a := ⟨w.heap.size, 1, none⟩) (hkb w.heap.size (by omega))).trans ((hb2.cell (p := ⟨w.heap.size, 1, none⟩) (by show w.heap.size < _; omega)).trans z1)
      have hz5 : (w2.setCell ⟨bq, 0, none⟩ (.slice ad2 (mons.length + 1) cp2)).heap.size = w2.heap.size := by simp
      obtain ⟨W5, hW5⟩ : ∃ W5, w2.setCell ⟨bq, 0, none⟩ (.slice ad2 (mons.length + 1) cp2) = W5 := ⟨_, rfl⟩
      rw [hW5] at k0 k1 m0 m1 B5 hz5 ⊢
      simp only [hW5] at hkb
      clear hW5
      have hB5z := B5.size
      have hqi : (⟨ad2, cp2, mons ++ [(⟨name, none, 0, [], none, 0, [], pos⟩ : Mo)], rad, rcap, roles⟩ : Pr).Is W5.heap.size W5 := by
        refine ⟨⟨⟨hsl3.1, hsl3.2.1, ?_⟩, fun m hm => ?_⟩, (h5.below B5).mono hB5z, fun r hr => ((h6 r hr).below B5).mono hB5z⟩
        · rcases hsl3.2.2 with h | ⟨b, rfl, h5', h6', h7'⟩
          · exact .inl h
          · refine .inr ⟨b, 0, rfl, by omega, fun j hj i hi => ?_⟩
            refine Eq.trans ?_ (h7' j hj i hi)
            exact World.cell?_of_block (hkb b (by omega))
        · rcases List.mem_append.1 hm with hm | hm
          · exact ((h4 m hm).below B5).mono hB5z
          · rw [List.mem_singleton.1 hm]
            exact ⟨⟨hln, hps⟩, ⟨⟨by simp, Nat.zero_le _, .inl rfl⟩, fun v hv => by cases hv⟩, ⟨by simp, Nat.zero_le _, .inl rfl⟩, fun v hv => by cases hv⟩
      have HQ9 := h9q W5 _ B5 hqi
      have H24 : ∀ W, Below W5.heap.size W5 W → _ := fun W hW => h24q W (⟨ad2, cp2, mons ++ [(⟨name, none, 0, [], none, 0, [], pos⟩ : Mo)], rad, rcap, roles⟩ : Pr) (B5.tr le_rfl' hW) ((hqi.below hW).mono hW.size)
      have HTW : Hid ((⟨ad2, cp2, mons ++ [(⟨name, none, 0, [], none, 0, [], pos⟩ : Mo)], rad, rcap, roles⟩ : Pr).ok = true → (monIx mons name).isSome = true → (⟨ad2, cp2, mons ++ [(⟨name, none, 0, [], none, 0, [], pos⟩ : Mo)], rad, rcap, roles⟩ : Pr).nchk = (60, pos)) := fun h1 h2 => order_twice (p := ⟨mad, mcap, mons, rad, rcap, roles⟩) (m := (⟨name, none, 0, [], none, 0, [], pos⟩ : Mo)) (by have := HC1.out; rw [HPP.out] at this; exact this) rfl h1 h2
      have HFI : Hid ((⟨ad2, cp2, mons ++ [(⟨name, none, 0, [], none, 0, [], pos⟩ : Mo)], rad, rcap, roles⟩ : Pr).ok = true → monIx mons name = none → (⟨ad2, cp2, mons ++ [(⟨name, none, 0, [], none, 0, [], pos⟩ : Mo)], rad, rcap, roles⟩ : Pr).nchk = (0, 0)) := fun h1 h2 => order_fine (p := ⟨mad, mcap, mons, rad, rcap, roles⟩) (m := (⟨name, none, 0, [], none, 0, [], pos⟩ : Mo)) (by have := HC1.out; rw [HPP.out] at this; exact this) rfl rfl rfl rfl h1 h2
      have HNO : Hid ((⟨ad2, cp2, mons ++ [(⟨name, none, 0, [], none, 0, [], pos⟩ : Mo)], rad, rcap, roles⟩ : Pr).ok = false → (⟨ad2, cp2, mons ++ [(⟨name, none, 0, [], none, 0, [], pos⟩ : Mo)], rad, rcap, roles⟩ : Pr).nchk = (20, 0)) := fun h1 => by rw [Pr.nchk, h1]; rfl
      obtain ⟨qn, hqn⟩ : ∃ qn, (⟨ad2, cp2, mons ++ [(⟨name, none, 0, [], none, 0, [], pos⟩ : Mo)], rad, rcap, roles⟩ : Pr).nchk = qn := ⟨_, rfl⟩
      obtain ⟨qok, hqok⟩ : ∃ qok, (⟨ad2, cp2, mons ++ [(⟨name, none, 0, [], none, 0, [], pos⟩ : Mo)], rad, rcap, roles⟩ : Pr).ok = qok := ⟨_, rfl⟩
      rw [hqn] at HQ9
      simp only [hqn, hqok] at HTW HFI HNO H24
      simp only [Pr.val, List.length_append, List.length_cons, List.length_nil, Nat.zero_add] at HQ9 H24
      have HK : Hid (∀ W, Below W5.heap.size W5 W → W.cell? ⟨bq, 0, none⟩ = some (.slice ad2 (mons.length + 1) cp2) ∧ W.cell? ⟨bq, 1, none⟩ = some (.slice rad roles.length rcap) ∧ W.cell? ⟨w.heap.size, 0, none⟩ = some (.slice mad mons.length mcap) ∧ W.cell? ⟨w.heap.size, 1, none⟩ = some (.slice rad roles.length rcap)) := fun W hW => ⟨(hW.cell (p := ⟨bq, 0, none⟩) (by show bq < _; omega)).trans k0, (hW.cell (p := ⟨bq, 1, none⟩) (by show bq < _; omega)).trans k1, (hW.cell (p := ⟨w.heap.size, 0, none⟩) (by show w.heap.size < _; omega)).trans m0, (hW.cell (p := ⟨w.heap.size, 1, none⟩) (by show w.heap.size < _; omega)).trans m1⟩
      clear hqn hqok hqi h9q h24q hkb hsl3 hown0 hown1 hown2 hown3 hg1 hg3 hsl1 hsl2 hb1 hb2 bQ bQ2 t0 t1 f0 k0 k1 m0 m1 z0 z1 q0 h9 hz5
      (with_reducible refine HQ9.mono ?_); rintro r u6 ⟨rfl, bb6⟩
      obtain ⟨k0, k1, m0, m1⟩ := HK.out _ bb6
      have hq24 := H24 u6 bb6
      have hq11 := h11
      cases qok
      · have hqn : qn = (20, 0) := HNO.out rfl
        subst hqn
        go_wp2_with (first
          | (go_at_call 24; (with_reducible refine hq24.mono ?_); rintro r u7 ⟨rfl, bb7⟩; have B7 := (B5.tr le_rfl' bb6).tr le_rfl' bb7)
          | (go_at_call 11; (with_reducible refine (h11 _ _).mono ?_); rintro r w' ⟨rfl, hw'⟩; have hw2 := hw'.symm; subst hw2)
          | (go_at_call 8; (with_reducible refine (h8 _ B7).mono ?_); rintro r u8 ⟨rfl, bb8⟩))
        go_ret
        exact ⟨rfl, B7.tr le_rfl' bb8⟩
      · rcases hmi : monIx mons name with _ | i
        · have hqn : qn = (0, 0) := HFI.out rfl hmi
          subst hqn
          have HMI := hid hmi
          clear hmi
          go_wp2_with (first
            | (go_at_call 24; (with_reducible refine hq24.mono ?_); rintro r u7 ⟨rfl, bb7⟩; have B7 := (B5.tr le_rfl' bb6).tr le_rfl' bb7; obtain ⟨k0, k1, m0, m1⟩ := HK.out _ (bb6.tr le_rfl' bb7); have hq12 := FirstBack.no (h12 u7 B7) HMI.out)
            | (go_at_call 11; (with_reducible refine (h11 _ _).mono ?_); rintro r w' ⟨rfl, hw'⟩; have hw2 := hw'.symm; subst hw2)
            | (go_at_call 12; (with_reducible refine hq12.mono ?_); rintro r u8 ⟨rfl, bb8⟩; have B8 := B7.tr le_rfl' bb8)
            | (go_at_call 8; (with_reducible refine (h8 _ B8).mono ?_); rintro r u9 ⟨rfl, bb9⟩))
          go_ret
          exact ⟨rfl, B8.tr le_rfl' bb9⟩
        · have hqn : qn = (60, pos) := HTW.out rfl (by rw [hmi]; rfl)
          subst hqn
          have HMI := hid hmi
          clear hmi
          go_wp2_with (first
            | (go_at_call 24; (with_reducible refine hq24.mono ?_); rintro r u7 ⟨rfl, bb7⟩; have B7 := (B5.tr le_rfl' bb6).tr le_rfl' bb7; obtain ⟨k0, k1, m0, m1⟩ := HK.out _ (bb6.tr le_rfl' bb7); have hq12 := FirstBack.yes (h12 u7 B7) HMI.out)
            | (go_at_call 11; (with_reducible refine (h11 _ _).mono ?_); rintro r w' ⟨rfl, hw'⟩; have hw2 := hw'.symm; subst hw2)
            | (go_at_call 12; (with_reducible refine hq12.mono ?_); rintro r u8 ⟨rfl, bb8⟩; have B8 := B7.tr le_rfl' bb8)
            | (go_at_call 8; (with_reducible refine (h8 _ B8).mono ?_); rintro r u9 ⟨rfl, bb9⟩))
          go_ret
          exact ⟨rfl, B8.tr le_rfl' bb9⟩
    · have hcb : (c1 != 0) = true := by rw [bne_iff_ne]; exact hc
      clear hc
      go_wp2_with (first
        | (go_at_call 11; (with_reducible refine (h11 _ _).mono ?_); rintro r w' ⟨rfl, hw'⟩; have hw2 := hw'.symm; subst hw2)
        | (go_at_call 8; (with_reducible refine (h8 _ B3).mono ?_); rintro r u3 ⟨rfl, bb3⟩))
      go_ret
      exact ⟨rfl, B3.tr le_rfl' bb3⟩
end Go.Proofs.YtijeiiiiplkfaaaDoor
