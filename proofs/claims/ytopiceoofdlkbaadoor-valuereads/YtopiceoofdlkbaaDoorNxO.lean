/-
  Monitor, Slot and Method of the document's answer.
-/
import Derived.Test.YtopiceoofdlkbaaDoorNxN
namespace Go.Proofs.YtopiceoofdlkbaaDoor
open Go.RowKit
theorem monIx_some {l : List Mo} {mon : ByteArray} {j : Nat} (h : j < l.length) (hb : ∀ i (hi : i < l.length), i < j → ¬ l[i].name = mon) (hj : l[j].name = mon) : monIx l mon = some j :=
  fidx_some _ l j h (fun i hi h' => decide_eq_false (hb i hi h')) (decide_eq_true hj)
theorem monIx_none {l : List Mo} {mon : ByteArray} (hb : ∀ i (hi : i < l.length), ¬ l[i].name = mon) : monIx l mon = none :=
  fidx_none _ l (fun i hi => decide_eq_false (hb i hi))
theorem namesSl {l : List Mo} {n₀ : Nat} {w : World} {b off : Nat} (hrow : RowAt 4 Mo.cells w b off l) (i : Nat) (hi : i < l.length) : w.cell? ⟨b, off + i * 4, none⟩ = some (.string l[i].name) ∧ w.cell? ⟨b, off + i * 4 + 1, none⟩ = some (.slice l[i].vad l[i].vars.length l[i].vcap) ∧ w.cell? ⟨b, off + i * 4 + 2, none⟩ = some (.slice l[i].mad l[i].meths.length l[i].mcap) ∧ w.cell? ⟨b, off + i * 4 + 3, none⟩ = some (.int .i64 l[i].pos) ∧ n₀ = n₀ := by
  obtain ⟨h0, h1, h2, h3⟩ := row4 hrow i hi (c0 := .string l[i].name) (c1 := .slice l[i].vad l[i].vars.length l[i].vcap) (c2 := .slice l[i].mad l[i].meths.length l[i].mcap) (c3 := .int .i64 l[i].pos) rfl
  exact ⟨h0, h1, h2, h3, rfl⟩
set_option maxRecDepth 100000 in
set_option maxHeartbeats 8000000 in
theorem refSlot_any (p : Pr) (mon name : ByteArray) (n₀ : Nat) (w : World) (hn : n₀ ≤ w.heap.size) (hp : p.Is n₀ w) (hvs : vsum p.mons ≤ 1000000) :
    Calls Tryd.prog 33 #[p.val, .string mon, .string name] w fun r w' => FirstBack (slotIx p.mons mon name) w w' r := by
  rcases p with ⟨mad, mcap, mons, rad, rcap, roles⟩
  obtain ⟨⟨h3, h4⟩, -⟩ := hp
  simp only [Pr.val] at h3 h4 hvs ⊢
  have hl1 := h3.1; have hl2 := h3.2.1
  unfold maxLen at hl2
  go_enter Tryd.func33, Tryd.ntmps33
  go_upto_region 1 with fail
  obtain ⟨bP, hB, hz⟩ := one_box w #[.slice mad mons.length mcap, .slice rad roles.length rcap] 25
  obtain ⟨W0, hW0⟩ : ∃ W0, w.alloc (.cells #[.slice mad mons.length mcap, .slice rad roles.length rcap] 25) = W0 := ⟨_, rfl⟩
  rw [hW0] at bP hB hz ⊢
  clear hW0
  have s0 := cellOf bP 0
  simp at s0
  clear hz bP
  go_wp2
  go_loopw [8, 9] (fun m i wr => ∃ (j : Nat) (c : Nat), j ≤ mons.length ∧ i = .int .i64 j ∧ m = .int .i64 (c : Int) ∧ c ≤ 1000000 ∧ Hid (c = vsum (mons.take j)) ∧ Hid (∀ i (hi : i < mons.length), i < j → ¬ mons[i].name = mon) ∧ wr = W0)
    (fun _ i _ => mons.length - (intOf i).toNat)
  case atStart => exact ⟨0, 0, by omega, rfl, rfl, by omega, rfl, (fun _ _ h => by omega), rfl⟩
  case round =>
    obtain ⟨j, c, hj, rfl, rfl, hc, HC, HQ, hwr⟩ := hrel
    have hw2 := hwr.symm
    subst hw2
    by_cases hlt : j < mons.length
    · rcases h3.2.2 with h | ⟨kb, koff, rfl, hbn, hrow⟩
      · subst h; simp at hlt
      have hji : (j : Int) < (mons.length : Int) := by omega
      have hrj := hrow.below (hB.mono hn) hbn
      obtain ⟨c0, c1, -⟩ := namesSl (n₀ := n₀) hrj j hlt
      have HS : Hid (mons[j].name = mon → monIx mons mon = some j) := fun h => monIx_some hlt HQ.out h
      have HI : Hid (mons[j].name = mon → slotIx mons mon name = (mons[j].vars.findIdx? fun v => decide (v.name = name)).map fun k => k + vsum (mons.take j)) := fun h => slotIx_at (HS.out h) hlt
      have HN : Hid (¬ mons[j].name = mon → ∀ i (hi : i < mons.length), i < j + 1 → ¬ mons[i].name = mon) := fun h i hi hij => by
        by_cases e : i = j
        · subst e; exact h
        · exact HQ.out i hi (by omega)
      have HVS := hid (vsum_snoc mons j hlt)
      have hvt2 := vsum_le mons (j + 1)
      have hmi := (h4 _ (List.getElem_mem hlt)).2.1.1
      obtain ⟨nm, hnm⟩ : ∃ nm, mons[j].name = nm := ⟨_, rfl⟩
      obtain ⟨vars, hvars⟩ : ∃ vars, mons[j].vars = vars := ⟨_, rfl⟩
      obtain ⟨vad, hvad⟩ : ∃ vad, mons[j].vad = vad := ⟨_, rfl⟩
      obtain ⟨vcap, hvcap⟩ : ∃ vcap, mons[j].vcap = vcap := ⟨_, rfl⟩
      rw [hnm] at c0
      rw [hvars, hvad, hvcap] at c1 hmi
      rw [hnm, hvars] at HI
      rw [hnm] at HN
      rw [hvars] at HVS
      clear hnm hvars hvad hvcap HS
      have hw1 := hmi.1; have hw2 := hmi.2.1
      unfold maxLen at hw2
      have hcb : c + vars.length ≤ 1000000 := by have h1 := HC.out; have h2 := HVS.out; omega
      by_cases hd : nm = mon
      · subst hd
        have HI2 := hid (HI.out rfl)
        clear HN HI
        go_wp2
        go_loopw [8, 10] (fun m i wr => ∃ (l : Nat), l ≤ vars.length ∧ i = .int .i64 l ∧ m = .int .i64 ((c + l : Nat) : Int) ∧ Hid (∀ i (hi : i < vars.length), i < l → decide (vars[i].name = name) = false) ∧ wr = W0)
          (fun _ i _ => vars.length - (intOf i).toNat)
        case atStart => exact ⟨0, by omega, rfl, rfl, (fun _ _ h => by omega), rfl⟩
        case round =>
          obtain ⟨l, hl, rfl, rfl, HQ2, hwr⟩ := hrel
          have hw2 := hwr.symm
          subst hw2
          by_cases hlt2 : l < vars.length
          · rcases hmi.2.2 with h | ⟨mb, moff, rfl, hmn, hmrow⟩
            · subst h; simp at hlt2
            have hli : (l : Int) < (vars.length : Int) := by omega
            have hmr := hmrow.below (hB.mono hn) hmn
            have d0 := hmr l hlt2 0 (by omega)
            obtain ⟨vn, hvn⟩ : ∃ vn, vars[l].name = vn := ⟨_, rfl⟩
            have e0 : (Va.cells vars[l])[0]? = some (.string vn) := by rw [← hvn]; rfl
            rw [e0] at d0
            simp only [Nat.add_zero] at d0
            have HF : Hid (decide (vars[l].name = name) = decide (vn = name)) := by show _ = _; rw [hvn]
            clear e0 hvn
            by_cases hv : vn = name
            · subst hv
              have HE : Hid (slotIx mons nm vn = some (c + l)) := by
                show _ = _
                rw [HI2.out, fidx_some _ vars l hlt2 HQ2.out (by rw [HF.out]; simp)]
                show some _ = some _
                rw [HC.out, Nat.add_comm]
              go_wp2
              go_ret2
              exact ⟨.inr ⟨c + l, HE.out, rfl⟩, hB⟩
            · have hs1 := str_ne hv
              have hs2 : (vn.toList == name.toList) = false := by rw [beq_eq_false_iff_ne]; exact hs1
              have HN2 : Hid (∀ i (hi : i < vars.length), i < l + 1 → decide (vars[i].name = name) = false) := fun i hi hij => by
                by_cases e : i = l
                · subst e; rw [HF.out]; exact decide_eq_false hv
                · exact HQ2.out i hi (by omega)
              clear hv
              go_wp2
              go_roundw
              case rel => exact ⟨l + 1, by omega, by go_num, by go_num, HN2, (by trivial)⟩
              case measure => simp [intOf]; omega
          · have hjd : decide ((l : Int) < (vars.length : Int)) = false := by simp; omega
            have HE : Hid (slotIx mons nm name = none) := by
              show _ = _
              rw [HI2.out, fidx_none _ vars (fun i hi => HQ2.out i hi (by omega))]; rfl
            go_wp2
            go_ret2
            exact ⟨.inl ⟨HE.out, rfl⟩, hB⟩
      · have hs1 := str_ne hd
        have hs2 : (nm.toList == mon.toList) = false := by rw [beq_eq_false_iff_ne]; exact hs1
        have HN2 := hid (HN.out hd)
        clear hd HI HN
        go_wp2
        go_loopw [8, 10] (fun m i wr => ∃ (l : Nat), l ≤ vars.length ∧ i = .int .i64 l ∧ m = .int .i64 ((c + l : Nat) : Int) ∧ wr = W0)
          (fun _ i _ => vars.length - (intOf i).toNat)
        case atStart => exact ⟨0, by omega, rfl, rfl, rfl⟩
        case round =>
          obtain ⟨l, hl, rfl, rfl, hwr⟩ := hrel
          have hw2 := hwr.symm
          subst hw2
          by_cases hlt2 : l < vars.length
          · go_wp2
            go_roundw
            case rel => exact ⟨l + 1, by omega, by go_num, by go_num, (by trivial)⟩
            case measure => simp [intOf]; omega
          · have hjd : decide ((l : Int) < (vars.length : Int)) = false := by simp; omega
            obtain rfl : l = vars.length := by omega
            go_wp2
            go_roundw
            case rel => exact ⟨j + 1, c + vars.length, by omega, by go_num, rfl, by omega, (by show _ = _; rw [HVS.out, HC.out]), HN2, (by trivial)⟩
            case measure => simp [intOf]; omega
    · have hjd : decide ((j : Int) < (mons.length : Int)) = false := by simp; omega
      go_wp2
      go_ret2
      exact ⟨.inl ⟨slotIx_no (monIx_none (fun i hi => HQ.out i hi (by omega))), rfl⟩, hB⟩
end Go.Proofs.YtopiceoofdlkbaaDoor
