/-
  variable of package types: what a variable is, and whether there is one.
-/
import Derived.Test.YtopiceoofdlkbaaDoorTyA
import Derived.Test.YtopiceoofdlkbaaDoorNxO
namespace Go.Proofs.YtopiceoofdlkbaaDoor
open Go.RowKit
theorem vsum_take_le (l : List Mo) (i j : Nat) (h : j ≤ i) : vsum (l.take j) ≤ vsum (l.take i) := by
  have := vsum_le (l.take i) j
  rw [List.take_take, Nat.min_eq_left h] at this
  exact this
/-- What 'variable' hands back. -/
def VarBack (o : Option Int) (w w' : World) (r : Ending) : Prop := ((o = none ∧ r = .returned (.tuple #[.int .i64 0, .bool false])) ∨ (∃ t, (t = 1 ∨ t = 2) ∧ o = some t ∧ r = .returned (.tuple #[.int .i64 t, .bool true]))) ∧ Below w.heap.size w w'
theorem VarBack.no {f : FuncId} {args : Array Value} {o : Option Int} {w : World} (h : Calls Tryd.prog f args w fun r w' => VarBack o w w' r) (ho : o = none) : Calls Tryd.prog f args w fun r w' => r = .returned (.tuple #[.int .i64 0, .bool false]) ∧ Below w.heap.size w w' :=
  h.mono fun r w' hh => by
    rcases hh.1 with ⟨_, h2⟩ | ⟨t, _, h1, _⟩
    · exact ⟨h2, hh.2⟩
    · rw [ho] at h1; cases h1
theorem VarBack.yes {f : FuncId} {args : Array Value} {o : Option Int} {w : World} (h : Calls Tryd.prog f args w fun r w' => VarBack o w w' r) {t : Int} (ho : o = some t) : Calls Tryd.prog f args w fun r w' => r = .returned (.tuple #[.int .i64 t, .bool true]) ∧ Below w.heap.size w w' :=
  h.mono fun r w' hh => by
    rcases hh.1 with ⟨h1, _⟩ | ⟨t', _, h1, h2⟩
    · rw [ho] at h1; cases h1
    · rw [ho] at h1; cases h1; exact ⟨h2, hh.2⟩
set_option maxRecDepth 100000 in
set_option maxHeartbeats 8000000 in
theorem variable_any (p : Pr) (mon name : ByteArray) (n₀ : Nat) (w : World) (hn : n₀ ≤ w.heap.size) (hp : p.Is n₀ w) (hvs : vsum p.mons ≤ 1000000) :
    Calls Tryd.prog 53 #[p.val, .string mon, .string name] w fun r w' => VarBack (varTy p.mons mon name) w w' r := by
  have h58 : ∀ W, Below w.heap.size w W → Calls Tryd.prog 29 #[p.val, .string mon, .string name] W fun r w' => FirstBack (slotIx p.mons mon name) W w' r := fun W hW => slot_any p mon name n₀ W (by have := hW.size; omega) (hp.below (hW.mono hn)) hvs
  rcases p with ⟨mad, mcap, mons, rad, rcap, roles⟩
  obtain ⟨⟨h3, h4⟩, -⟩ := hp
  simp only [Pr.val] at h3 h4 h58 hvs ⊢
  have hl1 := h3.1; have hl2 := h3.2.1
  unfold maxLen at hl2
  go_enter Tryd.func53, Tryd.ntmps53
  go_upto_region 1 with fail
  obtain ⟨bP, hB, hz⟩ := one_box w #[.slice mad mons.length mcap, .slice rad roles.length rcap] 25
  obtain ⟨W0, hW0⟩ : ∃ W0, w.alloc (.cells #[.slice mad mons.length mcap, .slice rad roles.length rcap] 25) = W0 := ⟨_, rfl⟩
  rw [hW0] at bP hB hz ⊢
  clear hW0
  have s0 := cellOf bP 0
  have s1 := cellOf bP 1
  simp at s0 s1
  have HZ := hid hz
  clear hz bP
  have hq := h58 W0 hB
  clear h58
  rcases hs : slotIx mons mon name with _ | s
  · have hq := FirstBack.no hq hs
    have HV := hid (varTy_none hs)
    clear hs
    go_wp2_with (go_at_call 29; (with_reducible refine hq.mono ?_); rintro r u ⟨rfl, bb⟩)
    go_ret2
    exact ⟨.inl ⟨HV.out, rfl⟩, hB.tr le_rfl' bb⟩
  have hq := FirstBack.yes hq hs
  obtain ⟨i, hi, k, hk, hsk, -, -⟩ := slotIx_parts hs
  subst hsk
  have HV := hid (varTy_at hs hi hk)
  clear hs
  have hsb : k + vsum (mons.take i) ≤ 1000000 := by
    have h1 := vsum_snoc mons i hi
    have h2 := vsum_le mons (i + 1)
    omega
  obtain ⟨s, hs⟩ : ∃ s, k + vsum (mons.take i) = s := ⟨_, rfl⟩
  rw [hs] at hq hsb
  have HS := hid hs
  clear hs
  have hmi := (h4 _ (List.getElem_mem hi)).2.1.1
  rcases h3.2.2 with h | ⟨kb, koff, rfl, hbn, hrow⟩
  · subst h; simp at hi
  go_wp2_with (go_at_call 29; (with_reducible refine hq.mono ?_); rintro r u1 ⟨rfl, bb1⟩; have hz1 := bb1.size; have x0 := (bb1.cell (p := ⟨w.heap.size, 0, none⟩) (by show w.heap.size < _; have := HZ.out; omega)).trans s0)
  have hB1 := hB.tr le_rfl' bb1
  have hB1z := hB1.size
  go_loopw [8, 10] (fun m o wr => ∃ (j c : Nat), j ≤ i ∧ o = .int .i64 j ∧ m = .int .i64 (c : Int) ∧ c ≤ 1000000 ∧ Hid (c + vsum (mons.take j) = k + vsum (mons.take i)) ∧ wr = u1)
    (fun _ o _ => i - (intOf o).toNat)
  case atStart => exact ⟨0, s, by omega, rfl, rfl, hsb, (by show _ = _; rw [HS.out]; simp [vsum]), rfl⟩
  case round =>
    obtain ⟨j, c, hj, rfl, rfl, hc, HC, hwr⟩ := hrel
    have hw2 := hwr.symm
    subst hw2
    have hjl : j < mons.length := by omega
    have hji : (j : Int) < (mons.length : Int) := by omega
    have hrj := hrow.below (hB1.mono hn) hbn
    obtain ⟨-, c1, -⟩ := namesSl (n₀ := n₀) hrj j hjl
    by_cases hlt : j < i
    · have hcl : mons[j].vars.length ≤ c := by
        have h1 := HC.out
        have h2 := vsum_snoc mons j hjl
        have h3 := vsum_take_le mons i (j + 1) (by omega)
        omega
      have HN : Hid (c - mons[j].vars.length + vsum (mons.take (j + 1)) = k + vsum (mons.take i)) := by
        show _ = _
        have h1 := HC.out
        have h2 := vsum_snoc mons j hjl
        omega
      have hvj := vars_le mons j hjl
      obtain ⟨vl, hvl⟩ : ∃ vl, mons[j].vars.length = vl := ⟨_, rfl⟩
      rw [hvl] at c1 hcl hvj
      rw [hvl] at HN
      clear hvl
      have hcl2 : (vl : Int) ≤ (c : Int) := by omega
      have hcl3 : decide ((c : Int) < (vl : Int)) = false := by simp; omega
      go_wp2
      go_roundw
      case rel => exact ⟨j + 1, c - vl, by omega, by go_num, by go_num, by omega, HN, (by trivial)⟩
      case measure => simp [intOf]; omega
    · obtain rfl : j = i := by omega
      have hck : c = k := by have := HC.out; omega
      subst hck
      obtain ⟨va, hva⟩ : ∃ va, mons[j].vars[c] = va := ⟨_, rfl⟩
      rw [hva] at HV
      obtain ⟨vars, hvars⟩ : ∃ vars, mons[j].vars = vars := ⟨_, rfl⟩
      obtain ⟨vad, hvad⟩ : ∃ vad, mons[j].vad = vad := ⟨_, rfl⟩
      obtain ⟨vcap, hvcap⟩ : ∃ vcap, mons[j].vcap = vcap := ⟨_, rfl⟩
      have hkv : c < vars.length := by rw [← hvars]; exact hk
      have hva2 : vars[c] = va := by subst hvars; exact hva
      rw [hvars, hvad, hvcap] at c1 hmi
      clear hva hvars hvad hvcap
      have hw1 := hmi.1; have hw2 := hmi.2.1
      unfold maxLen at hw2
      rcases hmi.2.2 with h | ⟨mb, moff, rfl, hmn, hmrow⟩
      · subst h; simp at hkv
      have hmr := hmrow.below (hB1.mono hn) hmn
      have d1 := hmr c hkv 1 (by omega)
      rcases va with ⟨vn, vt, vlo, vhi, vin, vps⟩
      have e1 : (Va.cells vars[c])[1]? = some (.int .i64 vt) := by rw [hva2]; rfl
      rw [e1] at d1
      clear e1 hva2 hmr hmrow
      have hck1 : (c : Int) < (vars.length : Int) := by omega
      have hck2 : decide ((vars.length : Int) ≤ (c : Int)) = false := by simp; omega
      have hck3 : ¬ vars.length ≤ c := by omega
      by_cases t2 : vt = 2
      · subst t2
        go_wp2
        go_ret2
        exact ⟨.inr ⟨2, .inr rfl, HV.out, rfl⟩, hB1⟩
      · have t2' : (vt == 2) = false := by rw [beq_eq_false_iff_ne]; exact t2
        by_cases t3 : vt = 3
        · subst t3
          clear t2
          go_wp2
          go_ret2
          exact ⟨.inr ⟨2, .inr rfl, HV.out, rfl⟩, hB1⟩
        · have t3' : (vt == 3) = false := by rw [beq_eq_false_iff_ne]; exact t3
          have HV2 : Hid (varTy mons mon name = some 1) := by
            show _ = _
            rw [HV.out, Va.is, if_neg (by simp; exact ⟨t2, t3⟩)]
          clear t2 t3
          go_wp2
          go_ret2
          exact ⟨.inr ⟨1, .inl rfl, HV2.out, rfl⟩, hB1⟩
end Go.Proofs.YtopiceoofdlkbaaDoor
