/-
  Slots of package names and of the document: all variables, monitor by monitor.
-/
import Derived.Test.YtopiceoofdlkbaaDoorNxL
namespace Go.Proofs.YtopiceoofdlkbaaDoor
open Go.RowKit
/-- All variables. -/
def allV (l : List Mo) : List Va := l.flatMap Mo.vars
theorem allV_len (l : List Mo) : (allV l).length = vsum l := by
  induction l with
  | nil => rfl
  | cons m l ih => rw [allV, List.flatMap_cons, List.length_append, vsum, List.map_cons, List.sum_cons]; exact congrArg (m.vars.length + ·) ih
theorem allV_snoc (l : List Mo) (k : Nat) (h : k < l.length) : allV (l.take (k + 1)) = allV (l.take k) ++ l[k].vars := flatMap_snoc Mo.vars l k h
def SlotsBack (l : List Mo) (w w' : World) (r : Ending) : Prop := ∃ v, r = .returned v ∧ w'.ownsRow w.heap.size 59 6 v (allV l).length ((allV l).flatMap Va.cells) ∧ Below w.heap.size w w'
theorem owns_grown_below {n : Nat} {w u u' : World} {e size : Nat} {v : Value} {m : Nat} {xs : List Value} (h : Below n w u) (ho : u.ownsRow n e size v m xs) (hg : u.grownBy u' v.ownBlock) (hn : n ≤ u.heap.size) : Below n w u' :=
  h.grown hg hn (fun k hk => (ho.lt k hk).1)
set_option maxRecDepth 100000 in
set_option maxHeartbeats 4000000 in
theorem slots_any (p : Pr) (n₀ : Nat) (w : World) (hn : n₀ ≤ w.heap.size) (hp : p.Is n₀ w) (hvs : vsum p.mons ≤ 1000000) :
    Calls Tryd.prog 31 #[p.val] w fun r w' => SlotsBack p.mons w w' r := by
  obtain ⟨i0, hi, hz0, hz1, hz2⟩ := info_parts info47
  rcases p with ⟨mad, mcap, mons, rad, rcap, roles⟩
  obtain ⟨⟨h3, h4⟩, -⟩ := hp
  simp only [Pr.val] at h3 h4 hvs ⊢
  have hl1 := h3.1; have hl2 := h3.2.1
  unfold maxLen at hl2
  go_enter Tryd.func31, Tryd.ntmps31
  go_upto_region 1 with fail
  obtain ⟨bP, hB, hz⟩ := one_box w #[.slice mad mons.length mcap, .slice rad roles.length rcap] 25
  obtain ⟨W0, hW0⟩ : ∃ W0, w.alloc (.cells #[.slice mad mons.length mcap, .slice rad roles.length rcap] 25) = W0 := ⟨_, rfl⟩
  rw [hW0] at bP hB hz ⊢
  clear hW0
  have s0 := cellOf bP 0
  simp at s0
  have HZ := hid hz
  clear hz bP
  go_wp2
  go_loopw [3, 9] (fun v i wr => ∃ j : Nat, j ≤ mons.length ∧ i = .int .i64 j ∧ wr.ownsRow w.heap.size 59 6 v (allV (mons.take j)).length ((allV (mons.take j)).flatMap Va.cells) ∧ Below w.heap.size w wr)
    (fun _ i _ => mons.length - (intOf i).toNat)
  case atStart => exact ⟨0, by omega, rfl, World.ownsRow_nil _ _ _ _, hB⟩
  case round =>
    obtain ⟨j, hj, rfl, hown, hbw⟩ := hrel
    have hz1w := hbw.size
    by_cases hlt : j < mons.length
    · rcases h3.2.2 with h | ⟨kb, koff, rfl, hbn, hrow⟩
      · subst h; simp at hlt
      have hbn2 : kb < wr.heap.size := by omega
      have HS := hid (allV_snoc mons j hlt)
      have HL := hid (allV_len (mons.take j))
      have hvj := vars_le mons j hlt
      have hvt2 := vsum_le mons (j + 1)
      have HVS := hid (vsum_snoc mons j hlt)
      have hrj := hrow.below (hbw.mono hn) hbn
      have hIm := (h4 _ (List.getElem_mem hlt)).2.1.1
      rcases he' : mons[j] with ⟨mname, mvad, mvcap, mvars, mmad, mmcap, mmeths, mpos⟩
      obtain ⟨c0, c1, c2, c3⟩ := row4 hrj j hlt (by rw [he']; rfl)
      rw [he'] at HS
      rw [he'] at HVS
      rw [he'] at hIm
      simp only at HS HVS hIm
      clear he'
      obtain ⟨L, hL⟩ : ∃ L, allV (mons.take j) = L := ⟨_, rfl⟩
      rw [hL] at hown
      rw [hL] at HS
      rw [hL] at HL
      clear hL
      have hbnd : L.length + mvars.length ≤ 1000000 := by have h1 := HL.out; have h2 := HVS.out; omega
      have hsl := (hIm.below (hbw.mono hn)).below ((Below.refl n₀ wr).al (by omega) (.cells #[.string mname, .slice mvad mvars.length mvcap, .slice mmad mmeths.length mmcap, .int .i64 mpos] 57))
      have hown1 := hown.alloc (.cells #[.string mname, .slice mvad mvars.length mvcap, .slice mmad mmeths.length mmcap, .int .i64 mpos] 57)
      go_wp2_with (at_builtin; refine wpList_append_sl (cells := Va.cells) rfl _ _ 51 rfl w.heap.size 59 i0 _ 6 56 Tryd.underlying51 hi hz0 hz1 hz2 rfl (by decide) Va.len Va.one _ L rfl hown1 mvad mvcap mvars n₀ rfl hsl (by unfold maxLen; omega) (by omega) (by simp; omega) ?_; intro v' w1 hown' hgrow _)
      go_roundw
      case rel => exact ⟨j + 1, by omega, by go_num, (by rw [HS.out]; exact hown'), owns_grown_below (hbw.al (by omega) _) hown1 hgrow (by simp; omega)⟩
      case measure => simp [intOf]; omega
    · have hjd : decide ((j : Int) < (mons.length : Int)) = false := by simp; omega
      rw [List.take_of_length_le (by omega)] at hown
      go_wp2
      go_ret
      exact ⟨_, rfl, hown, hbw⟩
set_option maxRecDepth 100000 in
set_option maxHeartbeats 4000000 in
theorem refSlots_any (p : Pr) (n₀ : Nat) (w : World) (hn : n₀ ≤ w.heap.size) (hp : p.Is n₀ w) (hvs : vsum p.mons ≤ 1000000) :
    Calls Tryd.prog 22 #[p.val] w fun r w' => SlotsBack p.mons w w' r := by
  obtain ⟨i0, hi, hz0, hz1, hz2⟩ := info_parts info47
  rcases p with ⟨mad, mcap, mons, rad, rcap, roles⟩
  obtain ⟨⟨h3, h4⟩, -⟩ := hp
  simp only [Pr.val] at h3 h4 hvs ⊢
  have hl1 := h3.1; have hl2 := h3.2.1
  unfold maxLen at hl2
  go_enter Tryd.func22, Tryd.ntmps22
  go_upto_region 1 with fail
  obtain ⟨bP, hB, hz⟩ := one_box w #[.slice mad mons.length mcap, .slice rad roles.length rcap] 25
  obtain ⟨W0, hW0⟩ : ∃ W0, w.alloc (.cells #[.slice mad mons.length mcap, .slice rad roles.length rcap] 25) = W0 := ⟨_, rfl⟩
  rw [hW0] at bP hB hz ⊢
  clear hW0
  have s0 := cellOf bP 0
  simp at s0
  have HZ := hid hz
  clear hz bP
  go_wp2
  go_loopw [3, 4] (fun v i wr => ∃ j : Nat, j ≤ mons.length ∧ i = .int .i64 j ∧ wr.ownsRow (w.heap.size + 1) 59 6 v (allV (mons.take j)).length ((allV (mons.take j)).flatMap Va.cells) ∧ Below (w.heap.size + 1) W0 wr)
    (fun _ i _ => mons.length - (intOf i).toNat)
  case atStart => exact ⟨0, by omega, rfl, World.ownsRow_nil _ _ _ _, Below.refl _ _⟩
  case round =>
    obtain ⟨j, hj, rfl, hown, hbv⟩ := hrel
    have hz0w := HZ.out
    have hz1w := hbv.size
    have hbw : Below w.heap.size w wr := hB.trans (hbv.mono (by omega))
    have x0 := (hbv.cell (p := ⟨w.heap.size, 0, none⟩) (by show w.heap.size < _; omega)).trans s0
    by_cases hlt : j < mons.length
    · rcases h3.2.2 with h | ⟨kb, koff, rfl, hbn, hrow⟩
      · subst h; simp at hlt
      have hbn2 : kb < wr.heap.size := by omega
      have HS := hid (allV_snoc mons j hlt)
      have HL := hid (allV_len (mons.take j))
      have hvj := vars_le mons j hlt
      have hvt2 := vsum_le mons (j + 1)
      have HVS := hid (vsum_snoc mons j hlt)
      have hrj := hrow.below (hbw.mono hn) hbn
      have hIm := (h4 _ (List.getElem_mem hlt)).2.1.1
      rcases he' : mons[j] with ⟨mname, mvad, mvcap, mvars, mmad, mmcap, mmeths, mpos⟩
      obtain ⟨c0, c1, c2, c3⟩ := row4 hrj j hlt (by rw [he']; rfl)
      rw [he'] at HS
      rw [he'] at HVS
      rw [he'] at hIm
      simp only at HS HVS hIm
      clear he'
      obtain ⟨L, hL⟩ : ∃ L, allV (mons.take j) = L := ⟨_, rfl⟩
      rw [hL] at hown
      rw [hL] at HS
      rw [hL] at HL
      clear hL
      have hbnd : L.length + mvars.length ≤ 1000000 := by have h1 := HL.out; have h2 := HVS.out; omega
      have hsl := hIm.below (hbw.mono hn)
      go_wp2_with (at_builtin; refine wpList_append_sl (cells := Va.cells) rfl _ _ 51 rfl (w.heap.size + 1) 59 i0 _ 6 56 Tryd.underlying51 hi hz0 hz1 hz2 rfl (by decide) Va.len Va.one _ L rfl hown mvad mvcap mvars n₀ rfl hsl (by unfold maxLen; omega) (by omega) (by omega) ?_; intro v' w1 hown' hgrow _)
      go_roundw
      case rel => exact ⟨j + 1, by omega, by go_num, (by rw [HS.out]; exact hown'), owns_grown_below hbv hown hgrow (by omega)⟩
      case measure => simp [intOf]; omega
    · have hjd : decide ((j : Int) < (mons.length : Int)) = false := by simp; omega
      rw [List.take_of_length_le (by omega)] at hown
      go_wp2
      go_ret
      refine ⟨_, rfl, ⟨hown.1, ?_⟩, hbw⟩
      rcases hown.2 with h | ⟨g, cp, cur, e1, e2, e3⟩
      · exact .inl h
      · exact .inr ⟨g, cp, cur, e1, by omega, e3⟩
end Go.Proofs.YtopiceoofdlkbaaDoor
