/-
  checkRoles and declare of package names: the first role, monitor, variable or method whose name is there already; the scope that is left.
-/
import Derived.Test.YtfkabkbnfeiggaaDoorNxF
namespace Go.Proofs.YtfkabkbnfeiggaaDoor
open Go.RowKit
theorem roleE_nil (seen : List ByteArray) : roleE seen [] = none := rfl
theorem fst_const {α : Type} (f : α → ByteArray) (c : Int) (l : List α) : (l.map fun a => (f a, c)).map Prod.fst = l.map f := by simp
theorem below_drewN {B : Nat} {w w' : World} (h : Below B w w') (n : Nat) : Below B w (w'.drewN n) := ⟨h.os, h.tape, h.output, h.size, h.block⟩
theorem ints_snoc (l : List (ByteArray × Int)) (n : ByteArray) (k : Int) : ints l ++ [(n, .int .i64 k)] = ints (l ++ [(n, k)]) := by simp [ints]
/-- What checkRoles tells. -/
def RoleBack (o : Option (Int × Int)) (w w' : World) (r : Ending) : Prop := ((o = none ∧ r = .returned (.tuple #[.int .i64 0, .int .i64 0])) ∨ (∃ c a, c ≠ 0 ∧ o = some (c, a) ∧ r = .returned (.tuple #[.int .i64 c, .int .i64 a]))) ∧ Below w.heap.size w w'
set_option maxRecDepth 100000 in
set_option maxHeartbeats 8000000 in
theorem checkRoles_any (n₀ : Nat) (rad : Option Addr) (rcap : Nat) (roles : List Ro) (w : World) (hn : n₀ ≤ w.heap.size) (h5 : SlAt 5 Ro.cells n₀ w rad rcap roles) (h6 : ∀ r ∈ roles, r.Is n₀ w) :
    Calls Tryd.prog 60 #[.slice rad roles.length rcap] w fun r w' => RoleBack (roleE [] roles) w w' r := by
  have hmm := @run_makeMap Tryd.prog
  have hl3 := h5.1; have hl4 := h5.2.1
  unfold maxLen at hl4
  go_enter Tryd.func60, Tryd.ntmps60
  go_wp2
  have hM0 := SMap.new w
  have hB0 : Below w.heap.size w (w.alloc (.map #[] 0)) := (Below.refl _ w).al le_rfl' _
  have hz : (w.alloc (.map #[] 0)).heap.size = w.heap.size + 1 := by simp
  obtain ⟨W0, hW0⟩ : ∃ W0, w.alloc (.map #[] 0) = W0 := ⟨_, rfl⟩
  rw [hW0] at hM0 hB0 hz ⊢
  clear hW0 hmm
  have HZ := hid hz
  clear hz
  go_loopw [10] (fun i wr => ∃ j : Nat, j ≤ roles.length ∧ i = .int .i64 j ∧ Hid (roleE [] roles = roleE ((roles.take j).map Ro.name) (roles.drop j)) ∧ SMap wr w.heap.size (ints ((roles.take j).map fun r => (r.name, 1))) ∧ Below w.heap.size w wr ∧ w.heap.size + 1 ≤ wr.heap.size)
    (fun i _ => roles.length - (intOf i).toNat)
  case atStart => exact ⟨0, by omega, rfl, rfl, hM0, hB0, by have := HZ.out; omega⟩
  case round =>
    obtain ⟨j, hj, rfl, HQ, hM, hbF, hz1⟩ := hrel
    have hb0 : Below n₀ w wr := hbF.mono hn
    by_cases hlt : j < roles.length
    · rcases h5.2.2 with h | ⟨kb, koff, rfl, hbn, hrow⟩
      · subst h; simp at hlt
      have hbn2 : kb < wr.heap.size := by omega
      have HD := hid (roleE_drop roles j hlt ((roles.take j).map Ro.name))
      have HS := hid (names_snoc Ro.name roles j hlt)
      have HS2 : Hid ((roles.take (j + 1)).map (fun r => (r.name, (1 : Int))) = (roles.take j).map (fun r => (r.name, (1 : Int))) ++ [(roles[j].name, 1)]) := by show _ = _; rw [List.take_succ_eq_append_getElem hlt, List.map_append]; rfl
      have hrj := hrow.below hb0 hbn
      have HFST := hid (fst_const Ro.name 1 (roles.take j))
      obtain ⟨L, hL⟩ : ∃ L, (roles.take j).map (fun r => (r.name, (1 : Int))) = L := ⟨_, rfl⟩
      have hLp : ∀ x ∈ L, x.2 ≠ 0 := by rw [← hL]; intro x hx; obtain ⟨y, _, rfl⟩ := List.mem_map.1 hx; simp
      rw [hL] at hM
      have HFST : Hid (L.map Prod.fst = (roles.take j).map Ro.name) := by show _ = _; rw [← hL]; exact HFST.out
      rw [hL] at HS2
      clear hL
      rcases he' : roles[j] with ⟨rname, rstar, rcount, ⟨fad, fcap, fbody⟩, rpos⟩
      obtain ⟨c0, c1, c2, c3, c4⟩ := row5 hrj j hlt (by rw [he']; rfl)
      simp only [Bl.slice] at c3
      rw [he'] at HD
      rw [he'] at HS
      rw [he'] at HS2
      clear he'
      have hM1 := hM.al (.cells #[.string rname, .bool rstar, .int .i64 rcount, .slice fad fbody.length fcap, .int .i64 rpos] 51)
      have hlook := look_in hM1 rname
      obtain ⟨kk, hkk⟩ : ∃ kk, kindAt L rname = kk := ⟨_, rfl⟩
      rw [hkk] at hlook
      by_cases hin : rname ∈ L.map Prod.fst
      · have hk0 : (kk != 0) = true := by rw [bne_iff_ne, ← hkk]; exact kindAt_pos L rname hin hLp
        have HR : Hid (roleE [] roles = some (60, rpos)) := by
          show _ = _
          rw [HQ.out, HD.out, if_pos]
          rw [← HFST.out]
          exact hasN_iff.2 hin
        clear hkk hin
        go_wp2
        go_quiet (fail)
        go_wp2
        go_ret2
        exact ⟨.inr ⟨60, rpos, by decide, HR.out, rfl⟩, below_drewN (hbF.al le_rfl' _) _⟩
      · have hk0 : kk = 0 := by rw [← hkk]; exact kindAt_zero L rname hin
        subst hk0
        have HR : Hid (roleE [] roles = if rstar = false ∧ (rcount < 1 ∨ 8 < rcount) then some (6, rpos) else roleE ((roles.take (j + 1)).map Ro.name) (roles.drop (j + 1))) := by
          show _ = _
          rw [HQ.out, HD.out, if_neg (by rw [← HFST.out]; exact fun h => hin (hasN_iff.1 h)), HS.out]
        have hin2 : rname ∉ (ints L).map Prod.fst := by rw [ints_fst]; exact hin
        have hput := put_sm hM1 (T := 54) (E := 3) Tryd.underlying54 hin2 (.int .i64 1)
        have hM2 := smPut_map hM1 hin2 (.int .i64 1)
        have hg := smPut_grown (wr.alloc (.cells #[.string rname, .bool rstar, .int .i64 rcount, .slice fad fbody.length fcap, .int .i64 rpos] 51)) w.heap.size (ints L) rname (.int .i64 1)
        rw [ints_snoc] at hM2
        have bX : (smPut (wr.alloc (.cells #[.string rname, .bool rstar, .int .i64 rcount, .slice fad fbody.length fcap, .int .i64 rpos] 51)) w.heap.size (ints L) rname (.int .i64 1)).heap[wr.heap.size]? = some (.cells #[.string rname, .bool rstar, .int .i64 rcount, .slice fad fbody.length fcap, .int .i64 rpos] 51 (0, 0)) := (hg.block _ (by simp) (by simp; omega)).trans (heapNew wr _)
        obtain ⟨W2, hW2⟩ : ∃ W2, smPut (wr.alloc (.cells #[.string rname, .bool rstar, .int .i64 rcount, .slice fad fbody.length fcap, .int .i64 rpos] 51)) w.heap.size (ints L) rname (.int .i64 1) = W2 := ⟨_, rfl⟩
        rw [hW2] at hput hM2 hg bX
        clear hW2 hkk hin hin2
        have hB2 : Below w.heap.size w W2 := (hbF.al le_rfl' _).grown hg (by simp; omega) (fun k e => by cases e; exact Nat.le_refl _)
        have hz2 : w.heap.size + 1 ≤ W2.heap.size := by have := hg.size; simp at this; omega
        have y1 := cellOf bX 1
        have y2 := cellOf bX 2
        have y4 := cellOf bX 4
        simp at y1 y2 y4
        have HM2 : Hid (SMap W2 w.heap.size (ints ((roles.take (j + 1)).map fun r => (r.name, 1)))) := by show SMap _ _ _; rw [HS2.out]; exact hM2
        have HG := hid hg
        clear bX hM2 hg
        cases rstar
        · by_cases hc1 : rcount < 1
          · rw [if_pos ⟨rfl, .inl hc1⟩] at HR
            go_wp2
            go_quiet (fail)
            go_wp2
            go_ret2
            exact ⟨.inr ⟨6, rpos, by decide, HR.out, rfl⟩, below_drewN hB2 _⟩
          by_cases hc8 : 8 < rcount
          · rw [if_pos ⟨rfl, .inr hc8⟩] at HR
            have hc1d : decide (rcount < 1) = false := by simp; omega
            go_wp2
            go_quiet (fail)
            go_wp2
            go_ret2
            exact ⟨.inr ⟨6, rpos, by decide, HR.out, rfl⟩, below_drewN hB2 _⟩
          rw [if_neg (by omega)] at HR
          have hc1d : decide (rcount < 1) = false := by simp; omega
          have hc8d : decide (8 < rcount) = false := by simp; omega
          go_wp2
          go_roundw
          case rel => exact ⟨j + 1, by omega, by go_num, HR, HM2.out, hB2, hz2⟩
          case measure => simp [intOf]; omega
        · rw [if_neg (by simp)] at HR
          go_wp2
          go_roundw
          case rel => exact ⟨j + 1, by omega, by go_num, HR, HM2.out, hB2, hz2⟩
          case measure => simp [intOf]; omega
    · have hjd : decide ((j : Int) < (roles.length : Int)) = false := by simp; omega
      go_wp2
      go_ret2
      exact ⟨.inl ⟨by rw [HQ.out, List.drop_of_length_le (by omega), roleE_nil], rfl⟩, hbF⟩
end Go.Proofs.YtfkabkbnfeiggaaDoor
