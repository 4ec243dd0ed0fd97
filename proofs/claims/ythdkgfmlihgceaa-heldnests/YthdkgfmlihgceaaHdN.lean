/-
  The document's small comparisons: same, Same, Lists, All; and shaped.
-/
import Derived.Test.YthdkgfmlihgceaaHdL
namespace Go.Proofs.Ythdkgfmlihgceaa
open Go.RowKit
theorem take_ne {α : Type} {l m : List α} (k : Nat) (h1 : k < l.length) (h2 : k < m.length) (h : l[k] ≠ m[k]) : l ≠ m := by
  rintro rfl; exact h rfl
theorem take_eq {α : Type} {l m : List α} (k : Nat) (h1 : k < l.length) (h2 : k < m.length) (ht : l.take k = m.take k) (h : l[k] = m[k]) : l.take (k + 1) = m.take (k + 1) := by
  rw [List.take_succ_eq_append_getElem h1, List.take_succ_eq_append_getElem h2, ht, h]
theorem take_all {α : Type} {l m : List α} (k : Nat) (h1 : l.length ≤ k) (h2 : m.length ≤ k) (ht : l.take k = m.take k) : l = m := by
  rwa [List.take_of_length_le h1, List.take_of_length_le h2] at ht
def SameBack (b : Bool) (w w' : World) (r : Ending) : Prop := r = .returned (.bool b) ∧ ∃ n, w' = w.drewN n
set_option maxRecDepth 100000 in
set_option maxHeartbeats 4000000 in
theorem same_any (l m : List Int) (a1 a2 : Option Addr) (c1 c2 n1 n2 : Nat) (w : World) (h1 : SlAt 1 icell n1 w a1 c1 l) (h2 : SlAt 1 icell n2 w a2 c2 m) :
    Calls Try.prog 23 #[.slice a1 l.length c1, .slice a2 m.length c2] w fun r w' => SameBack (decide (l = m)) w w' r := by
  have hl1 := h1.1; have hl2 := h1.2.1; have hm1 := h2.1; have hm2 := h2.2.1
  unfold maxLen at hl2 hm2
  have HD := hid (show decide (l = m) = true ↔ l = m from decide_eq_true_iff)
  obtain ⟨D, hD⟩ : ∃ D, decide (l = m) = D := ⟨_, rfl⟩
  rw [hD] at HD ⊢
  clear hD
  by_cases hne : l.length = m.length
  · have hd : ((l.length : Int) != (m.length : Int)) = false := by simp [hne]
    have HNE := hid hne
    have hle : m.length ≤ l.length := by omega
    have hle2 : l.length ≤ m.length := by omega
    clear hne
    go_enter Try.func23, Try.ntmps23
    go_wp2
    go_loopw [5] (fun i wr => ∃ k : Nat, k ≤ l.length ∧ i = .int .i64 k ∧ Hid (l.take k = m.take k) ∧ Hid (∃ n, wr = w.drewN n))
      (fun i _ => l.length - (intOf i).toNat)
    case atStart => exact ⟨0, by omega, rfl, rfl, 0, rfl⟩
    case round =>
      obtain ⟨k, hk, rfl, HK, HW⟩ := hrel
      obtain ⟨n, rfl⟩ := HW.out
      by_cases hlt : k < l.length
      · have hkd : decide ((k : Int) < (l.length : Int)) = true := by simp; omega
        have hltm : k < m.length := by omega
        rcases h1.2.2 with h | ⟨b1, o1, rfl, hb1, r1⟩
        · subst h; simp at hlt
        rcases h2.2.2 with h | ⟨b2, o2, rfl, hb2, r2⟩
        · subst h; simp at hltm
        have d1 := r1 k hlt 0 (by omega)
        have d2 := r2 k hltm 0 (by omega)
        simp only [icell] at d1 d2
        simp at d1 d2
        have HE := hid (take_eq k hlt hltm HK.out)
        have HN := hid (take_ne k hlt hltm)
        generalize l[k] = x at *
        generalize m[k] = y at *
        cases he : (x != y)
        · have hxy : x = y := by simpa using he
          have HE2 := hid (HE.out hxy)
          clear HE HN HK hxy
          go_wp2_with fail
          go_quiet (fail)
          go_wp2
          go_roundw
          case rel => exact ⟨k + 1, by omega, by go_num, HE2.out, _, by first | exact World.drewN_drewN _ _ _ | rfl⟩
          case measure => simp [intOf]; omega
        · have hxy : x ≠ y := by simpa using he
          have HF : Hid (D = false) := by
            show _ = _
            cases hD : D
            · rfl
            · exact absurd (HD.out.1 hD) (HN.out hxy)
          clear HE HN HK hxy
          go_wp2_with fail
          go_quiet (fail)
          go_wp2
          go_ret
          exact ⟨ret_b HF.out.symm, _, by first | exact World.drewN_drewN _ _ _ | rfl⟩
      · have hkd : decide ((k : Int) < (l.length : Int)) = false := by simp; omega
        have HT : Hid (D = true) := HD.out.2 (take_all k (by omega) (by omega) HK.out)
        go_wp2
        go_ret
        exact ⟨ret_b HT.out.symm, _, rfl⟩
  · have hd : ((l.length : Int) != (m.length : Int)) = true := by simp; omega
    have HF : Hid (D = false) := by
      show _ = _
      cases hD : D
      · rfl
      · exact absurd (congrArg List.length (HD.out.1 hD)) hne
    go_enter Try.func23, Try.ntmps23
    go_wp2
    go_ret
    exact ⟨ret_b HF.out.symm, 0, rfl⟩
set_option maxHeartbeats 1000000 in
theorem sameS_any (l m : List Int) (a1 a2 : Option Addr) (c1 c2 n1 n2 : Nat) (w : World) (h1 : SlAt 1 icell n1 w a1 c1 l) (h2 : SlAt 1 icell n2 w a2 c2 m) :
    Calls Try.prog 10 #[.slice a1 l.length c1, .slice a2 m.length c2] w fun r w' => SameBack (decide (l = m)) w w' r := by
  have hq := same_any l m a1 a2 c1 c2 n1 n2 w h1 h2
  unfold SameBack at hq ⊢
  go_enter Try.func10, Try.ntmps10
  go_wp2_with (go_at_call 23; (with_reducible refine hq.mono ?_); rintro r w1 ⟨rfl, n, rfl⟩)
  go_ret
  exact ⟨rfl, n, rfl⟩
set_option maxRecDepth 100000 in
set_option maxHeartbeats 4000000 in
theorem lists_any (rs qs : List Rw) (a1 a2 : Option Addr) (c1 c2 n1 n2 : Nat) (w : World) (h1 : RwsAt n1 w a1 c1 rs) (h2 : RwsAt n2 w a2 c2 qs) :
    Calls Try.prog 9 #[.slice a1 rs.length c1, .slice a2 qs.length c2] w fun r w' => SameBack (decide (rs.map Rw.l = qs.map Rw.l)) w w' r := by
  have hl1 := h1.1.1; have hl2 := h1.1.2.1; have hm1 := h2.1.1; have hm2 := h2.1.2.1
  unfold maxLen at hl2 hm2
  have HD := hid (show decide (rs.map Rw.l = qs.map Rw.l) = true ↔ rs.map Rw.l = qs.map Rw.l from decide_eq_true_iff)
  obtain ⟨D, hD⟩ : ∃ D, decide (rs.map Rw.l = qs.map Rw.l) = D := ⟨_, rfl⟩
  rw [hD] at HD ⊢
  clear hD
  by_cases hne : rs.length = qs.length
  · have hd : ((rs.length : Int) != (qs.length : Int)) = false := by simp [hne]
    have HNE := hid hne
    have hle : qs.length ≤ rs.length := by omega
    have hle2 : rs.length ≤ qs.length := by omega
    clear hne
    go_enter Try.func9, Try.ntmps9
    go_wp2
    go_loopw [5] (fun i wr => ∃ k : Nat, k ≤ rs.length ∧ i = .int .i64 k ∧ Hid ((rs.map Rw.l).take k = (qs.map Rw.l).take k) ∧ Hid (∃ n, wr = w.drewN n))
      (fun i _ => rs.length - (intOf i).toNat)
    case atStart => exact ⟨0, by omega, rfl, rfl, 0, rfl⟩
    case round =>
      obtain ⟨k, hk, rfl, HK, HW⟩ := hrel
      have h1' : RwsAt n1 wr a1 c1 rs := by obtain ⟨n, e⟩ := HW.out; rw [e]; exact h1
      have h2' : RwsAt n2 wr a2 c2 qs := by obtain ⟨n, e⟩ := HW.out; rw [e]; exact h2
      have HD2 : Hid (∀ j, ∃ n, wr.drewN j = w.drewN n) := fun j => by obtain ⟨n, e⟩ := HW.out; exact ⟨n + j, by rw [e, World.drewN_drewN]⟩
      by_cases hlt : k < rs.length
      · have hkd : decide ((k : Int) < (rs.length : Int)) = true := by simp; omega
        have hltm : k < qs.length := by omega
        rcases h1'.1.2.2 with h | ⟨b1, o1, rfl, hb1, r1⟩
        · subst h; simp at hlt
        rcases h2'.1.2.2 with h | ⟨b2, o2, rfl, hb2, r2⟩
        · subst h; simp at hltm
        have d1 := r1 k hlt 0 (by omega)
        have d2 := r2 k hltm 0 (by omega)
        have s1 := h1'.2 _ (List.getElem_mem hlt)
        have s2 := h2'.2 _ (List.getElem_mem hltm)
        have HE := hid (take_eq (l := rs.map Rw.l) (m := qs.map Rw.l) k (by simpa using hlt) (by simpa using hltm) HK.out)
        have HN := hid (take_ne (l := rs.map Rw.l) (m := qs.map Rw.l) k (by simpa using hlt) (by simpa using hltm))
        simp only [List.getElem_map] at HE HN
        rcases hx : rs[k] with ⟨xad, xc, x⟩
        rcases hy : qs[k] with ⟨yad, yc, y⟩
        rw [hx] at d1 s1
        rw [hy] at d2 s2
        rw [hx, hy] at HE HN
        simp only [Rw.cells, Rw.val] at d1 d2 HE HN
        simp at d1 d2
        have hqs := fun j => same_any x y xad yad xc yc n1 n2 (wr.drewN j) s1 s2
        unfold SameBack at hqs
        clear hx hy s1 s2 r1 r2
        cases he : (decide (x = y))
        · have hxy : x ≠ y := by simpa using he
          have HF : Hid (D = false) := by
            show _ = _
            cases hD : D
            · rfl
            · exact absurd (HD.out.1 hD) (HN.out hxy)
          simp only [he] at hqs
          clear HE HN HK hxy he
          go_wp2_with fail
          go_quiet ((go_at_call 23; exact Calls.quiet_of (hqs _)))
          go_wp2
          go_ret
          exact ⟨ret_b HF.out.symm, HD2.out _⟩
        · have hxy : x = y := by simpa using he
          have HE2 := hid (HE.out hxy)
          simp only [he] at hqs
          clear HE HN HK hxy he
          go_wp2_with fail
          go_quiet ((go_at_call 23; exact Calls.quiet_of (hqs _)))
          go_wp2
          go_roundw
          case rel => exact ⟨k + 1, by omega, by go_num, HE2.out, HD2.out _⟩
          case measure => simp [intOf]; omega
      · have hkd : decide ((k : Int) < (rs.length : Int)) = false := by simp; omega
        have HT : Hid (D = true) := HD.out.2 (take_all k (by simp; omega) (by simp; omega) HK.out)
        go_wp2
        go_ret
        exact ⟨ret_b HT.out.symm, HW.out⟩
  · have hd : ((rs.length : Int) != (qs.length : Int)) = true := by simp; omega
    have HF : Hid (D = false) := by
      show _ = _
      cases hD : D
      · rfl
      · exact absurd (by simpa using congrArg List.length (HD.out.1 hD)) hne
    go_enter Try.func9, Try.ntmps9
    go_wp2
    go_ret
    exact ⟨ret_b HF.out.symm, 0, rfl⟩
/-- Nests as pairs in memory. -/
def ncells (n : Int × Int) : List Value := [.int .i64 n.1, .int .i64 n.2]
theorem eqNest (a b c d : Int) (W : World) : (Op.equalIn 10000 42 (.agg #[.int .i64 a, .int .i64 b]) (.agg #[.int .i64 c, .int .i64 d])).run Try.prog W = .ok ((a == c) && (b == d)) W := by
  have hfs : Try.prog.fieldsOf 42 = (match Try.prog.underlying 42 with | some (.struct fs) => fs | _ => #[]) := rfl
  have ht : Try.prog.underlying 42 = some (.struct (Try.prog.fieldsOf 42)) := by rw [hfs, Try.underlying42]
  have hp : Try.prog.stoodInHeld 42 = false := by kernel_rfl
  have p0 : ∀ (x y : Int), (part 3 #[.int .i64 x, .int .i64 y] 0).run Try.prog W = .ok (.int .i64 x) W := fun x y => run_part_plain W plain3 rfl
  have p1 : ∀ (x y : Int), (part 3 #[.int .i64 x, .int .i64 y] 1).run Try.prog W = .ok (.int .i64 y) W := fun x y => run_part_plain W plain3 rfl
  have hq : ∀ (x y : Int), (Op.equalIn 9999 3 (.int .i64 x) (.int .i64 y)).run Try.prog W = .ok (x == y) W := fun x y => run_equalIn_int (w := W) 9998 3 .i64 .i64 x y Try.underlying3
  rw [run_equalIn_struct W 9999 42 _ _ ht hp, hfs, Try.underlying42]
  cases h1 : a == c <;> cases h2 : b == d <;> simp [Op.eqFields, p0, p1, hq, h1, h2, -beq_iff_eq, -beq_eq_false_iff_ne]
set_option maxRecDepth 100000 in
set_option maxHeartbeats 4000000 in
theorem all_any (l m : List (Int × Int)) (a1 a2 : Option Addr) (c1 c2 n1 n2 : Nat) (w : World) (h1 : SlAt 2 ncells n1 w a1 c1 l) (h2 : SlAt 2 ncells n2 w a2 c2 m) :
    Calls Try.prog 13 #[.slice a1 l.length c1, .slice a2 m.length c2] w fun r w' => SameBack (decide (l = m)) w w' r := by
  have hl1 := h1.1; have hl2 := h1.2.1; have hm1 := h2.1; have hm2 := h2.2.1
  unfold maxLen at hl2 hm2
  have HD := hid (show decide (l = m) = true ↔ l = m from decide_eq_true_iff)
  obtain ⟨D, hD⟩ : ∃ D, decide (l = m) = D := ⟨_, rfl⟩
  rw [hD] at HD ⊢
  clear hD
  have hEG : Try.prog.eqGuardType Try.prog.depth 42 = false := by kernel_rfl
  have heq := eqNest
  by_cases hne : l.length = m.length
  · have hd : ((l.length : Int) != (m.length : Int)) = false := by simp [hne]
    have HNE := hid hne
    have hle : m.length ≤ l.length := by omega
    have hle2 : l.length ≤ m.length := by omega
    clear hne
    go_enter Try.func13, Try.ntmps13
    go_wp2
    go_loopw [5] (fun i wr => ∃ k : Nat, k ≤ l.length ∧ i = .int .i64 k ∧ Hid (l.take k = m.take k) ∧ Hid (∃ n, wr = w.drewN n))
      (fun i _ => l.length - (intOf i).toNat)
    case atStart => exact ⟨0, by omega, rfl, rfl, 0, rfl⟩
    case round =>
      obtain ⟨k, hk, rfl, HK, HW⟩ := hrel
      have h1' : SlAt 2 ncells n1 wr a1 c1 l := by obtain ⟨n, e⟩ := HW.out; rw [e]; exact h1
      have h2' : SlAt 2 ncells n2 wr a2 c2 m := by obtain ⟨n, e⟩ := HW.out; rw [e]; exact h2
      have HD2 : Hid (∀ j, ∃ n, wr.drewN j = w.drewN n) := fun j => by obtain ⟨n, e⟩ := HW.out; exact ⟨n + j, by rw [e, World.drewN_drewN]⟩
      by_cases hlt : k < l.length
      · have hkd : decide ((k : Int) < (l.length : Int)) = true := by simp; omega
        have hltm : k < m.length := by omega
        rcases h1'.2.2 with h | ⟨b1, o1, rfl, hb1, r1⟩
        · subst h; simp at hlt
        rcases h2'.2.2 with h | ⟨b2, o2, rfl, hb2, r2⟩
        · subst h; simp at hltm
        have d1 := r1 k hlt 0 (by omega)
        have d2 := r2 k hltm 0 (by omega)
        have e1 := r1 k hlt 1 (by omega)
        have e2 := r2 k hltm 1 (by omega)
        have HE := hid (take_eq k hlt hltm HK.out)
        have HN := hid (take_ne k hlt hltm)
        rcases hx : l[k] with ⟨x0, x1⟩
        rcases hy : m[k] with ⟨y0, y1⟩
        rw [hx] at d1 e1
        rw [hy] at d2 e2
        rw [hx, hy] at HE HN
        simp only [ncells] at d1 d2 e1 e2
        simp at d1 d2 e1 e2
        clear hx hy r1 r2
        cases he : ((x0 == y0) && (x1 == y1))
        · have hxy : (x0, x1) ≠ (y0, y1) := by
            intro e
            rw [Prod.mk.injEq] at e
            rw [e.1, e.2] at he; simp at he
          have HF : Hid (D = false) := by
            show _ = _
            cases hD : D
            · rfl
            · exact absurd (HD.out.1 hD) (HN.out hxy)
          have hq := fun W => (heq x0 x1 y0 y1 W).trans (by rw [he])
          clear HE HN HK hxy he heq
          go_wp2_with fail
          go_quiet (fail)
          go_wp2
          go_ret
          exact ⟨ret_b HF.out.symm, HD2.out _⟩
        · have hxy : (x0, x1) = (y0, y1) := by
            simp only [Bool.and_eq_true, beq_iff_eq] at he
            rw [he.1, he.2]
          have HE2 := hid (HE.out hxy)
          have hq := fun W => (heq x0 x1 y0 y1 W).trans (by rw [he])
          clear HE HN HK hxy he heq
          go_wp2_with fail
          go_quiet (fail)
          go_wp2
          go_roundw
          case rel => exact ⟨k + 1, by omega, by go_num, HE2.out, HD2.out _⟩
          case measure => simp [intOf]; omega
      · have hkd : decide ((k : Int) < (l.length : Int)) = false := by simp; omega
        have HT : Hid (D = true) := HD.out.2 (take_all k (by omega) (by omega) HK.out)
        go_wp2
        go_ret
        exact ⟨ret_b HT.out.symm, HW.out⟩
  · have hd : ((l.length : Int) != (m.length : Int)) = true := by simp; omega
    have HF : Hid (D = false) := by
      show _ = _
      cases hD : D
      · rfl
      · exact absurd (congrArg List.length (HD.out.1 hD)) hne
    go_enter Try.func13, Try.ntmps13
    go_wp2
    go_ret
    exact ⟨ret_b HF.out.symm, 0, rfl⟩
end Go.Proofs.Ythdkgfmlihgceaa
