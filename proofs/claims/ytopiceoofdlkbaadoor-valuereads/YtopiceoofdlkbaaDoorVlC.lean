/-
  variables, Eval, True of package value.
-/
import Derived.Test.YtopiceoofdlkbaaDoorVlB
namespace Go.Proofs.YtopiceoofdlkbaaDoor
open Go.RowKit
set_option maxRecDepth 100000 in
set_option maxHeartbeats 4000000 in
theorem variables_any (p : Pr) (n₀ : Nat) (w : World) (hn : n₀ ≤ w.heap.size) (hp : p.Is n₀ w) (hvs : vsum p.mons ≤ 1000000) :
    Calls Tryd.prog 25 #[p.val] w fun r w' => r = .returned (.int .i64 (vsum p.mons : Nat)) ∧ Below w.heap.size w w' := by
  rcases p with ⟨mad, mcap, mons, rad, rcap, roles⟩
  obtain ⟨⟨h3, -⟩, -⟩ := hp
  simp only [Pr.val] at h3 hvs ⊢
  have hl1 := h3.1; have hl2 := h3.2.1
  unfold maxLen at hl2
  go_enter Tryd.func25, Tryd.ntmps25
  go_upto_region 1 with fail
  obtain ⟨bP, hB, hz⟩ := one_box w #[.slice mad mons.length mcap, .slice rad roles.length rcap] 25
  obtain ⟨W0, hW0⟩ : ∃ W0, w.alloc (.cells #[.slice mad mons.length mcap, .slice rad roles.length rcap] 25) = W0 := ⟨_, rfl⟩
  rw [hW0] at bP hB hz ⊢
  clear hW0
  have s0 := cellOf bP 0
  simp at s0
  have HZ := hid hz
  clear hz bP
  go_wp2
  go_loopw [3, 9] (fun m i wr => ∃ (j : Nat) (c : Nat), j ≤ mons.length ∧ i = .int .i64 j ∧ m = .int .i64 (c : Int) ∧ c ≤ 2000000 ∧ Hid (c = vsum (mons.take j)) ∧ Below w.heap.size w wr)
    (fun _ i _ => mons.length - (intOf i).toNat)
  case atStart => exact ⟨0, 0, by omega, rfl, rfl, by omega, by show _ = _; simp [vsum], hB⟩
  case round =>
    obtain ⟨j, c, hj, rfl, rfl, hc, HC, hbw⟩ := hrel
    have hz3 := hbw.size
    by_cases hlt : j < mons.length
    · rcases h3.2.2 with h | ⟨kb, koff, rfl, hbn, hrow⟩
      · subst h; simp at hlt
      have hbn2 : kb < wr.heap.size := by omega
      have HS := hid (vsum_snoc mons j hlt)
      have hvj := vars_le mons j hlt
      have hvt2 := vsum_le mons (j + 1)
      have hrj := hrow.below (hbw.mono hn) hbn
      rcases he' : mons[j] with ⟨mname, mvad, mvcap, mvars, mmad, mmcap, mmeths, mpos⟩
      obtain ⟨c0, c1, c2, c3⟩ := row4 hrj j hlt (by rw [he']; rfl)
      rw [he'] at HS
      rw [he'] at hvj
      simp only at HS hvj
      clear he'
      have hcc : c + mvars.length ≤ 2000000 := by have h1 := HC.out; have h2 := HS.out; omega
      go_wp2
      go_roundw
      case rel => exact ⟨j + 1, c + mvars.length, by omega, by go_num, by go_num, hcc, (by show _ = _; rw [HS.out, HC.out]), hbw.al le_rfl' _⟩
      case measure => simp [intOf]; omega
    · have hjd : decide ((j : Int) < (mons.length : Int)) = false := by simp; omega
      have HC2 : Hid (c = vsum mons) := by
        show _ = _
        rw [HC.out, List.take_of_length_le (by omega)]
      clear HC
      go_wp2
      go_ret
      exact ⟨congrArg (fun c : Nat => Ending.returned (.int .i64 (c : Int))) HC2.out, hbw⟩
/-- What Eval tells: a value and an error. -/
def evF (p : Pr) (e : Ex) (vs : List Int) : Int × Int :=
  match e.tero p.mons with
  | some (c, _) => (0, c)
  | none => if vs.length = vsum p.mons then (match e.rk p.mons vs with | some x => (x, 0) | none => (0, 110)) else (0, 2)
def EvBack (v : Int × Int) (w w' : World) (r : Ending) : Prop := r = .returned (.tuple #[.int .i64 v.1, .int .i64 v.2]) ∧ I64 v.1 ∧ Below w.heap.size w w'
theorem i64_zero : I64 0 := by unfold I64; omega
theorem evBack_mk {v : Int × Int} {x c : Int} {w w' : World} (h : v = (x, c)) (hx : I64 x) (hb : Below w.heap.size w w') : EvBack v w w' (.returned (.tuple #[.int .i64 x, .int .i64 c])) := by subst h; exact ⟨rfl, hx, hb⟩
theorem EvBack.at {f : FuncId} {args : Array Value} {v : Int × Int} {w : World} (h : Calls Tryd.prog f args w fun r w' => EvBack v w w' r) {x c : Int} (hv : v = (x, c)) : Calls Tryd.prog f args w fun r w' => r = .returned (.tuple #[.int .i64 x, .int .i64 c]) ∧ I64 x ∧ Below w.heap.size w w' := by subst hv; exact h
set_option maxRecDepth 100000 in
set_option maxHeartbeats 8000000 in
theorem eval_any (p : Pr) (hvs : vsum p.mons ≤ 1000000) (e : Ex) (vs : List Int) (hvi : ∀ x ∈ vs, I64 x) (vad : Option Addr) (vcap : Nat) (n₀ : Nat) (w : World) (hn : n₀ ≤ w.heap.size) (hp : p.Is n₀ w) (he : e.Is n₀ w) (hV : SlAt 1 iv n₀ w vad vcap vs) (hS : Shapes w) :
    Calls Tryd.prog 11 #[p.val, e.val, .slice vad vs.length vcap] w fun r w' => EvBack (evF p e vs) w w' r := by
  have hs3 := hS.size
  have hv1 := hV.1; have hv2 := hV.2.1
  unfold maxLen at hv2
  have h21 : ∀ W, Below w.heap.size w W → Calls Tryd.prog 21 #[p.val, e.val] W fun r w' => TyBack (e.is p.mons) (e.tero p.mons) W w' r := fun W hW => type_any p hvs e n₀ W (by have := hW.size; omega) (hp.below (hW.mono hn)) (he.below (hW.mono hn)) (hS.below hW hs3)
  have h25 : ∀ W, Below w.heap.size w W → Calls Tryd.prog 25 #[p.val] W fun r w' => r = .returned (.int .i64 (vsum p.mons : Nat)) ∧ Below W.heap.size W w' := fun W hW => variables_any p n₀ W (by have := hW.size; omega) (hp.below (hW.mono hn)) hvs
  have h26 : e.ok = true → e.ter p.mons = none → vs.length = vsum p.mons → ∀ W, Below w.heap.size w W → Calls Tryd.prog 26 #[.agg #[.slice p.mad p.mons.length p.mcap, .slice p.rad p.roles.length p.rcap, .slice vad vs.length vcap], e.val] W fun r w' => RkBack (e.rk p.mons vs) W w' r := fun h1 h2 h3 W hW => reckon_any p hvs vs h3 hvi vad vcap e n₀ W (by have := hW.size; omega) (hp.below (hW.mono hn)) (hV.below (hW.mono hn)) (he.below (hW.mono hn)) h1 h2
  have HT : Hid (e.tero p.mons = none → e.ok = true ∧ e.ter p.mons = none) := fun h => by
    rw [Ex.tero] at h
    split at h
    · exact ⟨by assumption, h⟩
    · cases h
  have HE : Hid (evF p e vs = match e.tero p.mons with | some (c, _) => (0, c) | none => if vs.length = vsum p.mons then (match e.rk p.mons vs with | some x => (x, 0) | none => (0, 110)) else (0, 2)) := rfl
  have HCP : Hid (∀ c a, e.tero p.mons = some (c, a) → c ≠ 0) := fun c a h => Ex.tero_pos p.mons e c a h
  generalize evF p e vs = EV at *
  obtain ⟨ti, hti⟩ : ∃ a, e.is p.mons = a := ⟨_, rfl⟩
  obtain ⟨tt, htt⟩ : ∃ a, e.tero p.mons = a := ⟨_, rfl⟩
  obtain ⟨te, hte⟩ : ∃ a, e.ter p.mons = a := ⟨_, rfl⟩
  obtain ⟨tk, htk⟩ : ∃ a, e.ok = a := ⟨_, rfl⟩
  obtain ⟨tr, htr⟩ : ∃ a, e.rk p.mons vs = a := ⟨_, rfl⟩
  obtain ⟨vn, hvn⟩ : ∃ a, vsum p.mons = a := ⟨_, rfl⟩
  simp only [hti, htt] at h21
  simp only [hvn] at h25
  simp only [hte, htk, htr, hvn] at h26
  simp only [htt, hte, htk] at HT
  simp only [htt, hvn, htr] at HE
  simp only [htt] at HCP
  clear hti htt hte htk htr
  rw [hvn] at hvs
  clear hvn
  obtain ⟨pad, hpad⟩ : ∃ a, p.mad = a := ⟨_, rfl⟩
  obtain ⟨pml, hpml⟩ : ∃ a, p.mons.length = a := ⟨_, rfl⟩
  obtain ⟨pmc, hpmc⟩ : ∃ a, p.mcap = a := ⟨_, rfl⟩
  obtain ⟨prd, hprd⟩ : ∃ a, p.rad = a := ⟨_, rfl⟩
  obtain ⟨prl, hprl⟩ : ∃ a, p.roles.length = a := ⟨_, rfl⟩
  obtain ⟨prc, hprc⟩ : ∃ a, p.rcap = a := ⟨_, rfl⟩
  rcases e with ⟨op, mon, name, n, ad, cap, kids, pos⟩
  simp only [Pr.val, Ex.val, Ex.cells, hpad, hpml, hpmc, hprd, hprl, hprc] at h21 h25 h26 ⊢
  clear hpad hpml hpmc hprd hprl hprc hp he hV
  go_enter Tryd.func11, Tryd.ntmps11
  go_upto_region 1 with fail
  obtain ⟨bP, bE, hB, hz⟩ := two_box w #[.slice pad pml pmc, .slice prd prl prc] #[.int .i64 op, .string mon, .string name, .int .i64 n, .slice ad kids.length cap, .int .i64 pos] 25 28
  obtain ⟨W0, hW0⟩ : ∃ W0, (w.alloc (.cells #[.slice pad pml pmc, .slice prd prl prc] 25)).alloc (.cells #[.int .i64 op, .string mon, .string name, .int .i64 n, .slice ad kids.length cap, .int .i64 pos] 28) = W0 := ⟨_, rfl⟩
  rw [hW0] at bP bE hB hz ⊢
  clear hW0
  have m0 := cellOf bP 0
  have m1 := cellOf bP 1
  have s0 := cellOf bE 0
  have s1 := cellOf bE 1
  have s2 := cellOf bE 2
  have s3 := cellOf bE 3
  have s4 := cellOf bE 4
  have s5 := cellOf bE 5
  simp at m0 m1 s0 s1 s2 s3 s4 s5
  have HZ := hid hz
  clear hz bP bE
  have hq1 := h21 W0 hB
  clear h21
  rcases tt with _ | ⟨c, a⟩
  · have hq1 := TyBack.no hq1 rfl
    obtain ⟨hk, ht⟩ := HT.out rfl
    have h26 := h26 hk ht
    clear HT hk ht HCP
    by_cases hl : vs.length = vn
    · have h26 := h26 hl
      have hlb : (((vs.length : Nat) : Int) != ((vn : Nat) : Int)) = false := by rw [hl]; simp
      have HL := hid hl
      clear hl
      rcases tr with _ | x
      · have h26 := fun W hW => RkBack.no (h26 W hW) rfl
        have HE2 : Hid (EV = (0, 110)) := by show _ = _; rw [HE.out, if_pos HL.out]
        clear HE HL
        go_wp2_with (first
          | (go_at_call 21; (with_reducible refine hq1.mono ?_); rintro r u1 ⟨rfl, bb1⟩; have hB1 := hB.tr le_rfl' bb1; have xm0 := (bb1.cell (p := ⟨w.heap.size, 0, none⟩) (by show w.heap.size < _; have := HZ.out; omega)).trans m0; have xm1 := (bb1.cell (p := ⟨w.heap.size, 1, none⟩) (by show w.heap.size < _; have := HZ.out; omega)).trans m1; have xs0 := (bb1.cell (p := ⟨w.heap.size + 1, 0, none⟩) (by show w.heap.size + 1 < _; have := HZ.out; omega)).trans s0; have xs1 := (bb1.cell (p := ⟨w.heap.size + 1, 1, none⟩) (by show w.heap.size + 1 < _; have := HZ.out; omega)).trans s1; have xs2 := (bb1.cell (p := ⟨w.heap.size + 1, 2, none⟩) (by show w.heap.size + 1 < _; have := HZ.out; omega)).trans s2; have xs3 := (bb1.cell (p := ⟨w.heap.size + 1, 3, none⟩) (by show w.heap.size + 1 < _; have := HZ.out; omega)).trans s3; have xs4 := (bb1.cell (p := ⟨w.heap.size + 1, 4, none⟩) (by show w.heap.size + 1 < _; have := HZ.out; omega)).trans s4; have xs5 := (bb1.cell (p := ⟨w.heap.size + 1, 5, none⟩) (by show w.heap.size + 1 < _; have := HZ.out; omega)).trans s5; have hz1 := bb1.size)
          | (go_at_call 25; (with_reducible refine (h25 _ hB1).mono ?_); rintro r u2 ⟨rfl, bb2⟩; have hB2 := hB1.tr le_rfl' bb2; have hz2 := bb2.size; have ym0 := (bb2.cell (p := ⟨w.heap.size, 0, none⟩) (by show w.heap.size < _; have := HZ.out; omega)).trans xm0; have ym1 := (bb2.cell (p := ⟨w.heap.size, 1, none⟩) (by show w.heap.size < _; have := HZ.out; omega)).trans xm1; have ys0 := (bb2.cell (p := ⟨w.heap.size + 1, 0, none⟩) (by show w.heap.size + 1 < _; have := HZ.out; omega)).trans xs0; have ys1 := (bb2.cell (p := ⟨w.heap.size + 1, 1, none⟩) (by show w.heap.size + 1 < _; have := HZ.out; omega)).trans xs1; have ys2 := (bb2.cell (p := ⟨w.heap.size + 1, 2, none⟩) (by show w.heap.size + 1 < _; have := HZ.out; omega)).trans xs2; have ys3 := (bb2.cell (p := ⟨w.heap.size + 1, 3, none⟩) (by show w.heap.size + 1 < _; have := HZ.out; omega)).trans xs3; have ys4 := (bb2.cell (p := ⟨w.heap.size + 1, 4, none⟩) (by show w.heap.size + 1 < _; have := HZ.out; omega)).trans xs4; have ys5 := (bb2.cell (p := ⟨w.heap.size + 1, 5, none⟩) (by show w.heap.size + 1 < _; have := HZ.out; omega)).trans xs5)
          | (go_at_call 26; (with_reducible refine (h26 _ hB2).mono ?_); rintro r u3 ⟨rfl, bb3⟩; have hB3 := hB2.tr le_rfl' bb3))
        go_ret2
        exact evBack_mk HE2.out i64_zero hB3
      · have h26 := fun W hW => RkBack.yes (h26 W hW) rfl
        have HE2 : Hid (EV = (x, 0)) := by show _ = _; rw [HE.out, if_pos HL.out]
        clear HE HL
        go_wp2_with (first
          | (go_at_call 21; (with_reducible refine hq1.mono ?_); rintro r u1 ⟨rfl, bb1⟩; have hB1 := hB.tr le_rfl' bb1; have xm0 := (bb1.cell (p := ⟨w.heap.size, 0, none⟩) (by show w.heap.size < _; have := HZ.out; omega)).trans m0; have xm1 := (bb1.cell (p := ⟨w.heap.size, 1, none⟩) (by show w.heap.size < _; have := HZ.out; omega)).trans m1; have xs0 := (bb1.cell (p := ⟨w.heap.size + 1, 0, none⟩) (by show w.heap.size + 1 < _; have := HZ.out; omega)).trans s0; have xs1 := (bb1.cell (p := ⟨w.heap.size + 1, 1, none⟩) (by show w.heap.size + 1 < _; have := HZ.out; omega)).trans s1; have xs2 := (bb1.cell (p := ⟨w.heap.size + 1, 2, none⟩) (by show w.heap.size + 1 < _; have := HZ.out; omega)).trans s2; have xs3 := (bb1.cell (p := ⟨w.heap.size + 1, 3, none⟩) (by show w.heap.size + 1 < _; have := HZ.out; omega)).trans s3; have xs4 := (bb1.cell (p := ⟨w.heap.size + 1, 4, none⟩) (by show w.heap.size + 1 < _; have := HZ.out; omega)).trans s4; have xs5 := (bb1.cell (p := ⟨w.heap.size + 1, 5, none⟩) (by show w.heap.size + 1 < _; have := HZ.out; omega)).trans s5; have hz1 := bb1.size)
          | (go_at_call 25; (with_reducible refine (h25 _ hB1).mono ?_); rintro r u2 ⟨rfl, bb2⟩; have hB2 := hB1.tr le_rfl' bb2; have hz2 := bb2.size; have ym0 := (bb2.cell (p := ⟨w.heap.size, 0, none⟩) (by show w.heap.size < _; have := HZ.out; omega)).trans xm0; have ym1 := (bb2.cell (p := ⟨w.heap.size, 1, none⟩) (by show w.heap.size < _; have := HZ.out; omega)).trans xm1; have ys0 := (bb2.cell (p := ⟨w.heap.size + 1, 0, none⟩) (by show w.heap.size + 1 < _; have := HZ.out; omega)).trans xs0; have ys1 := (bb2.cell (p := ⟨w.heap.size + 1, 1, none⟩) (by show w.heap.size + 1 < _; have := HZ.out; omega)).trans xs1; have ys2 := (bb2.cell (p := ⟨w.heap.size + 1, 2, none⟩) (by show w.heap.size + 1 < _; have := HZ.out; omega)).trans xs2; have ys3 := (bb2.cell (p := ⟨w.heap.size + 1, 3, none⟩) (by show w.heap.size + 1 < _; have := HZ.out; omega)).trans xs3; have ys4 := (bb2.cell (p := ⟨w.heap.size + 1, 4, none⟩) (by show w.heap.size + 1 < _; have := HZ.out; omega)).trans xs4; have ys5 := (bb2.cell (p := ⟨w.heap.size + 1, 5, none⟩) (by show w.heap.size + 1 < _; have := HZ.out; omega)).trans xs5)
          | (go_at_call 26; (with_reducible refine (h26 _ hB2).mono ?_); rintro r u3 ⟨rfl, hx, bb3⟩; have hB3 := hB2.tr le_rfl' bb3))
        go_ret2
        exact evBack_mk HE2.out hx hB3
    · have HE2 : Hid (EV = (0, 2)) := by show _ = _; rw [HE.out, if_neg hl]
      have hlb : (((vs.length : Nat) : Int) != ((vn : Nat) : Int)) = true := by rw [bne_iff_ne]; omega
      clear HE h26 hl
      go_wp2_with (first
        | (go_at_call 21; (with_reducible refine hq1.mono ?_); rintro r u1 ⟨rfl, bb1⟩; have hB1 := hB.tr le_rfl' bb1; have xm0 := (bb1.cell (p := ⟨w.heap.size, 0, none⟩) (by show w.heap.size < _; have := HZ.out; omega)).trans m0; have xm1 := (bb1.cell (p := ⟨w.heap.size, 1, none⟩) (by show w.heap.size < _; have := HZ.out; omega)).trans m1; have xs0 := (bb1.cell (p := ⟨w.heap.size + 1, 0, none⟩) (by show w.heap.size + 1 < _; have := HZ.out; omega)).trans s0; have xs1 := (bb1.cell (p := ⟨w.heap.size + 1, 1, none⟩) (by show w.heap.size + 1 < _; have := HZ.out; omega)).trans s1; have xs2 := (bb1.cell (p := ⟨w.heap.size + 1, 2, none⟩) (by show w.heap.size + 1 < _; have := HZ.out; omega)).trans s2; have xs3 := (bb1.cell (p := ⟨w.heap.size + 1, 3, none⟩) (by show w.heap.size + 1 < _; have := HZ.out; omega)).trans s3; have xs4 := (bb1.cell (p := ⟨w.heap.size + 1, 4, none⟩) (by show w.heap.size + 1 < _; have := HZ.out; omega)).trans s4; have xs5 := (bb1.cell (p := ⟨w.heap.size + 1, 5, none⟩) (by show w.heap.size + 1 < _; have := HZ.out; omega)).trans s5; have hz1 := bb1.size)
        | (go_at_call 25; (with_reducible refine (h25 _ hB1).mono ?_); rintro r u2 ⟨rfl, bb2⟩; have hB2 := hB1.tr le_rfl' bb2; have hz2 := bb2.size))
      go_ret2
      exact evBack_mk HE2.out i64_zero hB2
  · have hq1 := TyBack.yes hq1 rfl
    have HE2 : Hid (EV = (0, c)) := HE.out
    have hc0 : (c != 0) = true := by rw [bne_iff_ne]; exact HCP.out c a rfl
    clear HCP HE h25 h26 HT
    go_wp2_with (go_at_call 21; (with_reducible refine hq1.mono ?_); rintro r u1 ⟨rfl, bb1⟩)
    go_ret2
    exact evBack_mk HE2.out i64_zero (hB.tr le_rfl' bb1)
def trF (p : Pr) (e : Ex) (vs : List Int) : Bool := ((evF p e vs).2 == 0) && ((evF p e vs).1 != 0)
set_option maxRecDepth 100000 in
set_option maxHeartbeats 8000000 in
theorem true_any (p : Pr) (hvs : vsum p.mons ≤ 1000000) (e : Ex) (vs : List Int) (hvi : ∀ x ∈ vs, I64 x) (vad : Option Addr) (vcap : Nat) (n₀ : Nat) (w : World) (hn : n₀ ≤ w.heap.size) (hp : p.Is n₀ w) (he : e.Is n₀ w) (hV : SlAt 1 iv n₀ w vad vcap vs) (hS : Shapes w) :
    Calls Tryd.prog 14 #[p.val, e.val, .slice vad vs.length vcap] w fun r w' => r = .returned (.bool (trF p e vs)) ∧ Below w.heap.size w w' := by
  have hs3 := hS.size
  have h11 : ∀ W, Below w.heap.size w W → Calls Tryd.prog 11 #[p.val, e.val, .slice vad vs.length vcap] W fun r w' => EvBack (evF p e vs) W w' r := fun W hW => eval_any p hvs e vs hvi vad vcap n₀ W (by have := hW.size; omega) (hp.below (hW.mono hn)) (he.below (hW.mono hn)) (hV.below (hW.mono hn)) (hS.below hW hs3)
  have HT : Hid (trF p e vs = (((evF p e vs).2 == 0) && ((evF p e vs).1 != 0))) := rfl
  generalize trF p e vs = TR at *
  rcases hv : evF p e vs with ⟨x, c⟩
  have h11 := fun W hW => EvBack.at (h11 W hW) hv
  rw [hv] at HT
  simp only at HT
  clear hv
  obtain ⟨pad, hpad⟩ : ∃ a, p.mad = a := ⟨_, rfl⟩
  obtain ⟨pml, hpml⟩ : ∃ a, p.mons.length = a := ⟨_, rfl⟩
  obtain ⟨pmc, hpmc⟩ : ∃ a, p.mcap = a := ⟨_, rfl⟩
  obtain ⟨prd, hprd⟩ : ∃ a, p.rad = a := ⟨_, rfl⟩
  obtain ⟨prl, hprl⟩ : ∃ a, p.roles.length = a := ⟨_, rfl⟩
  obtain ⟨prc, hprc⟩ : ∃ a, p.rcap = a := ⟨_, rfl⟩
  rcases e with ⟨op, mon, name, n, ad, cap, kids, pos⟩
  simp only [Pr.val, Ex.val, Ex.cells, hpad, hpml, hpmc, hprd, hprl, hprc] at h11 ⊢
  clear hpad hpml hpmc hprd hprl hprc hp he hV hvi hvs
  go_enter Tryd.func14, Tryd.ntmps14
  go_upto_region 1 with fail
  obtain ⟨bP, bE, hB, hz⟩ := two_box w #[.slice pad pml pmc, .slice prd prl prc] #[.int .i64 op, .string mon, .string name, .int .i64 n, .slice ad kids.length cap, .int .i64 pos] 25 28
  obtain ⟨W0, hW0⟩ : ∃ W0, (w.alloc (.cells #[.slice pad pml pmc, .slice prd prl prc] 25)).alloc (.cells #[.int .i64 op, .string mon, .string name, .int .i64 n, .slice ad kids.length cap, .int .i64 pos] 28) = W0 := ⟨_, rfl⟩
  rw [hW0] at bP bE hB hz ⊢
  clear hW0
  have m0 := cellOf bP 0
  have m1 := cellOf bP 1
  have s0 := cellOf bE 0
  have s1 := cellOf bE 1
  have s2 := cellOf bE 2
  have s3 := cellOf bE 3
  have s4 := cellOf bE 4
  have s5 := cellOf bE 5
  simp at m0 m1 s0 s1 s2 s3 s4 s5
  have HZ := hid hz
  clear hz bP bE
  cases hc : (c == 0)
  · rw [hc] at HT
    go_wp2_with (go_at_call 11; (with_reducible refine (h11 _ hB).mono ?_); rintro r u1 ⟨rfl, hx, bb1⟩)
    go_ret
    exact ⟨ret_bool (by rw [HT.out]; rfl), hB.tr le_rfl' bb1⟩
  · rw [hc] at HT
    cases hx0 : (x != 0)
    all_goals rw [hx0] at HT
    all_goals go_wp2_with (go_at_call 11; (with_reducible refine (h11 _ hB).mono ?_); rintro r u1 ⟨rfl, hx, bb1⟩)
    all_goals go_ret
    all_goals exact ⟨ret_bool (by rw [HT.out]; rfl), hB.tr le_rfl' bb1⟩
end Go.Proofs.YtopiceoofdlkbaaDoor
