/-
  The document's Rest: whether statements are small; what is left bounds how many parts they have.
-/
import Derived.Test.YtfkabkbnfeiggaaDoorSzA
import Derived.Test.YtfkabkbnfeiggaaDoorRsA
import Derived.Test.YtfkabkbnfeiggaaDoorPtA
namespace Go.Proofs.YtfkabkbnfeiggaaDoor
open Go.RowKit
/-- How many parts a block has. -/
def Bl.sz (b : Bl) : Nat := (b.subs.map St.sz).sum
def St.tot (s : St) : Nat := (s.subs.map St.sz).sum
theorem St.tot_mk (kind : Int) (mon name : ByteArray) (n : Int) (e : Ex) (ad : Option Addr) (cap : Nat) (blocks : List Bl) (pos : Int) : (St.mk kind mon name n e ad cap blocks pos).tot = (1 + if e.none then 0 else e.subs.length) + (blocks.map Bl.sz).sum := by
  rw [St.tot, St.subs_mk, List.map_cons, List.sum_cons]
  congr 1
  induction blocks with
  | nil => rfl
  | cons b r ih => rw [List.flatMap_cons, List.map_append, List.sum_append, ih]; rfl
theorem Bl.sz_mk (ad : Option Addr) (cap : Nat) (body : List St) : (Bl.mk ad cap body).sz = (body.map St.tot).sum := by
  rw [Bl.sz, Bl.subs_mk]
  induction body with
  | nil => rfl
  | cons b r ih => rw [List.flatMap_cons, List.map_append, List.sum_append, ih]; rfl
theorem sum_snoc {α : Type} (f : α → Nat) (l : List α) (k : Nat) (h : k < l.length) : ((l.take (k + 1)).map f).sum = ((l.take k).map f).sum + f l[k] := by
  rw [List.take_succ_eq_append_getElem h, List.map_append, List.sum_append]; simp
set_option maxRecDepth 100000 in
set_option maxHeartbeats 8000000 in
theorem rest_step (n₀ : Nat) (ad : Option Addr) (cap : Nat) (body : List St)
    (ih : ∀ s ∈ body, ∀ b ∈ s.blocks, ∀ (n : Int) (w : World), -1 ≤ n → n ≤ 1000 → n₀ ≤ w.heap.size → b.Is n₀ w → Calls Tryd.prog 7 #[b.slice, .int .i64 n] w fun r w' => ∃ c : Int, r = .returned (.int .i64 c) ∧ -1 ≤ c ∧ c ≤ n ∧ Hid (0 ≤ c → (b.sz : Int) ≤ n - c) ∧ Below w.heap.size w w')
    (n : Int) (w : World) (hn0 : -1 ≤ n) (hn1 : n ≤ 1000) (hn : n₀ ≤ w.heap.size) (hI : (Bl.mk ad cap body).Is n₀ w) :
    Calls Tryd.prog 7 #[.slice ad body.length cap, .int .i64 n] w fun r w' => ∃ c : Int, r = .returned (.int .i64 c) ∧ -1 ≤ c ∧ c ≤ n ∧ Hid (0 ≤ c → ((Bl.mk ad cap body).sz : Int) ≤ n - c) ∧ Below w.heap.size w w' := by
  have HR := hid (Bl.sz_mk ad cap body)
  have hd := hI.down
  have hl1 := hd.1.1; have hl2 := hd.1.2.1
  unfold maxLen at hl2
  by_cases h0 : n < (body.length : Int)
  · go_enter Tryd.func7, Tryd.ntmps7
    go_wp2
    go_ret
    exact ⟨-1, rfl, by omega, by omega, fun h => by omega, Below.refl _ _⟩
  have h0' : (body.length : Int) ≤ n := by omega
  go_enter Tryd.func7, Tryd.ntmps7
  go_wp2
  go_loopw [1, 5] (fun v i wr => ∃ (j : Nat) (c : Int), j ≤ body.length ∧ v = .int .i64 c ∧ i = .int .i64 j ∧ -1 ≤ c ∧ c ≤ n ∧ Hid (0 ≤ c → (((body.take j).map St.tot).sum : Int) ≤ n - c) ∧ Below w.heap.size w wr)
    (fun _ i _ => body.length - (intOf i).toNat)
  case atStart => exact ⟨0, n, by omega, rfl, rfl, by omega, by omega, fun _ => by simp, Below.refl _ _⟩
  case round =>
    obtain ⟨wo, hwo⟩ : ∃ wo : World, wo = wr := ⟨_, rfl⟩
    subst hwo
    obtain ⟨j, c, hj, rfl, rfl, hc0, hc1, HA, hbw⟩ := hrel
    have hz := hbw.size
    by_cases hlt : j < body.length
    · by_cases hcp : 0 ≤ c
      · rcases hd.1.2.2 with h | ⟨b, off, rfl, hbn, hrow⟩
        · subst h; simp at hlt
        have hb0 := hbw.mono hn
        have hbn2 : b < wo.heap.size := by omega
        have hr := hrow.below hb0 hbn
        have hIj := (hd.2 _ (List.getElem_mem hlt)).below hb0
        have hih := ih _ (List.getElem_mem hlt)
        have HS := hid (sum_snoc St.tot body j hlt)
        clear ih
        rcases he' : body[j] with ⟨kind, mon, name, k, e, ad', cap', blocks, pos⟩
        rcases hee : e with ⟨eop, emon, ename, en, ead, ecap, ekids, epos⟩
        obtain ⟨c0, c1, c2, c3, c4, c5, c6, c7, c8, c9, c10, c11⟩ := row12 hr j hlt (by rw [he', hee]; rfl)
        rw [he'] at hIj hih HS
        have hIs := hIj.down
        have hsm := hIs.1.2.2.2.1; have hsn := hIs.1.2.2.2.2
        unfold Len at hsm hsn
        have hlb1 := hIs.2.2.1.1; have hlb2 := hIs.2.2.1.2.1
        unfold maxLen at hlb2
        clear he' hIj
        have hih : ∀ b ∈ blocks, ∀ (n : Int) (w : World), -1 ≤ n → n ≤ 1000 → n₀ ≤ w.heap.size → b.Is n₀ w → Calls Tryd.prog 7 #[b.slice, .int .i64 n] w fun r w' => ∃ c : Int, r = .returned (.int .i64 c) ∧ -1 ≤ c ∧ c ≤ n ∧ Hid (0 ≤ c → (b.sz : Int) ≤ n - c) ∧ Below w.heap.size w w' := hih
        by_cases x1 : 200 < mon.size
        · have x1' : (200 : Int) < (mon.size : Int) := by omega
          go_wp2
          go_ret
          exact ⟨-1, rfl, by omega, by omega, fun h => by omega, hbw⟩
        by_cases x2 : 200 < name.size
        · have x1' : (mon.size : Int) ≤ 200 := by omega
          have x2' : (200 : Int) < (name.size : Int) := by omega
          go_wp2
          go_ret
          exact ⟨-1, rfl, by omega, by omega, fun h => by omega, hbw⟩
        by_cases x3 : 40 < blocks.length
        · have x1' : (mon.size : Int) ≤ 200 := by omega
          have x2' : (name.size : Int) ≤ 200 := by omega
          have x3' : (40 : Int) < (blocks.length : Int) := by omega
          go_wp2
          go_ret
          exact ⟨-1, rfl, by omega, by omega, fun h => by omega, hbw⟩
        have x1' : (mon.size : Int) ≤ 200 := by omega
        have x2' : (name.size : Int) ≤ 200 := by omega
        have x3' : (blocks.length : Int) ≤ 40 := by omega
        have HT := hid (St.tot_mk kind mon name k e ad' cap' blocks pos)
        have h12 := restExpr_any n₀ e (c - 1) wo (by omega) (by omega) (by omega) hIs.2.1
        have HRC := hid (rest_count e (c - 1))
        have hrb : -1 ≤ restE e (c - 1) ∧ restE e (c - 1) ≤ c - 1 := by
          by_cases hc3 : 0 ≤ c - 1
          · exact rest_bounds e (c - 1) hc3
          · rcases e with ⟨q1, q2, q3, q4, q5, q6, q7, q8⟩
            rw [restE_mk, if_pos (.inr (.inr (by omega)))]
            omega
        obtain ⟨re, hre⟩ : ∃ re, restE e (c - 1) = re := ⟨_, rfl⟩
        rw [hre] at h12 hrb HRC
        clear hre
        rw [hee] at h12
        simp only [Ex.val, Ex.cells] at h12
        go_wp2_with (go_at_call 16; refine h12.mono ?_; rintro r w2 ⟨rfl, bb2⟩)
        have hz2 := bb2.size
        clear c0 c1 c2 c3 c4 c5 c6 c7 c8 c9 h12
        go_loopw [1, 6] (fun v i wr => ∃ (m : Nat) (d : Int), m ≤ blocks.length ∧ v = .int .i64 d ∧ i = .int .i64 m ∧ -1 ≤ d ∧ d ≤ n ∧ Hid (0 ≤ d → (((body.take j).map St.tot).sum : Int) + (1 + (e.subs.length : Int)) + (((blocks.take m).map Bl.sz).sum : Int) ≤ n - d) ∧ Below wo.heap.size wo wr)
          (fun _ i _ => blocks.length - (intOf i).toNat)
        case atStart =>
          refine ⟨0, re, by omega, rfl, rfl, by omega, by omega, fun h => ?_, bb2⟩
          have h1 := HRC.out h
          have h2 := HA.out hcp
          simp only [List.take_zero, List.map_nil, List.sum_nil]
          omega
        case round =>
          obtain ⟨m, d', hm, rfl, rfl, hd0, hd1, HM, hbm⟩ := hrel
          have hzm := hbm.size
          have c10' : wr.cell? ⟨b, off + j * 12 + 10, none⟩ = some (.slice ad' blocks.length cap') := (hbm.cell (p := ⟨b, off + j * 12 + 10, none⟩) hbn2).trans c10
          have hbn4 : b < wr.heap.size := by omega
          by_cases hlt2 : m < blocks.length
          · by_cases hdp : 0 ≤ d'
            · rcases hIs.2.2.1.2.2 with h | ⟨b3, off3, rfl, hbn3, hrow3⟩
              · subst h; simp at hlt2
              have hB3 : Below n₀ wo wr := hbm.mono (by omega)
              have hr3 := hrow3.below hB3 hbn3
              have hb3l : b3 < wr.heap.size := by omega
              have hq := hih blocks[m] (List.getElem_mem hlt2) (d' - 1) wr (by omega) (by omega) (by omega) ((hIs.2.2.2 _ (List.getElem_mem hlt2)).below hB3)
              have HS2 := hid (sum_snoc Bl.sz blocks m hlt2)
              obtain ⟨bz, hbz⟩ : ∃ bz, blocks[m].sz = bz := ⟨_, rfl⟩
              rw [hbz] at hq HS2
              clear hbz
              rcases he2 : blocks[m] with ⟨bad, bcap, bbody⟩
              have d0 := row1 hr3 m hlt2 (by rw [he2]; rfl)
              simp only [he2, Bl.slice] at hq d0
              clear he2
              go_wp2_with (go_at_call 7; refine hq.mono ?_; rintro r w5 ⟨c5, rfl, hy0, hy1, HZ, bb5⟩)
              go_roundw
              case rel =>
                refine ⟨m + 1, c5, by omega, rfl, by go_num, by omega, by omega, fun h => ?_, hbm.tr le_rfl' bb5⟩
                have h1 := HZ.out h
                have h2 := HM.out hdp
                rw [HS2.out]
                omega
              case measure => simp [intOf]; omega
            · have hdd : decide (0 ≤ d') = false := by simp; omega
              go_wp2
              go_roundw
              case rel => exact ⟨j + 1, d', by omega, rfl, by go_num, by omega, by omega, fun h => by have h' : 0 ≤ d' := h; omega, hbw.tr le_rfl' hbm⟩
              case measure => simp [intOf]; omega
          · have hmb : m = blocks.length := by omega
            have hmd : decide ((m : Int) < (blocks.length : Int)) = false := by simp; omega
            go_wp2
            go_roundw
            case rel =>
              refine ⟨j + 1, d', by omega, rfl, by go_num, by omega, by omega, fun h => ?_, hbw.tr le_rfl' hbm⟩
              have h2 := HM.out h
              have h3 := HT.out
              rw [hmb, List.take_length] at h2
              rw [HS.out]
              by_cases hno : e.none = true
              · rw [if_pos hno] at h3; omega
              · rw [if_neg hno] at h3; omega
            case measure => simp [intOf]; omega
      · have hcd : decide (0 ≤ c) = false := by simp; omega
        go_wp2
        go_ret
        exact ⟨c, rfl, by omega, by omega, fun h => by have h' : 0 ≤ c := h; omega, hbw⟩
    · have hjb : j = body.length := by omega
      have hjd : decide ((j : Int) < (body.length : Int)) = false := by simp; omega
      go_wp2
      go_ret
      refine ⟨c, rfl, by omega, by omega, fun h => ?_, hbw⟩
      have h1 := HA.out h
      rw [hjb, List.take_length] at h1
      rw [HR.out]
      exact h1
theorem rest_any (n₀ : Nat) (b : Bl) : ∀ (n : Int) (w : World), -1 ≤ n → n ≤ 1000 → n₀ ≤ w.heap.size → b.Is n₀ w → Calls Tryd.prog 7 #[b.slice, .int .i64 n] w fun r w' => ∃ c : Int, r = .returned (.int .i64 c) ∧ -1 ≤ c ∧ c ≤ n ∧ Hid (0 ≤ c → (b.sz : Int) ≤ n - c) ∧ Below w.heap.size w w' :=
  Bl.ind (P := fun s => ∀ b ∈ s.blocks, ∀ (n : Int) (w : World), -1 ≤ n → n ≤ 1000 → n₀ ≤ w.heap.size → b.Is n₀ w → Calls Tryd.prog 7 #[b.slice, .int .i64 n] w fun r w' => ∃ c : Int, r = .returned (.int .i64 c) ∧ -1 ≤ c ∧ c ≤ n ∧ Hid (0 ≤ c → (b.sz : Int) ≤ n - c) ∧ Below w.heap.size w w')
    (Q := fun b => ∀ (n : Int) (w : World), -1 ≤ n → n ≤ 1000 → n₀ ≤ w.heap.size → b.Is n₀ w → Calls Tryd.prog 7 #[b.slice, .int .i64 n] w fun r w' => ∃ c : Int, r = .returned (.int .i64 c) ∧ -1 ≤ c ∧ c ≤ n ∧ Hid (0 ≤ c → (b.sz : Int) ≤ n - c) ∧ Below w.heap.size w w')
    (fun _ _ _ _ _ _ _ _ _ ih b hb => ih b hb) (fun ad cap body ih n w h1 h2 h3 h4 => rest_step n₀ ad cap body ih n w h1 h2 h3 h4) b
end Go.Proofs.YtfkabkbnfeiggaaDoor
