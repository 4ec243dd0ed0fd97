/-
  The document's ExprSize, StmtsSize and Size.
-/
import Derived.Test.YtjgomkkmmhkpdaaDoorSmA
import Derived.Test.YtjgomkkmmhkpdaaDoorIeA
namespace Go.Proofs.YtjgomkkmmhkpdaaDoor
open Go.RowKit
theorem sum_take_le {α : Type} (f : α → Nat) (l : List α) (k : Nat) : ((l.take k).map f).sum ≤ (l.map f).sum := by
  induction l generalizing k with
  | nil => simp
  | cons a r ih => cases k with
    | zero => simp
    | succ k => have := ih k; simp only [List.take_succ_cons, List.map_cons, List.sum_cons]; omega
def Ex.cnt (e : Ex) : Nat := e.subs.length
theorem Ex.cnt_mk (op : Int) (mon name : ByteArray) (n : Int) (ad : Option Addr) (cap : Nat) (kids : List Ex) (pos : Int) : (Ex.mk op mon name n ad cap kids pos).cnt = 1 + (kids.map Ex.cnt).sum := by
  rw [Ex.cnt, Ex.subs_mk, Ex.subsL_eq, List.length_cons, List.length_flatMap, Nat.add_comm]
  rfl
set_option maxRecDepth 100000 in
set_option maxHeartbeats 4000000 in
theorem exprSize_any (n₀ : Nat) (e : Ex) : ∀ (w : World), n₀ ≤ w.heap.size → e.Is n₀ w → e.cnt ≤ 100000 →
    Calls Tryd.prog 68 #[e.val] w fun r w' => r = .returned (.int .i64 (e.cnt : Int)) ∧ Below w.heap.size w w' := by
  induction e using Ex.ind with
  | h op mon name n ad cap kids pos ih =>
    intro w hn he hc
    have HR := hid (Ex.cnt_mk op mon name n ad cap kids pos)
    have hc2 : 1 + (kids.map Ex.cnt).sum ≤ 100000 := by rw [← HR.out]; exact hc
    obtain ⟨tot, htot⟩ : ∃ tot, (Ex.mk op mon name n ad cap kids pos).cnt = tot := ⟨_, rfl⟩
    rw [htot] at HR ⊢
    clear htot hc
    have hd := he.down
    have hl1 := hd.2.1.1; have hl2 := hd.2.1.2.1
    unfold maxLen at hl2
    simp only [Ex.val, Ex.cells]
    go_enter Tryd.func68, Tryd.ntmps68
    go_wp2
    go_loopw [3, 4] (fun v i wr => ∃ j : Nat, j ≤ kids.length ∧ i = .int .i64 j ∧ v = .int .i64 (1 + (((kids.take j).map Ex.cnt).sum : Nat) : Int) ∧ Below (w.heap.size + 1) (w.alloc (.cells #[.int .i64 op, .string mon, .string name, .int .i64 n, .slice ad kids.length cap, .int .i64 pos] 33)) wr)
      (fun _ i _ => kids.length - (intOf i).toNat)
    case atStart => exact ⟨0, by omega, rfl, by simp, Below.refl _ _⟩
    case round =>
      obtain ⟨j, hj, rfl, rfl, hbw⟩ := hrel
      have hb0 : Below n₀ w wr := ((Below.refl n₀ w).al hn _).trans (hbw.mono (by omega))
      have hbF : Below w.heap.size w wr := ((Below.refl _ w).al le_rfl' _).trans (hbw.mono (by omega))
      have hz := hbw.size
      simp at hz
      have bx := cell_of' ((hbw.block w.heap.size (by omega)).trans (World.alloc_heap_new w _)) 4
      simp at bx
      by_cases hlt : j < kids.length
      · rcases hd.2.1.2.2 with h | ⟨b, off, rfl, hbn, hrow⟩
        · subst h; simp at hlt
        have hbn2 : b < wr.heap.size := by omega
        have hr := hrow.below hb0 hbn
        have hs1 := sum_snoc Ex.cnt kids j hlt
        have hs2 := sum_take_le Ex.cnt kids (j + 1)
        rw [hs1] at hs2
        have hq := ih _ (List.getElem_mem hlt) wr (by omega) ((hd.2.2 _ (List.getElem_mem hlt)).below hb0) (by omega)
        obtain ⟨q, hqq⟩ : ∃ q, kids[j].cnt = q := ⟨_, rfl⟩
        rw [hqq] at hq hs1 hs2
        clear hqq ih
        obtain ⟨S, hS⟩ : ∃ S, ((kids.take j).map Ex.cnt).sum = S := ⟨_, rfl⟩
        rw [hS] at hs1 hs2 ⊢
        clear hS
        have HS1 := hid hs1
        clear hs1
        have hb1 : S + q ≤ 100000 := by omega
        have i1 : 0 ≤ (S : Int) ∧ (S : Int) ≤ 100000 := by omega
        have i2 : 0 ≤ (q : Int) ∧ (q : Int) ≤ 100000 := by omega
        rcases he' : kids[j] with ⟨op', mon', name', n', ad', cp', kids', pos'⟩
        obtain ⟨c0, c1, c2, c3, c4, c5⟩ := row6 hr j hlt (by rw [he']; rfl)
        simp only [he', Ex.val, Ex.cells] at hq
        clear he'
        go_wp2_with (go_at_call 68; refine hq.mono ?_; rintro r w1 ⟨rfl, hb1⟩)
        go_roundw
        case rel => exact ⟨j + 1, by omega, by go_num, by rw [HS1.out]; congr 1; omega, hbw.tr (by simp) hb1⟩
        case measure => simp [intOf]; omega
      · have hjd : decide ((j : Int) < (kids.length : Int)) = false := by simp; omega
        go_wp2
        go_ret
        refine ⟨ret_i64 ?_, hbF⟩
        rw [HR.out, List.take_of_length_le (by omega)]
        omega
set_option maxRecDepth 100000 in
set_option maxHeartbeats 8000000 in
theorem stmtsSize_step (n₀ : Nat) (ad : Option Addr) (cap : Nat) (body : List St)
    (ih : ∀ s ∈ body, ∀ b ∈ s.blocks, ∀ w : World, n₀ ≤ w.heap.size → b.Is n₀ w → b.sz ≤ 100000 → Calls Tryd.prog 48 #[b.slice] w fun r w' => r = .returned (.int .i64 (b.sz : Int)) ∧ Below w.heap.size w w')
    (w : World) (hn : n₀ ≤ w.heap.size) (hI : (Bl.mk ad cap body).Is n₀ w) (hbig : (Bl.mk ad cap body).sz ≤ 100000) :
    Calls Tryd.prog 48 #[.slice ad body.length cap] w fun r w' => r = .returned (.int .i64 ((Bl.mk ad cap body).sz : Int)) ∧ Below w.heap.size w w' := by
  have HR := hid (Bl.sz_mk ad cap body)
  have hc2 : (body.map St.tot).sum ≤ 100000 := by rw [← HR.out]; exact hbig
  obtain ⟨tot, htot⟩ : ∃ tot, (Bl.mk ad cap body).sz = tot := ⟨_, rfl⟩
  rw [htot] at HR ⊢
  clear htot hbig
  have hd := hI.down
  have hl1 := hd.1.1; have hl2 := hd.1.2.1
  unfold maxLen at hl2
  go_enter Tryd.func48, Tryd.ntmps48
  go_wp2
  go_loopw [3, 4] (fun v i wr => ∃ j : Nat, j ≤ body.length ∧ i = .int .i64 j ∧ v = .int .i64 ((((body.take j).map St.tot).sum : Nat) : Int) ∧ Below w.heap.size w wr)
    (fun _ i _ => body.length - (intOf i).toNat)
  case atStart => exact ⟨0, by omega, rfl, by simp, Below.refl _ _⟩
  case round =>
    obtain ⟨wo, hwo⟩ : ∃ wo : World, wo = wr := ⟨_, rfl⟩
    subst hwo
    obtain ⟨j, hj, rfl, rfl, hbw⟩ := hrel
    have hz := hbw.size
    by_cases hlt : j < body.length
    · rcases hd.1.2.2 with h | ⟨b, off, rfl, hbn, hrow⟩
      · subst h; simp at hlt
      have hb0 := hbw.mono hn
      have hbn2 : b < wo.heap.size := by omega
      have hr := hrow.below hb0 hbn
      have hIj := (hd.2 _ (List.getElem_mem hlt)).below hb0
      have hih := ih _ (List.getElem_mem hlt)
      have hs1 := sum_snoc St.tot body j hlt
      have hs2 := sum_take_le St.tot body (j + 1)
      rw [hs1] at hs2
      clear ih
      rcases he' : body[j] with ⟨kind, mon, name, k, e, ad', cap', blocks, pos⟩
      rcases hee : e with ⟨eop, emon, ename, en, ead, ecap, ekids, epos⟩
      obtain ⟨c0, c1, c2, c3, c4, c5, c6, c7, c8, c9, c10, c11⟩ := row12 hr j hlt (by rw [he', hee]; rfl)
      rw [he'] at hIj hih hs1 hs2
      have hIs := hIj.down
      have hlb1 := hIs.2.2.1.1; have hlb2 := hIs.2.2.1.2.1
      unfold maxLen at hlb2
      clear he' hIj
      have hih : ∀ b ∈ blocks, ∀ w : World, n₀ ≤ w.heap.size → b.Is n₀ w → b.sz ≤ 100000 → Calls Tryd.prog 48 #[b.slice] w fun r w' => r = .returned (.int .i64 (b.sz : Int)) ∧ Below w.heap.size w w' := hih
      rw [St.tot_mk] at hs1 hs2
      obtain ⟨S, hS⟩ : ∃ S, ((body.take j).map St.tot).sum = S := ⟨_, rfl⟩
      rw [hS] at hs1 hs2 ⊢
      clear hS
      have HS1 := hid hs1
      clear hs1
      have i1 : 0 ≤ (S : Int) ∧ (S : Int) ≤ 100000 := by omega
      have h60 := empty_any n₀ e wo hIs.2.1
      have loop : ∀ (X : Nat), True := fun _ => trivial
      obtain ⟨ez, hez⟩ : ∃ ez, e.none = ez := ⟨_, rfl⟩
      rw [hez] at h60 HS1 hs2
      clear hez loop
      cases ez
      · rw [if_neg (by simp)] at hs2
        have hs1 := HS1.out
        rw [if_neg (by simp)] at hs1
        clear HS1
        have HS1 := hid hs1
        clear hs1
        have h68 := fun W (hW : Below wo.heap.size wo W) => exprSize_any n₀ e W (by have := hW.size; omega) (hIs.2.1.below (hW.mono (by omega))) (by show e.subs.length ≤ 100000; omega)
        obtain ⟨q, hq⟩ : ∃ q, e.subs.length = q := ⟨_, rfl⟩
        have hcq : e.cnt = q := hq
        rw [hq] at HS1 hs2
        simp only [hcq] at h68
        clear hq hcq
        have i2 : 0 ≤ (q : Int) ∧ (q : Int) ≤ 100000 := by omega
        have i3 : S + 1 + q ≤ 100000 := by omega
        rw [hee] at h60
        simp only [hee] at h68
        simp only [Ex.val, Ex.cells] at h60 h68
        go_wp2_with (first | (go_at_call 60; refine h60.mono ?_; rintro r w1 ⟨rfl, bb1⟩; obtain ⟨hcc, hff⟩ := bcell bb1) | (go_at_call 68; refine (h68 _ bb1).mono ?_; rintro r w2 ⟨rfl, bb2⟩))
        obtain ⟨A, hA⟩ : ∃ A : Nat, S + 1 + q = A := ⟨_, rfl⟩
        have HAA := hid hA
        have i4 : A + (blocks.map Bl.sz).sum ≤ 100000 := by omega
        clear hA
        have BW : Below wo.heap.size wo w2 := bb1.tr le_rfl' bb2
        go_loopw [3, 5] (fun v i wr => ∃ m : Nat, m ≤ blocks.length ∧ i = .int .i64 m ∧ v = .int .i64 ((A + ((blocks.take m).map Bl.sz).sum : Nat) : Int) ∧ Below wo.heap.size wo wr)
          (fun _ i _ => blocks.length - (intOf i).toNat)
        case atStart => exact ⟨0, by omega, rfl, by have := HAA.out; congr 1; simp; omega, BW⟩
        case round =>
          obtain ⟨m, hm, rfl, rfl, hbm⟩ := hrel
          have hzm := hbm.size
          have c10' : wr.cell? ⟨b, off + j * 12 + 10, none⟩ = some (.slice ad' blocks.length cap') := (hbm.cell (p := ⟨b, off + j * 12 + 10, none⟩) hbn2).trans c10
          have hbn4 : b < wr.heap.size := by omega
          by_cases hlt2 : m < blocks.length
          · rcases hIs.2.2.1.2.2 with h | ⟨b3, off3, rfl, hbn3, hrow3⟩
            · subst h; simp at hlt2
            have hB3 : Below n₀ wo wr := hbm.mono (by omega)
            have hr3 := hrow3.below hB3 hbn3
            have hb3l : b3 < wr.heap.size := by omega
            have ht1 := sum_snoc Bl.sz blocks m hlt2
            have ht2 := sum_take_le Bl.sz blocks (m + 1)
            rw [ht1] at ht2
            have hq := hih blocks[m] (List.getElem_mem hlt2) wr (by omega) ((hIs.2.2.2 _ (List.getElem_mem hlt2)).below hB3) (by omega)
            obtain ⟨q2, hqq⟩ : ∃ q2, blocks[m].sz = q2 := ⟨_, rfl⟩
            obtain ⟨R, hR⟩ : ∃ R, ((blocks.take m).map Bl.sz).sum = R := ⟨_, rfl⟩
            rw [hqq] at hq ht1 ht2
            rw [hR] at ht1 ht2 ⊢
            have HT1 := hid ht1
            clear ht1 hqq hR
            have i5 : 0 ≤ ((A + R : Nat) : Int) ∧ ((A + R : Nat) : Int) ≤ 100000 := by omega
            have i6 : 0 ≤ (q2 : Int) ∧ (q2 : Int) ≤ 100000 := by omega
            obtain ⟨SR, hSR⟩ : ∃ SR, A + R = SR := ⟨_, rfl⟩
            rw [hSR] at i5 ⊢
            have HSR := hid hSR
            clear hSR
            have i7 : (SR : Int) + (q2 : Int) ≤ 200000 := by omega
            rcases he2 : blocks[m] with ⟨bad, bcap, bbody⟩
            have d0 := row1 hr3 m hlt2 (by rw [he2]; rfl)
            simp only [he2, Bl.slice] at hq d0
            clear he2
            go_wp2_with (go_at_call 48; refine hq.mono ?_; rintro r w5 ⟨rfl, bb5⟩)
            go_roundw
            case rel => exact ⟨m + 1, by omega, by go_num, by rw [HT1.out]; congr 1; have := HSR.out; omega, hbm.tr le_rfl' bb5⟩
            case measure => simp [intOf]; omega
          · have hmd : decide ((m : Int) < (blocks.length : Int)) = false := by simp; omega
            go_wp2
            go_roundw
            case rel => exact ⟨j + 1, by omega, by go_num, by rw [HS1.out, List.take_of_length_le (by omega)]; congr 1; have := HAA.out; omega, hbw.tr le_rfl' hbm⟩
            case measure => simp [intOf]; omega
      · rw [if_pos rfl] at hs2
        have hs1 := HS1.out
        rw [if_pos rfl] at hs1
        clear HS1
        have HS1 := hid hs1
        clear hs1
        have i3 : S + 1 ≤ 100000 := by omega
        rw [hee] at h60
        simp only [Ex.val, Ex.cells] at h60
        go_wp2_with (go_at_call 60; refine h60.mono ?_; rintro r w1 ⟨rfl, bb1⟩; obtain ⟨hcc, hff⟩ := bcell bb1)
        obtain ⟨A, hA⟩ : ∃ A : Nat, S + 1 = A := ⟨_, rfl⟩
        have HAA := hid hA
        have i4 : A + (blocks.map Bl.sz).sum ≤ 100000 := by omega
        clear hA
        have BW : Below wo.heap.size wo w1 := bb1
        go_loopw [3, 5] (fun v i wr => ∃ m : Nat, m ≤ blocks.length ∧ i = .int .i64 m ∧ v = .int .i64 ((A + ((blocks.take m).map Bl.sz).sum : Nat) : Int) ∧ Below wo.heap.size wo wr)
          (fun _ i _ => blocks.length - (intOf i).toNat)
        case atStart => exact ⟨0, by omega, rfl, by have := HAA.out; congr 1; simp; omega, BW⟩
        case round =>
          obtain ⟨m, hm, rfl, rfl, hbm⟩ := hrel
          have hzm := hbm.size
          have c10' : wr.cell? ⟨b, off + j * 12 + 10, none⟩ = some (.slice ad' blocks.length cap') := (hbm.cell (p := ⟨b, off + j * 12 + 10, none⟩) hbn2).trans c10
          have hbn4 : b < wr.heap.size := by omega
          by_cases hlt2 : m < blocks.length
          · rcases hIs.2.2.1.2.2 with h | ⟨b3, off3, rfl, hbn3, hrow3⟩
            · subst h; simp at hlt2
            have hB3 : Below n₀ wo wr := hbm.mono (by omega)
            have hr3 := hrow3.below hB3 hbn3
            have hb3l : b3 < wr.heap.size := by omega
            have ht1 := sum_snoc Bl.sz blocks m hlt2
            have ht2 := sum_take_le Bl.sz blocks (m + 1)
            rw [ht1] at ht2
            have hq := hih blocks[m] (List.getElem_mem hlt2) wr (by omega) ((hIs.2.2.2 _ (List.getElem_mem hlt2)).below hB3) (by omega)
            obtain ⟨q2, hqq⟩ : ∃ q2, blocks[m].sz = q2 := ⟨_, rfl⟩
            obtain ⟨R, hR⟩ : ∃ R, ((blocks.take m).map Bl.sz).sum = R := ⟨_, rfl⟩
            rw [hqq] at hq ht1 ht2
            rw [hR] at ht1 ht2 ⊢
            have HT1 := hid ht1
            clear ht1 hqq hR
            have i5 : 0 ≤ ((A + R : Nat) : Int) ∧ ((A + R : Nat) : Int) ≤ 100000 := by omega
            have i6 : 0 ≤ (q2 : Int) ∧ (q2 : Int) ≤ 100000 := by omega
            obtain ⟨SR, hSR⟩ : ∃ SR, A + R = SR := ⟨_, rfl⟩
            rw [hSR] at i5 ⊢
            have HSR := hid hSR
            clear hSR
            have i7 : (SR : Int) + (q2 : Int) ≤ 200000 := by omega
            rcases he2 : blocks[m] with ⟨bad, bcap, bbody⟩
            have d0 := row1 hr3 m hlt2 (by rw [he2]; rfl)
            simp only [he2, Bl.slice] at hq d0
            clear he2
            go_wp2_with (go_at_call 48; refine hq.mono ?_; rintro r w5 ⟨rfl, bb5⟩)
            go_roundw
            case rel => exact ⟨m + 1, by omega, by go_num, by rw [HT1.out]; congr 1; have := HSR.out; omega, hbm.tr le_rfl' bb5⟩
            case measure => simp [intOf]; omega
          · have hmd : decide ((m : Int) < (blocks.length : Int)) = false := by simp; omega
            go_wp2
            go_roundw
            case rel => exact ⟨j + 1, by omega, by go_num, by rw [HS1.out, List.take_of_length_le (by omega)]; congr 1; have := HAA.out; omega, hbw.tr le_rfl' hbm⟩
            case measure => simp [intOf]; omega
    · have hjd : decide ((j : Int) < (body.length : Int)) = false := by simp; omega
      go_wp2
      go_ret
      refine ⟨ret_i64 ?_, hbw⟩
      rw [HR.out, List.take_of_length_le (by omega)]
theorem stmtsSize_any (n₀ : Nat) (b : Bl) : ∀ w : World, n₀ ≤ w.heap.size → b.Is n₀ w → b.sz ≤ 100000 → Calls Tryd.prog 48 #[b.slice] w fun r w' => r = .returned (.int .i64 (b.sz : Int)) ∧ Below w.heap.size w w' :=
  Bl.ind (P := fun s => ∀ b ∈ s.blocks, ∀ w : World, n₀ ≤ w.heap.size → b.Is n₀ w → b.sz ≤ 100000 → Calls Tryd.prog 48 #[b.slice] w fun r w' => r = .returned (.int .i64 (b.sz : Int)) ∧ Below w.heap.size w w')
    (Q := fun b => ∀ w : World, n₀ ≤ w.heap.size → b.Is n₀ w → b.sz ≤ 100000 → Calls Tryd.prog 48 #[b.slice] w fun r w' => r = .returned (.int .i64 (b.sz : Int)) ∧ Below w.heap.size w w')
    (fun _ _ _ _ _ _ _ _ _ ih b hb => ih b hb) (fun ad cap body ih w h1 h2 h3 => stmtsSize_step n₀ ad cap body ih w h1 h2 h3) b
set_option maxRecDepth 100000 in
set_option maxHeartbeats 8000000 in
theorem refSize_any (n₀ : Nat) (p : Pr) (w : World) (hn : n₀ ≤ w.heap.size) (hp : p.Is n₀ w) (hbig : p.size ≤ 100000) :
    Calls Tryd.prog 25 #[p.val] w fun r w' => r = .returned (.int .i64 (p.size : Int)) ∧ Below w.heap.size w w' := by
  have HR0 := pr_size p
  obtain ⟨tot, htot⟩ : ∃ tot, p.size = tot := ⟨_, rfl⟩
  rw [htot] at HR0 hbig ⊢
  clear htot
  rcases p with ⟨mad, mcap, mons, rad, rcap, roles⟩
  obtain ⟨⟨hM1, hM2⟩, hR1, hR2⟩ := hp
  simp only at hM1 hM2 hR1 hR2 HR0
  have HR : Hid (tot = (mons.map Mo.msz).sum + (roles.map Ro.bsz).sum) := HR0
  have hbg : (mons.map Mo.msz).sum + (roles.map Ro.bsz).sum ≤ 100000 := by omega
  clear HR0 hbig
  have hl1 := hM1.1; have hl2 := hM1.2.1; have hl3 := hR1.1; have hl4 := hR1.2.1
  unfold maxLen at hl2 hl4
  simp only [Pr.val]
  go_enter Tryd.func25, Tryd.ntmps25
  go_wp2
  go_loopw [3, 4] (fun v i wr => ∃ j : Nat, j ≤ mons.length ∧ i = .int .i64 j ∧ v = .int .i64 ((((mons.take j).map Mo.msz).sum : Nat) : Int) ∧ Below (w.heap.size + 1) (w.alloc (.cells #[.slice mad mons.length mcap, .slice rad roles.length rcap] 25)) wr)
    (fun _ i _ => mons.length - (intOf i).toNat)
  case atStart => exact ⟨0, by omega, rfl, by simp, Below.refl _ _⟩
  case round =>
    obtain ⟨wo, hwo⟩ : ∃ wo : World, wo = wr := ⟨_, rfl⟩
    subst hwo
    obtain ⟨j, hj, rfl, rfl, hbw⟩ := hrel
    have hz := hbw.size
    simp at hz
    have hbF : Below w.heap.size w wo := ((Below.refl _ w).al le_rfl' _).trans (hbw.mono (by omega))
    have hb0 : Below n₀ w wo := hbF.mono hn
    have p0 : wo.cell? ⟨w.heap.size, 0, none⟩ = some (.slice mad mons.length mcap) := (hbw.cell (p := ⟨w.heap.size, 0, none⟩) (by simp)).trans (cell_of' (World.alloc_heap_new w _) 0)
    have p1 : wo.cell? ⟨w.heap.size, 1, none⟩ = some (.slice rad roles.length rcap) := (hbw.cell (p := ⟨w.heap.size, 1, none⟩) (by simp)).trans (cell_of' (World.alloc_heap_new w _) 1)
    have lw : w.heap.size < wo.heap.size := by omega
    by_cases hlt : j < mons.length
    · rcases hM1.2.2 with h | ⟨b, off, rfl, hbn, hrow⟩
      · subst h; simp at hlt
      have hbn2 : b < wo.heap.size := by omega
      have hr := hrow.below hb0 hbn
      have hIj := (hM2 _ (List.getElem_mem hlt)).below hb0
      have hs1 := sum_snoc Mo.msz mons j hlt
      have hs2 := sum_take_le Mo.msz mons (j + 1)
      rw [hs1] at hs2
      rcases he : mons[j] with ⟨mname, vad, vcap, vars, xad, xcap, meths, mpos⟩
      obtain ⟨c0, c1, c2, c3⟩ := row4 hr j hlt (by rw [he]; rfl)
      rw [he] at hIj hs1 hs2
      clear he
      obtain ⟨_, _, hI5, hI6⟩ := hIj
      simp only at hI5 hI6
      have hm1 := hI5.1; have hm2 := hI5.2.1
      unfold maxLen at hm2
      have hs3 : Mo.msz ⟨mname, vad, vcap, vars, xad, xcap, meths, mpos⟩ = (meths.map Me.bsz).sum := rfl
      rw [hs3] at hs1 hs2
      clear hs3
      obtain ⟨S, hS⟩ : ∃ S, ((mons.take j).map Mo.msz).sum = S := ⟨_, rfl⟩
      have hs2' : S + (meths.map Me.bsz).sum ≤ 100000 := by rw [hS] at hs2; omega
      have HS1 : Hid (((mons.take (j + 1)).map Mo.msz).sum = S + (meths.map Me.bsz).sum) := by
        show _ = _
        rw [← hS]; exact hs1
      rw [hS]
      clear hS hs1 hs2
      go_wp2
      go_loopw [3, 5] (fun v i wr => ∃ k2 : Nat, k2 ≤ meths.length ∧ i = .int .i64 k2 ∧ v = .int .i64 ((S + ((meths.take k2).map Me.bsz).sum : Nat) : Int) ∧ Below wo.heap.size wo wr)
        (fun _ i _ => meths.length - (intOf i).toNat)
      case atStart => exact ⟨0, by omega, rfl, by simp, Below.refl _ _⟩
      case round =>
        obtain ⟨k2, hk2, rfl, rfl, hbm⟩ := hrel
        have hzm := hbm.size
        have p0' : wr.cell? ⟨w.heap.size, 0, none⟩ = some (.slice (some ⟨b, off, none⟩) mons.length mcap) := (hbm.cell (p := ⟨w.heap.size, 0, none⟩) lw).trans p0
        have c2' : wr.cell? ⟨b, off + j * 4 + 2, none⟩ = some (.slice xad meths.length xcap) := (hbm.cell (p := ⟨b, off + j * 4 + 2, none⟩) hbn2).trans c2
        have lw2 : w.heap.size < wr.heap.size := by omega
        have hbn4 : b < wr.heap.size := by omega
        by_cases hltm : k2 < meths.length
        · rcases hI5.2.2 with h | ⟨b2, off2, rfl, hbn3, hrow2⟩
          · subst h; simp at hltm
          have hb2 : b2 < wr.heap.size := by omega
          have hr2 := hrow2.below (hbm.mono (by omega)) hbn3
          have hMI := (hI6 _ (List.getElem_mem hltm)).below (hbm.mono (by omega : n₀ ≤ wo.heap.size))
          have ht1 := sum_snoc Me.bsz meths k2 hltm
          have ht2 := sum_take_le Me.bsz meths (k2 + 1)
          rw [ht1] at ht2
          rcases he : meths[k2] with ⟨xn, xb, xp⟩
          rw [he] at ht1 ht2 hMI
          simp only [Me.bsz] at ht1 ht2
          have hq := stmtsSize_any n₀ xb wr (by omega) hMI.2.2 (by omega)
          obtain ⟨d0, d1, d2⟩ := row3 hr2 k2 hltm (by rw [he]; rfl)
          clear he hMI
          obtain ⟨q, hqq⟩ : ∃ q, xb.sz = q := ⟨_, rfl⟩
          obtain ⟨R, hR⟩ : ∃ R, ((meths.take k2).map Me.bsz).sum = R := ⟨_, rfl⟩
          have HT1 : Hid (((meths.take (k2 + 1)).map Me.bsz).sum = R + q) := by
            show _ = _
            rw [← hR, ← hqq]; exact ht1
          have ht3 : S + (R + q) ≤ 100000 := by
            rw [hqq, hR] at ht2
            omega
          rw [hqq] at hq
          rw [hR]
          clear ht1 ht2 hqq hR
          rcases xb with ⟨bad, bcap, bbody⟩
          simp only [Bl.slice] at hq d1
          have i1 : 0 ≤ ((S + R : Nat) : Int) ∧ ((S + R : Nat) : Int) ≤ 100000 := by omega
          have i2 : 0 ≤ (q : Int) ∧ (q : Int) ≤ 100000 := by omega
          obtain ⟨SR, hSR⟩ : ∃ SR, S + R = SR := ⟨_, rfl⟩
          rw [hSR] at i1 ⊢
          have HSR := hid hSR
          clear hSR
          have i3 : (SR : Int) + (q : Int) ≤ 200000 := by omega
          go_wp2_with (go_at_call 48; refine hq.mono ?_; rintro r w2 ⟨rfl, bb2⟩)
          go_roundw
          case rel => exact ⟨k2 + 1, by omega, by go_num, by rw [HT1.out]; congr 1; have := HSR.out; omega, hbm.tr le_rfl' bb2⟩
          case measure => simp [intOf]; omega
        · have hkd2 : decide ((k2 : Int) < (meths.length : Int)) = false := by simp; omega
          go_wp2
          go_roundw
          case rel => exact ⟨j + 1, by omega, by go_num, by rw [HS1.out, List.take_of_length_le (by omega)], hbw.tr (by simp) hbm⟩
          case measure => simp [intOf]; omega
    · have hjd : decide ((j : Int) < (mons.length : Int)) = false := by simp; omega
      have HE : Hid (((mons.take j).map Mo.msz).sum = (mons.map Mo.msz).sum) := by
        show _ = _
        rw [List.take_of_length_le (by omega)]
      rw [HE.out]
      obtain ⟨S, hS⟩ : ∃ S, (mons.map Mo.msz).sum = S := ⟨_, rfl⟩
      rw [hS] at hbg ⊢
      have HS := hid hS
      clear hS HE
      go_wp2
      go_loopw [3, 6] (fun v i wr => ∃ k2 : Nat, k2 ≤ roles.length ∧ i = .int .i64 k2 ∧ v = .int .i64 ((S + ((roles.take k2).map Ro.bsz).sum : Nat) : Int) ∧ Below wo.heap.size wo wr)
        (fun _ i _ => roles.length - (intOf i).toNat)
      case atStart => exact ⟨0, by omega, rfl, by simp, Below.refl _ _⟩
      case round =>
        obtain ⟨k2, hk2, rfl, rfl, hbm⟩ := hrel
        have hzm := hbm.size
        have p1' : wr.cell? ⟨w.heap.size, 1, none⟩ = some (.slice rad roles.length rcap) := (hbm.cell (p := ⟨w.heap.size, 1, none⟩) lw).trans p1
        have lw2 : w.heap.size < wr.heap.size := by omega
        have hbH := hbF.tr le_rfl' hbm
        by_cases hltm : k2 < roles.length
        · rcases hR1.2.2 with h | ⟨b2, off2, rfl, hbn3, hrow2⟩
          · subst h; simp at hltm
          have hb2 : b2 < wr.heap.size := by omega
          have hr2 := hrow2.below (hbH.mono hn) hbn3
          have hMI := (hR2 _ (List.getElem_mem hltm)).below (hbH.mono hn)
          have ht1 := sum_snoc Ro.bsz roles k2 hltm
          have ht2 := sum_take_le Ro.bsz roles (k2 + 1)
          rw [ht1] at ht2
          rcases he : roles[k2] with ⟨xn, xs, xc, xb, xp⟩
          rw [he] at ht1 ht2 hMI
          simp only [Ro.bsz] at ht1 ht2
          have hq := stmtsSize_any n₀ xb wr (by omega) hMI.2.2.2 (by omega)
          obtain ⟨d0, d1, d2, d3, d4⟩ := row5 hr2 k2 hltm (by rw [he]; rfl)
          clear he hMI
          obtain ⟨q, hqq⟩ : ∃ q, xb.sz = q := ⟨_, rfl⟩
          obtain ⟨R, hR⟩ : ∃ R, ((roles.take k2).map Ro.bsz).sum = R := ⟨_, rfl⟩
          have HT1 : Hid (((roles.take (k2 + 1)).map Ro.bsz).sum = R + q) := by
            show _ = _
            rw [← hR, ← hqq]; exact ht1
          have ht3 : S + (R + q) ≤ 100000 := by
            rw [hqq, hR] at ht2
            omega
          rw [hqq] at hq
          rw [hR]
          clear ht1 ht2 hqq hR
          rcases xb with ⟨bad, bcap, bbody⟩
          simp only [Bl.slice] at hq d3
          have i1 : 0 ≤ ((S + R : Nat) : Int) ∧ ((S + R : Nat) : Int) ≤ 100000 := by omega
          have i2 : 0 ≤ (q : Int) ∧ (q : Int) ≤ 100000 := by omega
          obtain ⟨SR, hSR⟩ : ∃ SR, S + R = SR := ⟨_, rfl⟩
          rw [hSR] at i1 ⊢
          have HSR := hid hSR
          clear hSR
          have i3 : (SR : Int) + (q : Int) ≤ 200000 := by omega
          go_wp2_with (go_at_call 48; refine hq.mono ?_; rintro r w2 ⟨rfl, bb2⟩)
          go_roundw
          case rel => exact ⟨k2 + 1, by omega, by go_num, by rw [HT1.out]; congr 1; have := HSR.out; omega, hbm.tr le_rfl' bb2⟩
          case measure => simp [intOf]; omega
        · have hkd2 : decide ((k2 : Int) < (roles.length : Int)) = false := by simp; omega
          go_wp2
          go_ret
          refine ⟨ret_i64 ?_, hbH⟩
          rw [HR.out, HS.out, List.take_of_length_le (by omega)]
end Go.Proofs.YtjgomkkmmhkpdaaDoor
