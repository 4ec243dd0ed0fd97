/-
  nestProgram of package print: how many levels lie within one another in a program.
-/
import Derived.Test.YtnljhlmopjgogaaGreatDoorNsB
namespace Go.Proofs.YtnljhlmopjgogaaGreatDoor
open Go.RowKit Px
def Mo.nst (m : Mo) : Nat := max 1 (maxL (fun x : Me => x.body.nst 2) m.meths)
def Pr.nst (p : Pr) : Nat := max (maxL Mo.nst p.mons) (maxL (fun r : Ro => r.body.nst 1) p.roles)
theorem sum_flat {α β : Type} (f : β → Nat) (g : α → List β) (l : List α) (a : α) (h : a ∈ l) : ((g a).map f).sum ≤ ((l.flatMap g).map f).sum := by
  induction l with
  | nil => cases h
  | cons b l ih =>
    rw [List.flatMap_cons, List.map_append, List.sum_append_nat]
    rcases List.mem_cons.1 h with rfl | h
    · omega
    · have := ih h; omega
theorem meth_sz {p : Pr} {m : Mo} {x : Me} (hm : m ∈ p.mons) (hx : x ∈ m.meths) : x.body.sz ≤ p.size := by
  have h1 := sum_flat St.sz (fun x : Me => x.body.subs) m.meths x hx
  have h2 := sum_flat St.sz (fun m : Mo => m.meths.flatMap fun x => x.body.subs) p.mons m hm
  unfold Pr.size Pr.stmts Bl.sz
  rw [List.map_append, List.sum_append_nat]
  omega
theorem role_sz {p : Pr} {r : Ro} (hr : r ∈ p.roles) : r.body.sz ≤ p.size := by
  have h1 := sum_flat St.sz (fun r : Ro => r.body.subs) p.roles r hr
  unfold Pr.size Pr.stmts Bl.sz
  rw [List.map_append, List.sum_append_nat]
  omega
set_option maxRecDepth 100000 in
set_option maxHeartbeats 2000000 in
theorem nestProgram_any (p : Pr) (n₀ m : Nat) (w : World) (hn : n₀ ≤ w.heap.size) (hI : p.Is n₀ w) (hs : SignsAt w m) (hsz : p.size ≤ 100000) :
    Calls Tryz.prog 17 #[.map (some m), p.val] w fun r w' => r = .returned (.int .i64 ((p.nst : Nat) : Int)) ∧ Below w.heap.size w w' := by
  have hml := hs.lt
  have hms := fun x (hx : x ∈ p.mons) y (hy : y ∈ x.meths) => meth_sz hx hy
  have hrs := fun x (hx : x ∈ p.roles) => role_sz hx
  rcases hp : p with ⟨mad, mcap, mons, rad, rcap, roles⟩
  rw [hp] at hI hms hrs hsz
  have HSZ := hid hsz
  have HN : Hid ((Pr.mk mad mcap mons rad rcap roles).nst = max (maxL Mo.nst mons) (maxL (fun r : Ro => r.body.nst 1) roles)) := rfl
  have hsl := hI.1.1
  have hsr := hI.2.1
  have hl1 := hsl.1; have hl2 := hsl.2.1; have hl3 := hsr.1; have hl4 := hsr.2.1
  unfold maxLen at hl2 hl4
  simp only at hms hrs hl1 hl3
  simp only [Pr.val]
  have hB0 : Below w.heap.size w (w.alloc (.cells #[.slice mad mons.length mcap, .slice rad roles.length rcap] 25)) := (Below.refl _ w).al le_rfl' _
  have bP : (w.alloc (.cells #[.slice mad mons.length mcap, .slice rad roles.length rcap] 25)).heap[w.heap.size]? = some (.cells #[.slice mad mons.length mcap, .slice rad roles.length rcap] 25 (0, 0)) := heap_alloc_new w _
  have hz0 : (w.alloc (.cells #[.slice mad mons.length mcap, .slice rad roles.length rcap] 25)).heap.size = w.heap.size + 1 := by simp
  have HZ0 := hid hz0
  clear hp hz0 hsz
  go_enter Tryz.func17, Tryz.ntmps17
  go_wp2
  obtain ⟨W0, hW0⟩ : ∃ W0, w.alloc (.cells #[.slice mad mons.length mcap, .slice rad roles.length rcap] 25) = W0 := ⟨_, rfl⟩
  rw [hW0] at hB0 bP HZ0 ⊢
  clear hW0
  have hs0 := hs.below hB0 hml
  go_loopw [5, 15] (fun v i wr => ∃ (k a : Nat), k ≤ mons.length ∧ v = .int .i64 (a : Int) ∧ i = .int .i64 (k : Int) ∧ Hid (a = maxL Mo.nst (mons.take k)) ∧ a ≤ 4000000 ∧ Below W0.heap.size W0 wr) (fun _ i _ => mons.length - (intOf i).toNat)
  case atStart => exact ⟨0, 0, by omega, rfl, rfl, by simp [Hid, maxL], by omega, Below.refl _ _⟩
  case round =>
    obtain ⟨k, a, hk, rfl, rfl, HA, ha, hbw⟩ := hrel
    have hzw := hbw.size
    have hzz := HZ0.out
    obtain ⟨wo, hwo⟩ : ∃ wo : World, wo = wr := ⟨_, rfl⟩
    subst hwo
    have hbN : Below n₀ w wo := (hB0.trans (hbw.mono (by omega))).mono hn
    have hn1 : n₀ ≤ wo.heap.size := by omega
    have hm1 : m < wo.heap.size := by omega
    have hm2 : m < W0.heap.size := by omega
    have hw1 : w.heap.size < wo.heap.size := by omega
    have hw2 : w.heap.size ≤ W0.heap.size := by omega
    by_cases hlt : k < mons.length
    · rcases hsl.2.2 with h | ⟨b, off, rfl, hbn, hrow⟩
      · subst h; simp at hlt
      have hr := hrow.below hbN hbn
      have hbl : b < wo.heap.size := by omega
      have HS := hid (maxL_snoc Mo.nst mons k hlt)
      have hIm := (hI.1.2 _ (List.getElem_mem hlt)).below hbN
      have hmk := hms _ (List.getElem_mem hlt)
      rcases he' : mons[k] with ⟨mname, vad, vcap, vars, tad, tcap, meths, pos⟩
      rw [he'] at hIm hmk HS
      obtain ⟨c0, c1, c2, c3⟩ := row4 hr k hlt (by rw [he']; rfl)
      have HX : Hid ((Mo.mk mname vad vcap vars tad tcap meths pos).nst = max 1 (maxL (fun x : Me => x.body.nst 2) meths)) := rfl
      have hst := hIm.2.2.1
      have hlt1 := hst.1; have hlt2 := hst.2.1
      unfold maxLen at hlt2
      simp only at hlt1 hlt2 hmk
      clear he' hzz
      go_wp2
      have hB1 : Below wo.heap.size wo (wo.alloc (.cells #[.string mname, .slice vad vars.length vcap, .slice tad meths.length tcap, .int .i64 pos] 39)) := (Below.refl _ _).al le_rfl' _
      obtain ⟨W1, hW1⟩ : ∃ W1, wo.alloc (.cells #[.string mname, .slice vad vars.length vcap, .slice tad meths.length tcap, .int .i64 pos] 39) = W1 := ⟨_, rfl⟩
      rw [hW1] at hB1 ⊢
      clear hW1 c0 c1 c2 c3
      have hz1 := hB1.size
      go_loopw [5, 24] (fun v i wr => ∃ (j d : Nat), j ≤ meths.length ∧ v = .int .i64 (d : Int) ∧ i = .int .i64 (j : Int) ∧ Hid (d = max a (max 1 (maxL (fun x : Me => x.body.nst 2) (meths.take j)))) ∧ d ≤ 4000000 ∧ Below W1.heap.size W1 wr) (fun _ i _ => meths.length - (intOf i).toNat)
      case atStart => exact ⟨0, max a 1, by omega, by congr 1; omega, rfl, by simp [Hid, maxL], by omega, Below.refl _ _⟩
      case round =>
        obtain ⟨j, d, hj, rfl, rfl, HD, hd, hbj⟩ := hrel
        have hzj := hbj.size
        have hbj0 : Below wo.heap.size wo wr := hB1.trans (hbj.mono hz1)
        by_cases hlt3 : j < meths.length
        · rcases hst.2.2 with h | ⟨b3, off3, rfl, hbn3, hrow3⟩
          · subst h; simp at hlt3
          have hr3 := hrow3.below (hbj0.mono (by omega)) hbn3
          have hb3l : b3 < wr.heap.size := by omega
          have hszj := hmk _ (List.getElem_mem hlt3)
          have hnl := blnst_le meths[j].body 2
          have hIx := (hIm.2.2.2 _ (List.getElem_mem hlt3)).below (hbj0.mono (by omega))
          have HS2 := hid (maxL_snoc (fun x : Me => x.body.nst 2) meths j hlt3)
          rcases he2 : meths[j] with ⟨xname, xbody, xpos⟩
          rw [he2] at HS2 hIx hnl hszj
          simp only at HS2 hnl hszj
          have hq := fun W (h : Below wr.heap.size wr W) => nestBlock_any xbody n₀ m 2 W (by have := h.size; omega) (hIx.2.2.below (h.mono (by omega))) ((((hs0.below hbw (by omega)).below hbj0 (by omega)).below h (by omega))) (by have := HSZ.out; omega)
          obtain ⟨z, hz⟩ : ∃ z, xbody.nst 2 = z := ⟨_, rfl⟩
          have hzb : z ≤ 4000000 := by have := HSZ.out; omega
          rw [hz] at HS2
          simp only [hz] at hq
          rcases xbody with ⟨bad, bcap, bbody⟩
          obtain ⟨d0, d1, d2⟩ := row3 hr3 j hlt3 (by rw [he2]; rfl)
          simp only [Bl.slice] at hq d1
          clear he2 hz hnl
          have hq1 := hq (wr.alloc (.cells #[.string xname, .slice bad bbody.length bcap, .int .i64 xpos] 44)) ((Below.refl _ _).al le_rfl' _)
          clear hq
          go_wp2_with (go_at_call 33; refine hq1.mono ?_; rintro r w5 ⟨rfl, bb5⟩)
          go_roundw
          case rel =>
            refine ⟨j + 1, max d z, by omega, by congr 1; omega, by go_num, ?_, by omega, (hbj.al le_rfl' _).tr le_rfl' bb5⟩
            show _ = _
            rw [HS2.out, HD.out]; omega
          case measure => simp [intOf]; omega
        · have hmb : j = meths.length := by omega
          have hmd : decide ((j : Int) < (meths.length : Int)) = false := by simp; omega
          go_wp2
          go_roundw
          case rel =>
            refine ⟨k + 1, d, by omega, rfl, by go_num, ?_, hd, hbw.tr le_rfl' hbj0⟩
            show _ = _
            rw [HS.out, HX.out, HD.out, HA.out, hmb, List.take_length]
          case measure => simp [intOf]; omega
    · have hkb : k = mons.length := by omega
      have hkd : decide ((k : Int) < (mons.length : Int)) = false := by simp; omega
      have HA2 : Hid (a = maxL Mo.nst mons) := by show _ = _; rw [HA.out, hkb, List.take_length]
      have bP1 := (hbw.block _ (by omega)).trans bP
      have p1 : wo.cell? ⟨w.heap.size, 1, none⟩ = some (.slice rad roles.length rcap) := cell_of' bP1 1
      clear HA hkb hzz
      go_wp2
      go_loopw [5, 39] (fun v i wr => ∃ (j d : Nat), j ≤ roles.length ∧ v = .int .i64 (d : Int) ∧ i = .int .i64 (j : Int) ∧ Hid (d = max a (maxL (fun r : Ro => r.body.nst 1) (roles.take j))) ∧ d ≤ 4000000 ∧ Below wo.heap.size wo wr) (fun _ i _ => roles.length - (intOf i).toNat)
      case atStart => exact ⟨0, a, by omega, rfl, rfl, by simp [Hid, maxL], by omega, Below.refl _ _⟩
      case round =>
        obtain ⟨j, d, hj, rfl, rfl, HD, hd, hbj⟩ := hrel
        have hzj := hbj.size
        have hzz := HZ0.out
        have hbj0 : Below n₀ w wr := hbN.trans (hbj.mono (by omega))
        by_cases hlt3 : j < roles.length
        · rcases hsr.2.2 with h | ⟨b3, off3, rfl, hbn3, hrow3⟩
          · subst h; simp at hlt3
          have hr3 := hrow3.below hbj0 hbn3
          have hb3l : b3 < wr.heap.size := by omega
          have hszj := hrs _ (List.getElem_mem hlt3)
          have hnl := blnst_le roles[j].body 1
          have hIx := (hI.2.2 _ (List.getElem_mem hlt3)).below hbj0
          have HS2 := hid (maxL_snoc (fun x : Ro => x.body.nst 1) roles j hlt3)
          rcases he2 : roles[j] with ⟨xname, xstar, xcount, xbody, xpos⟩
          rw [he2] at HS2 hIx hnl hszj
          simp only at HS2 hnl hszj
          have hq := fun W (h : Below wr.heap.size wr W) => nestBlock_any xbody n₀ m 1 W (by have := h.size; omega) (hIx.2.2.2.below (h.mono (by omega))) ((((hs0.below hbw (by omega)).below hbj (by omega)).below h (by omega))) (by have := HSZ.out; omega)
          obtain ⟨z, hz⟩ : ∃ z, xbody.nst 1 = z := ⟨_, rfl⟩
          have hzb : z ≤ 4000000 := by have := HSZ.out; omega
          rw [hz] at HS2
          simp only [hz] at hq
          rcases xbody with ⟨bad, bcap, bbody⟩
          obtain ⟨d0, d1, d2, d3, d4⟩ := row5 hr3 j hlt3 (by rw [he2]; rfl)
          simp only [Bl.slice] at hq d3
          clear he2 hz hnl hzz
          have hq1 := hq (wr.alloc (.cells #[.string xname, .bool xstar, .int .i64 xcount, .slice bad bbody.length bcap, .int .i64 xpos] 47)) ((Below.refl _ _).al le_rfl' _)
          clear hq
          go_wp2_with (go_at_call 33; refine hq1.mono ?_; rintro r w5 ⟨rfl, bb5⟩)
          go_roundw
          case rel =>
            refine ⟨j + 1, max d z, by omega, by congr 1; omega, by go_num, ?_, by omega, (hbj.al le_rfl' _).tr le_rfl' bb5⟩
            show _ = _
            rw [HS2.out, HD.out]; omega
          case measure => simp [intOf]; omega
        · have hmb : j = roles.length := by omega
          have hmd : decide ((j : Int) < (roles.length : Int)) = false := by simp; omega
          clear hzz
          go_wp2
          go_ret
          refine ⟨?_, ?_⟩
          · rw [HN.out, ← HA2.out, ← List.take_length (l := roles), ← hmb, ← HD.out]
            rfl
          · exact hB0.trans (((hbw.mono (by have := HZ0.out; omega)).trans (hbj.mono (by have := HZ0.out; omega))))
end Go.Proofs.YtnljhlmopjgogaaGreatDoor
