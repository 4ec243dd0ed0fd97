/-
  FlowGuards: its walk.
-/
import Derived.Test.YtbmbchdjjfmafaaGreatDoorQbx
import Derived.Deep.DeepCutAuto
import Derived.Deep.RegionHeld3
namespace Go.Proofs.YtbmbchdjjfmafaaGreatDoor
open Go.RowKit
theorem cells15g {w : World} {k : Nat} {a0 a1 a2 a3 a4 a5 a6 a7 a8 a9 a10 a11 a12 a13 a14 : Value} {T : TypeId} (h : w.heap[k]? = some (.cells #[a0, a1, a2, a3, a4, a5, a6, a7, a8, a9, a10, a11, a12, a13, a14] T (0, 0))) :
    w.cell? ⟨k, 0, none⟩ = some a0 ∧ w.cell? ⟨k, 1, none⟩ = some a1 ∧ w.cell? ⟨k, 2, none⟩ = some a2 ∧ w.cell? ⟨k, 3, none⟩ = some a3 ∧ w.cell? ⟨k, 4, none⟩ = some a4 ∧ w.cell? ⟨k, 5, none⟩ = some a5 ∧ w.cell? ⟨k, 6, none⟩ = some a6 ∧ w.cell? ⟨k, 7, none⟩ = some a7 ∧ w.cell? ⟨k, 8, none⟩ = some a8 ∧ w.cell? ⟨k, 9, none⟩ = some a9 ∧ w.cell? ⟨k, 10, none⟩ = some a10 ∧ w.cell? ⟨k, 11, none⟩ = some a11 ∧ w.cell? ⟨k, 12, none⟩ = some a12 ∧ w.cell? ⟨k, 13, none⟩ = some a13 ∧ w.cell? ⟨k, 14, none⟩ = some a14 := by
  refine ⟨?_, ?_, ?_, ?_, ?_, ?_, ?_, ?_, ?_, ?_, ?_, ?_, ?_, ?_, ?_⟩ <;> (rw [cellOf h]; rfl)
set_option maxRecDepth 100000 in
set_option maxHeartbeats 16000000 in
theorem flowGuards_walk (p : Pr) (w : World) (hS : Shapes w) (ht : Tab w) (hp : p.Is w.heap.size w) : Calls Tryz.prog 6 #[p.val] w fun r w' => r = .returned (.bool true) ∧ Below w.heap.size w w' := by
  have hS3 := hS.size
  have hli := fun (W : World) (hW : Below w.heap.size w W) => live_flow W (hS.below hW hS3) (ht.below hW (by omega))
  have hnum := num_flow
  have HFL := hid (fun (h1 : p.size ≤ 400) (h2 : p.mons.length ≤ 20) (h3 : ∀ m ∈ p.mons, m.vars.length ≤ 40) (W : World) (hW : Below w.heap.size w W) => flows_told p w.heap.size W hW.size (hp.below hW) (hS.below hW hS3) (ht.below hW (by omega)) (by have := hW.size; omega) h1 h2 h3)
  have hsm : ∀ W, Below w.heap.size w W → Calls Tryz.prog 7 #[p.val, .int .i64 400] W fun r w' => ∃ c : Bool, r = .returned (.bool c) ∧ (c = true → p.size ≤ 400 ∧ p.mons.length ≤ 20 ∧ ∀ m ∈ p.mons, m.vars.length ≤ 40) ∧ Below W.heap.size W w' := fun W hW => small_any4 w.heap.size p W hW.size (hp.below hW)
  obtain ⟨b1, hB, hz0⟩ := one_box w #[.slice p.mad p.mons.length p.mcap, .slice p.rad p.roles.length p.rcap] 25
  simp only [Pr.val] at hsm HFL ⊢
  go_enter Tryz.func6, Tryz.ntmps6
  go_upto_region 1 with fail
  obtain ⟨W0, hW0⟩ : ∃ W0, w.alloc (.cells #[.slice p.mad p.mons.length p.mcap, .slice p.rad p.roles.length p.rcap] 25) = W0 := ⟨_, rfl⟩
  rw [hW0] at b1 hB hz0 ⊢
  have HZ0 := hid hz0
  have hcell : ∀ W, Below W0.heap.size W0 W → W.cell? ⟨w.heap.size, 0, none⟩ = some (.slice p.mad p.mons.length p.mcap) ∧ W.cell? ⟨w.heap.size, 1, none⟩ = some (.slice p.rad p.roles.length p.rcap) := by
    intro W hW
    have hb := (hW.block w.heap.size (by omega)).trans b1
    exact ⟨by rw [cellOf hb]; rfl, by rw [cellOf hb]; rfl⟩
  clear hW0 b1 hz0
  obtain ⟨p0, p1⟩ := hcell W0 (Below.refl _ _)
  go_upto_if 15 with (go_at_call 7; (with_reducible refine (hsm _ hB).mono ?_); rintro r wa ⟨c, rfl, hsz, ba⟩; have Ba := hB.tr le_rfl' ba; have Ka := (Below.refl W0.heap.size W0).trans ba; cases c)
  · go_wp2_with (go_at_call 8; (with_reducible refine (hli _ Ba).mono ?_); rintro r wz ⟨rfl, bz⟩)
    go_ret
    exact ⟨rfl, Ba.tr le_rfl' bz⟩
  obtain ⟨s1, s2, s3⟩ := hsz trivial
  have hfl := HFL.out s1 s2 s3 wa Ba
  obtain ⟨q0, q1⟩ := hcell wa Ka
  clear hsm hsz HFL p0 p1 s1 s2 s3
  go_upto_region 4 with (go_at_call 14; (with_reducible refine hfl.mono ?_); rintro r wb ⟨hh, bb⟩; have Bb := Ba.tr le_rfl' bb; rcases hh with ⟨x, y, hx, rfl⟩ | ⟨lad, lcp, l, rfl, hs, hI, HOK⟩)
  · have hxb : (x == 0) = false := by rw [beq_eq_false_iff_ne]; exact hx
    have hxb2 : (x != 0) = true := by rw [bne, hxb]; rfl
    go_wp2_with (first
      | (go_at_call 13; (with_reducible refine (hnum _ _).mono ?_); rintro rr ww ⟨rfl, hw'⟩; have hw2 := hw'.symm; subst hw2)
      | (go_at_call 8; (with_reducible refine (hli _ Bb).mono ?_); rintro r wz ⟨rfl, bz⟩))
    go_ret
    exact ⟨rfl, Bb.tr le_rfl' bz⟩
  clear q0 q1 hfl hcell HZ0 Ka
  have hl1 := hs.1; have hl2 := hs.2.1
  unfold maxLen at hl2
  go_wp2_with (go_at_call 13; (with_reducible refine (hnum _ _).mono ?_); rintro rr ww ⟨rfl, hw'⟩; have hw2 := hw'.symm; subst hw2)
  go_loopw [6] (fun i wr => ∃ j : Nat, j ≤ l.length ∧ i = .int .i64 j ∧ Below wb.heap.size wb wr)
    (fun i _ => l.length - (intOf i).toNat)
  case atStart => exact ⟨0, by omega, rfl, Below.refl _ _⟩
  case round =>
    obtain ⟨j, hj, rfl, hbw⟩ := hrel
    have Bw := Bb.tr le_rfl' hbw
    by_cases hlt : j < l.length
    · rcases hs.2.2 with h | ⟨lb, loff, rfl, hlbn, hlrow⟩
      · subst h; simp at hlt
      have hlw : lb < wr.heap.size := by have := hbw.size; omega
      have hrow2 := hlrow.below hbw hlbn
      have hfI := hI _ (List.getElem_mem hlt)
      have hok := HOK.out _ (List.getElem_mem hlt)
      rcases he : l[j] with ⟨name, star, locs, ead, ecap, es, gad, gcap, gs⟩
      obtain ⟨d0, d1, d2, d3, d4⟩ := row5 hrow2 j hlt (by rw [he]; rfl)
      rw [he] at hfI hok
      obtain ⟨HPA, HGU, hlocs, hesl, hgsl⟩ := hok
      obtain ⟨⟨hes, heI⟩, hgs, hgI⟩ := hfI
      simp only at HPA HGU hlocs hesl hgsl hes heI hgs hgI
      have hes1 := hes.1; have hes2 := hes.2.1
      have hgs1 := hgs.1; have hgs2 := hgs.2.1
      unfold maxLen at hes2 hgs2
      clear he hrow2
      have HLJ := hid hlt
      go_upto_region 10 with fail
      obtain ⟨bF, hBF, hzF⟩ := one_box wr #[.string name, .bool star, .int .i64 locs, .slice ead es.length ecap, .slice gad gs.length gcap] 33
      obtain ⟨F, hF⟩ : ∃ F, wr.heap.size = F := ⟨_, rfl⟩
      obtain ⟨W1, hW1⟩ : ∃ W1, wr.alloc (.cells #[.string name, .bool star, .int .i64 locs, .slice ead es.length ecap, .slice gad gs.length gcap] 33) = W1 := ⟨_, rfl⟩
      rw [hW1] at bF hBF ⊢
      rw [hF] at bF ⊢
      have hb1 : Below wb.heap.size wb W1 := hbw.tr le_rfl' hBF
      have HB1 := hid hb1
      have HC : Hid (∀ W, Below W1.heap.size W1 W → W.heap[F]? = some (.cells #[.string name, .bool star, .int .i64 locs, .slice ead es.length ecap, .slice gad gs.length gcap] 33 (0, 0))) := fun W hW => (hW.block F (Array.getElem?_eq_some_iff.1 bF).1).trans bF
      have HFW : Hid (F < W1.heap.size) := (Array.getElem?_eq_some_iff.1 bF).1
      clear d0 d1 d2 d3 d4 hzF hF hW1 hBF hlw
      obtain ⟨wo, hwo⟩ : ∃ wo : World, wo = wr := ⟨_, rfl⟩
      subst hwo
      obtain ⟨f0, f1, f2, f3, f4, f5⟩ := fiveP bF
      have hmk : ∀ W, (Instr.makeSlice 51 (.int .i64 ((gs.length : Int) + 1)) (.int .i64 ((gs.length : Int) + 1))).run Tryz.prog W = .ok (.slice (some ⟨W.heap.size, 0, none⟩) (gs.length + 1) (gs.length + 1)) (W.alloc (.cells (Array.replicate (gs.length + 1) (.int .i64 0)) 3)) := fun W => make_ints (gs.length + 1) (by omega) W
      have hFlt := HFW.out
      go_upto_region 12 with fail
      clear hFlt
      have hBS := heapNew W1 (.cells (Array.replicate (gs.length + 1) (.int .i64 0)) 3)
      have hBL := heapNew (W1.alloc (.cells (Array.replicate (gs.length + 1) (.int .i64 0)) 3)) (.cells (Array.replicate (gs.length + 1) (.int .i64 0)) 3)
      have hBS2 := (Below.heap_alloc (W1.alloc (.cells (Array.replicate (gs.length + 1) (.int .i64 0)) 3)) (.cells (Array.replicate (gs.length + 1) (.int .i64 0)) 3) _ (by simp)).trans hBS
      rw [World.size_alloc] at hBL
      have hB2 := ((Below.refl W1.heap.size W1).al le_rfl' (.cells (Array.replicate (gs.length + 1) (.int .i64 0)) 3)).al le_rfl' (.cells (Array.replicate (gs.length + 1) (.int .i64 0)) 3)
      obtain ⟨W2, hW2⟩ : ∃ W2, (W1.alloc (.cells (Array.replicate (gs.length + 1) (.int .i64 0)) 3)).alloc (.cells (Array.replicate (gs.length + 1) (.int .i64 0)) 3) = W2 := ⟨_, rfl⟩
      rw [hW2] at hBS2 hBL hB2 ⊢
      have HRS : Hid (RowF W2 W1.heap.size (gs.length + 1) (fun i => cnt (fun x : Ed => x.site) es 0 i)) := (RowF.new hBS2).cong fun i _ => (cnt_zero _ _ _).symm
      have HRL : Hid (RowF W2 (W1.heap.size + 1) (gs.length + 1) (fun i => cnt (fun x : Ed => x.out) es 0 i)) := (RowF.new hBL).cong fun i _ => (cnt_zero _ _ _).symm
      obtain ⟨bS, hbS⟩ : ∃ bS, W1.heap.size = bS := ⟨_, rfl⟩
      obtain ⟨bL, hbL⟩ : ∃ bL, bS + 1 = bL := ⟨_, rfl⟩
      have hne : bS ≠ bL := by omega
      have HB2 := hid hB2
      have HNE : Hid (F < bS ∧ W1.heap.size ≤ bS ∧ W1.heap.size ≤ bL) := ⟨by have := HFW.out; omega, by omega, by omega⟩
      rw [hbS] at HRS HRL
      rw [hbL] at HRL
      rw [hbS]
      rw [hbL]
      clear f0 f1 f2 f3 f4 f5 hmk hBS hBL hBS2 hW2 hB2 bF hb1 hbL
      go_wp2
      go_loopw [10] (fun i wx => ∃ k : Nat, k ≤ es.length ∧ i = .int .i64 k ∧ Hid (RowF wx bS (gs.length + 1) (fun i => cnt (fun x : Ed => x.site) es k i)) ∧ Hid (RowF wx bL (gs.length + 1) (fun i => cnt (fun x : Ed => x.out) es k i)) ∧ Below W1.heap.size W1 wx)
        (fun i _ => es.length - (intOf i).toNat)
      case atStart => exact ⟨0, by omega, rfl, HRS.out, HRL.out, HB2.out⟩
      case round =>
        obtain ⟨k, hk, rfl, HS, HL, hbx⟩ := hrel
        have hFx := HC.out _ hbx
        have hb2 : Below wb.heap.size wb wr := HB1.out.tr le_rfl' hbx
        obtain ⟨f0, f1, f2, f3, f4, f5⟩ := fiveP hFx
        have hFW4 : F < wr.heap.size := (Array.getElem?_eq_some_iff.1 hFx).1
        by_cases hlk : k < es.length
        · have hlk2 : decide ((k : Int) < (es.length : Int)) = true := by simp; omega
          rcases hes.2.2 with hne2 | ⟨eb, eoff, rfl, hebn, herow⟩
          · subst hne2; simp at hlk
          have herow4 := herow.below hb2 hebn
          have hebw : eb < wr.heap.size := by have := hb2.size; omega
          have heIk := heI _ (List.getElem_mem hlk)
          have HCS := hid (fun (s : Nat) (h : es[k].site = (s : Int)) => cnt_succ (fun x : Ed => x.site) es k hlk s h)
          have HCL := hid (fun (s : Nat) (h : es[k].out = (s : Int)) => cnt_succ (fun x : Ed => x.out) es k hlk s h)
          rcases hx : es[k] with ⟨y1, y2, y3, y4, y5, ⟨z1, z2, z3, z4, z5, z6, z7, z8⟩, y7, y8, y9, y10⟩
          obtain ⟨e0, e1, e2, e3, e4, e5, e6, e7, e8, e9, e10, e11, e12, e13, e14⟩ := row15 herow4 k hlk (by rw [hx]; rfl)
          obtain ⟨m8, m9, h8, h9, g1, g2, g3, g4, g5⟩ := guards_at HGU k hlk hx
          rw [hx] at heIk
          rw [hx] at HCS
          rw [hx] at HCL
          simp only at h8 h9 g3 g4 g5 heIk
          subst h8
          subst h9
          have hcs := HCS.out m8 rfl
          have hcl := HCL.out m9 rfl
          have HLK := hid hlk
          have HLK2 := hid hlk2
          clear hx
          go_upto_region 16 with fail
          obtain ⟨bX, hBX, hzX⟩ := one_box wr #[.int .i64 y1, .int .i64 y2, .int .i64 y3, .int .i64 y4, .int .i64 y5, .int .i64 z1, .string z2, .string z3, .int .i64 z4, .slice z5 z7.length z6, .int .i64 z8, .int .i64 y7, .int .i64 (m8 : Int), .int .i64 (m9 : Int), .int .i64 y10] 57
          have hXne : wr.heap.size ≠ bS ∧ wr.heap.size ≠ bL := ⟨by have := HS.out.lt; omega, by have := HL.out.lt; omega⟩
          have hS3 := HS.out.below hBX HS.out.lt
          have hL3 := HL.out.below hBX HL.out.lt
          obtain ⟨X, hX⟩ : ∃ X, wr.heap.size = X := ⟨_, rfl⟩
          obtain ⟨W3, hW3⟩ : ∃ W3, wr.alloc (.cells #[.int .i64 y1, .int .i64 y2, .int .i64 y3, .int .i64 y4, .int .i64 y5, .int .i64 z1, .string z2, .string z3, .int .i64 z4, .slice z5 z7.length z6, .int .i64 z8, .int .i64 y7, .int .i64 (m8 : Int), .int .i64 (m9 : Int), .int .i64 y10] 57) = W3 := ⟨_, rfl⟩
          have b3 : Below W1.heap.size W1 W3 := by rw [← hW3]; exact hbx.tr le_rfl' hBX
          rw [hW3] at bX hS3 hL3 ⊢
          rw [hX] at bX hXne ⊢
          clear f0 f1 f2 f3 f4 f5 hFx hBX hzX hX hW3 e0 e1 e2 e3 e4 e5 e6 e7 e8 e9 e10 e11 e12 e13 e14 hFW4
          obtain ⟨f0, f1, f2, f3, f4, f5⟩ := fiveP (HC.out _ b3)
          obtain ⟨x0, x1, x2, x3, x4, x5, x6, x7, x8, x9, x10, x11, x12, x13, x14⟩ := cells15g bX
          have t1 : decide ((m8 : Int) < 0) = false := decide_eq_false (by omega)
          have t2 : decide ((gs.length : Int) < (m8 : Int)) = false := decide_eq_false (by omega)
          have t3 : decide ((m9 : Int) < 0) = false := decide_eq_false (by omega)
          have t4 : decide ((gs.length : Int) < (m9 : Int)) = false := decide_eq_false (by omega)
          have HB3 := hid b3
          have HX3 := hid bX
          have HS3 := hid hS3
          have HL3 := hid hL3
          have HXN := hid hXne
          have HG3 := hid g3
          have HG4 := hid g4
          have HG5 := hid g5
          clear g3 g4 g5
          have HCS2 := hid hcs
          have HCL2 := hid hcl
          clear HCS HCL hcs hcl hS3 hL3 bX b3 hXne HS HL
          by_cases hm8 : m8 = 0
          · subst hm8
            have h6b : (y3 == 6) = false := by
              rw [beq_eq_false_iff_ne]
              intro h
              exact HG3.out.1 h rfl
            have h6c : (y3 != 6) = true := by rw [bne, h6b]; rfl
            go_wp2_with fail
            go_quiet (fail)
            clear f0 f1 f2 f3 f4 f5 x0 x1 x2 x3 x4 x5 x6 x7 x8 x9 x10 x11 x12 x13 x14 t1 t2 t3 t4
            go_upto_region 20 with fail
            obtain ⟨W4, hW4⟩ : ∃ W4, W3.drewN nq = W4 := ⟨_, rfl⟩
            have HX4 : Hid (W4.heap[X]? = some (.cells #[.int .i64 y1, .int .i64 y2, .int .i64 y3, .int .i64 y4, .int .i64 y5, .int .i64 z1, .string z2, .string z3, .int .i64 z4, .slice z5 z7.length z6, .int .i64 z8, .int .i64 y7, .int .i64 ((0 : Nat) : Int), .int .i64 (m9 : Int), .int .i64 y10] 57 (0, 0))) := by rw [← hW4]; exact HX3.out
            have HS4 : Hid (RowF W4 bS (gs.length + 1) (fun i => cnt (fun x : Ed => x.site) es k i)) := by rw [← hW4]; exact HS3.out
            have HL4 : Hid (RowF W4 bL (gs.length + 1) (fun i => cnt (fun x : Ed => x.out) es k i)) := by rw [← hW4]; exact HL3.out
            have HB4 : Hid (Below W1.heap.size W1 W4) := by rw [← hW4]; exact below_drewN HB3.out _
            rw [hW4]
            clear hW4 HX3 HS3 HL3 HB3
            have hrow := HS4.out
            have hxx := HX4.out
            obtain ⟨x0, x1, x2, x3, x4, x5, x6, x7, x8, x9, x10, x11, x12, x13, x14⟩ := cells15g hxx
            have c1 := hrow.cell (i := 0) (by omega)
            have fr := hrow.frozen (0)
            have hcl := cnt_le (fun x : Ed => x.site) es k (0)
            have hinx : (0) < gs.length + 1 := by omega
            obtain ⟨cv, hcv⟩ : ∃ cv, cnt (fun x : Ed => x.site) es k (0) = cv := ⟨_, rfl⟩
            rw [hcv] at c1 hcl
            have HCV := hid hcv
            clear hrow hxx hcv
            go_cut [11] (fun t11 wx => t11 = .pointer (some ⟨X, 0, none⟩) ∧ Hid (wx.heap[X]? = some (.cells #[.int .i64 y1, .int .i64 y2, .int .i64 y3, .int .i64 y4, .int .i64 y5, .int .i64 z1, .string z2, .string z3, .int .i64 z4, .slice z5 z7.length z6, .int .i64 z8, .int .i64 y7, .int .i64 ((0 : Nat) : Int), .int .i64 (m9 : Int), .int .i64 y10] 57 (0, 0))) ∧ Hid (RowF wx bS (gs.length + 1) (fun i => cnt (fun x : Ed => x.site) es (k + 1) i)) ∧ Hid (RowF wx bL (gs.length + 1) (fun i => cnt (fun x : Ed => x.out) es k i)) ∧ Below W1.heap.size W1 wx)
            case first =>
              go_wp2
              go_meet
              exact ⟨rfl, (Below.heap_setCell _ _ _ _ HXN.out.1).trans HX4.out, (HS4.out.put (i := 0) (by omega) _).cong (fun i hi => by rw [HCS2.out i, HCV.out]), HL4.out.other (fun h => hne h.symm) _, HB4.out.setCell (by first | exact HNE.out.2.1 | exact HNE.out.2.2) _⟩
            case rest =>
              obtain ⟨rfl, HX5, HS5, HL5, b5⟩ := hcut
              rename_i wq _ _
              have HB5 := hid b5
              clear x0 x1 x2 x3 x4 x5 x6 x7 x8 x9 x10 x11 x12 x13 x14 c1 fr hcl hinx HCV HX4 HS4 HL4 HB4 b5
              obtain ⟨W4, hW4⟩ : ∃ W4, W4 = wc := ⟨_, rfl⟩
              subst hW4
              have HX4 := HX5
              have HS4 := HS5
              have HL4 := HL5
              have HB4 := HB5
              clear HX5 HS5 HL5 HB5
              go_upto_region 21 with fail
              have hrow := HL4.out
              have hxx := HX4.out
              obtain ⟨x0, x1, x2, x3, x4, x5, x6, x7, x8, x9, x10, x11, x12, x13, x14⟩ := cells15g hxx
              have c1 := hrow.cell (i := m9) (by omega)
              have fr := hrow.frozen (m9)
              have hcl := cnt_le (fun x : Ed => x.out) es k (m9)
              have hinx : (m9) < gs.length + 1 := by omega
              obtain ⟨cv, hcv⟩ : ∃ cv, cnt (fun x : Ed => x.out) es k (m9) = cv := ⟨_, rfl⟩
              rw [hcv] at c1 hcl
              have HCV := hid hcv
              clear hrow hxx hcv
              go_cut [11] (fun t11 wx => t11 = .pointer (some ⟨X, 0, none⟩) ∧ Hid (wx.heap[X]? = some (.cells #[.int .i64 y1, .int .i64 y2, .int .i64 y3, .int .i64 y4, .int .i64 y5, .int .i64 z1, .string z2, .string z3, .int .i64 z4, .slice z5 z7.length z6, .int .i64 z8, .int .i64 y7, .int .i64 ((0 : Nat) : Int), .int .i64 (m9 : Int), .int .i64 y10] 57 (0, 0))) ∧ Hid (RowF wx bS (gs.length + 1) (fun i => cnt (fun x : Ed => x.site) es (k + 1) i)) ∧ Hid (RowF wx bL (gs.length + 1) (fun i => cnt (fun x : Ed => x.out) es (k + 1) i)) ∧ Below W1.heap.size W1 wx)
              case first =>
                go_wp2
                go_meet
                exact ⟨rfl, (Below.heap_setCell _ _ _ _ HXN.out.2).trans HX4.out, HS4.out.other hne _, (HL4.out.put (i := m9) (by omega) _).cong (fun i hi => by rw [HCL2.out i, HCV.out]), HB4.out.setCell (by first | exact HNE.out.2.1 | exact HNE.out.2.2) _⟩
              case rest =>
                obtain ⟨rfl, HX5, HS5, HL5, b5⟩ := hcut
                rename_i wq _ _
                have HB5 := hid b5
                clear x0 x1 x2 x3 x4 x5 x6 x7 x8 x9 x10 x11 x12 x13 x14 c1 fr hcl hinx HCV HX4 HS4 HL4 HB4 b5
                obtain ⟨W4, hW4⟩ : ∃ W4, W4 = wc := ⟨_, rfl⟩
                subst hW4
                have HX4 := HX5
                have HS4 := HS5
                have HL4 := HL5
                have HB4 := HB5
                clear HX5 HS5 HL5 HB5
                obtain ⟨x0, x1, x2, x3, x4, x5, x6, x7, x8, x9, x10, x11, x12, x13, x14⟩ := cells15g HX4.out
                obtain ⟨f0, f1, f2, f3, f4, f5⟩ := fiveP (HC.out _ HB4.out)
                by_cases hm9 : m9 = 0
                · subst hm9
                  go_wp2_with fail
                  go_quiet (fail)
                  go_wp2
                  go_roundw
                  case rel => exact ⟨k + 1, by have := HLK.out; omega, by go_num, HS4.out, HL4.out, below_drewN HB4.out _⟩
                  case measure => have := HLK.out; simp [intOf]; omega
                obtain ⟨i9, rfl⟩ : ∃ i, m9 = i + 1 := ⟨m9 - 1, by omega⟩
                obtain ⟨hi9, hlp⟩ := HG5.out i9 rfl
                have x13 := show _ = some (Value.int .i64 ((i9 : Int) + 1)) from x13
                have hw9 : IntKind.i64.wrap (i9 : Int) = i9 := wrap_nat i9 (by omega)
                have hz9 : (0 : Int) ≤ (i9 : Int) := by omega
                have hg9 : (i9 : Int) < (gs.length : Int) := by omega
                have t6 : decide (0 < (i9 : Int) + 1) = true := decide_eq_true (by omega)
                rcases hgs.2.2 with hne2 | ⟨gb, goff, rfl, hgbn, hgrow⟩
                · subst hne2; simp at hi9
                have hgr := (hgrow.below (HB1.out.tr le_rfl' HB4.out) hgbn) i9 hi9
                have hgI9 := hgI _ (List.getElem_mem hi9)
                have hgbw4 : gb < W4.heap.size := by have := (HB1.out.tr le_rfl' HB4.out).size; omega
                rcases hq : gs[i9] with ⟨q1, ⟨u1, u2, u3, u4, u5, u6, u7, u8⟩, q3⟩
                rw [hq] at hgr hgI9
                simp only [hq] at hlp
                have d7 : W4.cell? ⟨gb, goff + i9 * 8 + 7, none⟩ = some (.bool q3) := hgr 7 (by omega)
                cases q3
                · clear hgr hlp hq
                  go_wp2_with fail
                  go_quiet (fail)
                  go_wp2
                  go_roundw
                  case rel => exact ⟨k + 1, by have := HLK.out; omega, by go_num, HS4.out, HL4.out, below_drewN HB4.out _⟩
                  case measure => have := HLK.out; simp [intOf]; omega
                · obtain ⟨rfl, hsame⟩ := hlp rfl
                  have hXw : X < W4.heap.size := (Array.getElem?_eq_some_iff.1 HX4.out).1
                  have hFw : F < W4.heap.size := (Array.getElem?_eq_some_iff.1 (HC.out _ HB4.out)).1
                  have HK : Hid (∀ W, Below W4.heap.size W4 W → W.cell? ⟨F, 4, none⟩ = some (.slice (some ⟨gb, goff, none⟩) gs.length gcap) ∧ W.cell? ⟨X, 2, none⟩ = some (.int .i64 2) ∧ W.cell? ⟨X, 13, none⟩ = some (.int .i64 ((i9 : Int) + 1)) ∧ W.cell? ⟨gb, goff + i9 * 8 + 7, none⟩ = some (.bool true) ∧ W.cell? ⟨X, 5, none⟩ = some (.int .i64 z1) ∧ W.cell? ⟨X, 6, none⟩ = some (.string z2) ∧ W.cell? ⟨X, 7, none⟩ = some (.string z3) ∧ W.cell? ⟨X, 8, none⟩ = some (.int .i64 z4) ∧ W.cell? ⟨X, 9, none⟩ = some (.slice z5 z7.length z6) ∧ W.cell? ⟨X, 10, none⟩ = some (.int .i64 z8) ∧ W.cell? ⟨gb, goff + i9 * 8 + 1, none⟩ = some (.int .i64 u1) ∧ W.cell? ⟨gb, goff + i9 * 8 + 2, none⟩ = some (.string u2) ∧ W.cell? ⟨gb, goff + i9 * 8 + 3, none⟩ = some (.string u3) ∧ W.cell? ⟨gb, goff + i9 * 8 + 4, none⟩ = some (.int .i64 u4) ∧ W.cell? ⟨gb, goff + i9 * 8 + 5, none⟩ = some (.slice u5 u7.length u6) ∧ W.cell? ⟨gb, goff + i9 * 8 + 6, none⟩ = some (.int .i64 u8)) := fun W hW => ⟨(hW.cell (p := ⟨F, 4, none⟩) hFw).trans f4, (hW.cell (p := ⟨X, 2, none⟩) hXw).trans x2, (hW.cell (p := ⟨X, 13, none⟩) hXw).trans x13, (hW.cell (p := ⟨gb, _, none⟩) hgbw4).trans d7, (hW.cell (p := ⟨X, 5, none⟩) hXw).trans x5, (hW.cell (p := ⟨X, 6, none⟩) hXw).trans x6, (hW.cell (p := ⟨X, 7, none⟩) hXw).trans x7, (hW.cell (p := ⟨X, 8, none⟩) hXw).trans x8, (hW.cell (p := ⟨X, 9, none⟩) hXw).trans x9, (hW.cell (p := ⟨X, 10, none⟩) hXw).trans x10, (hW.cell (p := ⟨gb, _, none⟩) hgbw4).trans (hgr 1 (by omega)), (hW.cell (p := ⟨gb, _, none⟩) hgbw4).trans (hgr 2 (by omega)), (hW.cell (p := ⟨gb, _, none⟩) hgbw4).trans (hgr 3 (by omega)), (hW.cell (p := ⟨gb, _, none⟩) hgbw4).trans (hgr 4 (by omega)), (hW.cell (p := ⟨gb, _, none⟩) hgbw4).trans (hgr 5 (by omega)), (hW.cell (p := ⟨gb, _, none⟩) hgbw4).trans (hgr 6 (by omega))⟩
                  have HSE : Hid (∀ W, Below W4.heap.size W4 W → Calls Tryz.prog 19 #[.agg #[.int .i64 z1, .string z2, .string z3, .int .i64 z4, .slice z5 z7.length z6, .int .i64 z8], .agg #[.int .i64 u1, .string u2, .string u3, .int .i64 u4, .slice u5 u7.length u6, .int .i64 u8]] W fun r w' => r = .returned (.bool true) ∧ Below W.heap.size W w') := fun W hW => by
                    have hBW := (HB1.out.tr le_rfl' HB4.out).tr le_rfl' hW
                    have h := refSameExpr_any wb.heap.size _ _ W (by have := hBW.size; omega) (heIk.below hBW) (hgI9.below hBW)
                    rw [hsame] at h
                    exact h
                  have BB := Below.refl W4.heap.size W4
                  have hSlt := hid HS4.out.lt
                  have hLlt := hid HL4.out.lt
                  clear hgr hsame hq f0 f1 f2 f3 f4 f5 x0 x1 x2 x3 x4 x5 x6 x7 x8 x9 x10 x11 x12 x13 x14 d7
                  go_upto_region 22 with fail
                  go_region_held3 (fun W => W.cell? ⟨F, 4, none⟩ = some (.slice (some ⟨gb, goff, none⟩) gs.length gcap) ∧ W.cell? ⟨X, 2, none⟩ = some (.int .i64 2) ∧ W.cell? ⟨X, 13, none⟩ = some (.int .i64 ((i9 : Int) + 1)) ∧ W.cell? ⟨gb, goff + i9 * 8 + 7, none⟩ = some (.bool true) ∧ W.cell? ⟨X, 5, none⟩ = some (.int .i64 z1) ∧ W.cell? ⟨X, 6, none⟩ = some (.string z2) ∧ W.cell? ⟨X, 7, none⟩ = some (.string z3) ∧ W.cell? ⟨X, 8, none⟩ = some (.int .i64 z4) ∧ W.cell? ⟨X, 9, none⟩ = some (.slice z5 z7.length z6) ∧ W.cell? ⟨X, 10, none⟩ = some (.int .i64 z8) ∧ W.cell? ⟨gb, goff + i9 * 8 + 1, none⟩ = some (.int .i64 u1) ∧ W.cell? ⟨gb, goff + i9 * 8 + 2, none⟩ = some (.string u2) ∧ W.cell? ⟨gb, goff + i9 * 8 + 3, none⟩ = some (.string u3) ∧ W.cell? ⟨gb, goff + i9 * 8 + 4, none⟩ = some (.int .i64 u4) ∧ W.cell? ⟨gb, goff + i9 * 8 + 5, none⟩ = some (.slice u5 u7.length u6) ∧ W.cell? ⟨gb, goff + i9 * 8 + 6, none⟩ = some (.int .i64 u8)) (exact HK.out _ (by first | exact BB | exact BB.drew))
                    (first | (go_at_call 19; (with_reducible refine (HSE.out _ (by first | exact BB | exact BB.drew)).mono ?_); rintro r w19 ⟨rfl, bb⟩; have BB := (show Below _ _ _ from (by first | exact BB | exact BB.drew)).tr le_rfl' bb))
                  all_goals go_wp2
                  all_goals go_roundw
                  all_goals first
                    | exact ⟨k + 1, by have := HLK.out; omega, by go_num, HS4.out.below (by first | exact BB | exact BB.drew) hSlt.out, HL4.out.below (by first | exact BB | exact BB.drew) hLlt.out, HB4.out.tr le_rfl' (by first | exact BB | exact BB.drew)⟩
                    | (have := HLK.out; simp [intOf]; omega)
          · obtain ⟨i8, rfl⟩ : ∃ i, m8 = i + 1 := ⟨m8 - 1, by omega⟩
            obtain ⟨hi8, hmon⟩ := HG4.out i8 rfl
            have hk6 : y3 = 6 := HG3.out.2 (by omega)
            subst hk6
            rcases hgs.2.2 with hne2 | ⟨gb, goff, rfl, hgbn, hgrow⟩
            · subst hne2; simp at hi8
            have hgc0 : W3.cell? ⟨gb, goff + i8 * 8, none⟩ = some (.int .i64 y4) := by
              have h1 := (hgrow.below (HB1.out.tr le_rfl' HB3.out) hgbn) i8 hi8 0 (by omega)
              rw [Nat.add_zero] at h1
              rw [h1, ← hmon]
              rcases gs[i8] with ⟨q1, ⟨z1, z2, z3, z4, z5, z6, z7, z8⟩, q3⟩
              rfl
            have hgbw : gb < W3.heap.size := by have := (HB1.out.tr le_rfl' HB3.out).size; omega
            have x12 : W3.cell? ⟨X, 12, none⟩ = some (.int .i64 ((i8 : Int) + 1)) := x12
            have h8b : ((i8 : Int) + 1 == 0) = false := by rw [beq_eq_false_iff_ne]; omega
            have h8c : ((i8 : Int) + 1 != 0) = true := by rw [bne, h8b]; rfl
            have t1 : decide ((i8 : Int) + 1 < 0) = false := decide_eq_false (by omega)
            have t2 : decide ((gs.length : Int) < (i8 : Int) + 1) = false := decide_eq_false (by omega)
            have t5 : decide (0 < (i8 : Int) + 1) = true := decide_eq_true (by omega)
            have hw8 : IntKind.i64.wrap (i8 : Int) = i8 := wrap_nat i8 (by omega)
            have hz8 : (0 : Int) ≤ (i8 : Int) := by omega
            have hg8 : (i8 : Int) < (gs.length : Int) := by omega
            clear hmon
            go_wp2_with fail
            go_quiet (fail)
            clear f0 f1 f2 f3 f4 f5 x0 x1 x2 x3 x4 x5 x6 x7 x8 x9 x10 x11 x12 x13 x14 t1 t2 t3 t4
            go_upto_region 20 with fail
            obtain ⟨W4, hW4⟩ : ∃ W4, W3.drewN nq = W4 := ⟨_, rfl⟩
            have HX4 : Hid (W4.heap[X]? = some (.cells #[.int .i64 y1, .int .i64 y2, .int .i64 6, .int .i64 y4, .int .i64 y5, .int .i64 z1, .string z2, .string z3, .int .i64 z4, .slice z5 z7.length z6, .int .i64 z8, .int .i64 y7, .int .i64 ((i8 + 1 : Nat) : Int), .int .i64 (m9 : Int), .int .i64 y10] 57 (0, 0))) := by rw [← hW4]; exact HX3.out
            have HS4 : Hid (RowF W4 bS (gs.length + 1) (fun i => cnt (fun x : Ed => x.site) es k i)) := by rw [← hW4]; exact HS3.out
            have HL4 : Hid (RowF W4 bL (gs.length + 1) (fun i => cnt (fun x : Ed => x.out) es k i)) := by rw [← hW4]; exact HL3.out
            have HB4 : Hid (Below W1.heap.size W1 W4) := by rw [← hW4]; exact below_drewN HB3.out _
            rw [hW4]
            clear hW4 HX3 HS3 HL3 HB3
            have hrow := HS4.out
            have hxx := HX4.out
            obtain ⟨x0, x1, x2, x3, x4, x5, x6, x7, x8, x9, x10, x11, x12, x13, x14⟩ := cells15g hxx
            have x12 := show _ = some (Value.int .i64 ((i8 : Int) + 1)) from x12
            have c1 := hrow.cell (i := i8 + 1) (by omega)
            have fr := hrow.frozen (i8 + 1)
            have hcl := cnt_le (fun x : Ed => x.site) es k (i8 + 1)
            have hinx : (i8 + 1) < gs.length + 1 := by omega
            obtain ⟨cv, hcv⟩ : ∃ cv, cnt (fun x : Ed => x.site) es k (i8 + 1) = cv := ⟨_, rfl⟩
            rw [hcv] at c1 hcl
            have HCV := hid hcv
            clear hrow hxx hcv
            go_cut [11] (fun t11 wx => t11 = .pointer (some ⟨X, 0, none⟩) ∧ Hid (wx.heap[X]? = some (.cells #[.int .i64 y1, .int .i64 y2, .int .i64 6, .int .i64 y4, .int .i64 y5, .int .i64 z1, .string z2, .string z3, .int .i64 z4, .slice z5 z7.length z6, .int .i64 z8, .int .i64 y7, .int .i64 ((i8 + 1 : Nat) : Int), .int .i64 (m9 : Int), .int .i64 y10] 57 (0, 0))) ∧ Hid (RowF wx bS (gs.length + 1) (fun i => cnt (fun x : Ed => x.site) es (k + 1) i)) ∧ Hid (RowF wx bL (gs.length + 1) (fun i => cnt (fun x : Ed => x.out) es k i)) ∧ Below W1.heap.size W1 wx)
            case first =>
              go_wp2
              go_meet
              exact ⟨rfl, (Below.heap_setCell _ _ _ _ HXN.out.1).trans HX4.out, (HS4.out.put (i := i8 + 1) (by omega) _).cong (fun i hi => by rw [HCS2.out i, HCV.out]), HL4.out.other (fun h => hne h.symm) _, HB4.out.setCell (by first | exact HNE.out.2.1 | exact HNE.out.2.2) _⟩
            case rest =>
              obtain ⟨rfl, HX5, HS5, HL5, b5⟩ := hcut
              rename_i wq _ _
              have HB5 := hid b5
              clear x0 x1 x2 x3 x4 x5 x6 x7 x8 x9 x10 x11 x12 x13 x14 c1 fr hcl hinx HCV HX4 HS4 HL4 HB4 b5
              obtain ⟨W4, hW4⟩ : ∃ W4, W4 = wc := ⟨_, rfl⟩
              subst hW4
              have HX4 := HX5
              have HS4 := HS5
              have HL4 := HL5
              have HB4 := HB5
              clear HX5 HS5 HL5 HB5
              go_upto_region 21 with fail
              have hrow := HL4.out
              have hxx := HX4.out
              obtain ⟨x0, x1, x2, x3, x4, x5, x6, x7, x8, x9, x10, x11, x12, x13, x14⟩ := cells15g hxx
              have x12 := show _ = some (Value.int .i64 ((i8 : Int) + 1)) from x12
              have c1 := hrow.cell (i := m9) (by omega)
              have fr := hrow.frozen (m9)
              have hcl := cnt_le (fun x : Ed => x.out) es k (m9)
              have hinx : (m9) < gs.length + 1 := by omega
              obtain ⟨cv, hcv⟩ : ∃ cv, cnt (fun x : Ed => x.out) es k (m9) = cv := ⟨_, rfl⟩
              rw [hcv] at c1 hcl
              have HCV := hid hcv
              clear hrow hxx hcv
              go_cut [11] (fun t11 wx => t11 = .pointer (some ⟨X, 0, none⟩) ∧ Hid (wx.heap[X]? = some (.cells #[.int .i64 y1, .int .i64 y2, .int .i64 6, .int .i64 y4, .int .i64 y5, .int .i64 z1, .string z2, .string z3, .int .i64 z4, .slice z5 z7.length z6, .int .i64 z8, .int .i64 y7, .int .i64 ((i8 + 1 : Nat) : Int), .int .i64 (m9 : Int), .int .i64 y10] 57 (0, 0))) ∧ Hid (RowF wx bS (gs.length + 1) (fun i => cnt (fun x : Ed => x.site) es (k + 1) i)) ∧ Hid (RowF wx bL (gs.length + 1) (fun i => cnt (fun x : Ed => x.out) es (k + 1) i)) ∧ Below W1.heap.size W1 wx)
              case first =>
                go_wp2
                go_meet
                exact ⟨rfl, (Below.heap_setCell _ _ _ _ HXN.out.2).trans HX4.out, HS4.out.other hne _, (HL4.out.put (i := m9) (by omega) _).cong (fun i hi => by rw [HCL2.out i, HCV.out]), HB4.out.setCell (by first | exact HNE.out.2.1 | exact HNE.out.2.2) _⟩
              case rest =>
                obtain ⟨rfl, HX5, HS5, HL5, b5⟩ := hcut
                rename_i wq _ _
                have HB5 := hid b5
                clear x0 x1 x2 x3 x4 x5 x6 x7 x8 x9 x10 x11 x12 x13 x14 c1 fr hcl hinx HCV HX4 HS4 HL4 HB4 b5
                obtain ⟨W4, hW4⟩ : ∃ W4, W4 = wc := ⟨_, rfl⟩
                subst hW4
                have HX4 := HX5
                have HS4 := HS5
                have HL4 := HL5
                have HB4 := HB5
                clear HX5 HS5 HL5 HB5
                obtain ⟨x0, x1, x2, x3, x4, x5, x6, x7, x8, x9, x10, x11, x12, x13, x14⟩ := cells15g HX4.out
                have x12 := show _ = some (Value.int .i64 ((i8 : Int) + 1)) from x12
                obtain ⟨f0, f1, f2, f3, f4, f5⟩ := fiveP (HC.out _ HB4.out)
                by_cases hm9 : m9 = 0
                · subst hm9
                  go_wp2_with fail
                  go_quiet (fail)
                  go_wp2
                  go_roundw
                  case rel => exact ⟨k + 1, by have := HLK.out; omega, by go_num, HS4.out, HL4.out, below_drewN HB4.out _⟩
                  case measure => have := HLK.out; simp [intOf]; omega
                obtain ⟨i9, rfl⟩ : ∃ i, m9 = i + 1 := ⟨m9 - 1, by omega⟩
                obtain ⟨hi9, hlp⟩ := HG5.out i9 rfl
                have x13 := show _ = some (Value.int .i64 ((i9 : Int) + 1)) from x13
                have hw9 : IntKind.i64.wrap (i9 : Int) = i9 := wrap_nat i9 (by omega)
                have hz9 : (0 : Int) ≤ (i9 : Int) := by omega
                have hg9 : (i9 : Int) < (gs.length : Int) := by omega
                have t6 : decide (0 < (i9 : Int) + 1) = true := decide_eq_true (by omega)
                have hgr := (hgrow.below (HB1.out.tr le_rfl' HB4.out) hgbn) i9 hi9
                have hgI9 := hgI _ (List.getElem_mem hi9)
                have hgbw4 : gb < W4.heap.size := by have := (HB1.out.tr le_rfl' HB4.out).size; omega
                rcases hq : gs[i9] with ⟨q1, ⟨u1, u2, u3, u4, u5, u6, u7, u8⟩, q3⟩
                rw [hq] at hgr hgI9
                simp only [hq] at hlp
                have d7 : W4.cell? ⟨gb, goff + i9 * 8 + 7, none⟩ = some (.bool q3) := hgr 7 (by omega)
                cases q3
                · clear hgr hlp hq
                  go_wp2_with fail
                  go_quiet (fail)
                  go_wp2
                  go_roundw
                  case rel => exact ⟨k + 1, by have := HLK.out; omega, by go_num, HS4.out, HL4.out, below_drewN HB4.out _⟩
                  case measure => have := HLK.out; simp [intOf]; omega
                · exact absurd (hlp rfl).1 (by omega)
        · have hlk2 : decide ((k : Int) < (es.length : Int)) = false := by simp; omega
          have hke : k = es.length := by omega
          subst hke
          go_wp2
          go_loopw [12] (fun i wx => ∃ q : Nat, 1 ≤ q ∧ q ≤ gs.length + 1 ∧ i = .int .i64 q ∧ Hid (RowF wx bS (gs.length + 1) (fun i => cnt (fun x : Ed => x.site) es es.length i)) ∧ Hid (RowF wx bL (gs.length + 1) (fun i => cnt (fun x : Ed => x.out) es es.length i)) ∧ Below W1.heap.size W1 wx)
            (fun i _ => gs.length + 1 - (intOf i).toNat)
          case atStart => exact ⟨1, by omega, by omega, rfl, HS, HL, hbx⟩
          case round =>
            clear hFx f0 f1 f2 f3 f4 f5
            obtain ⟨q, hq1, hq2, rfl, HS2, HL2, hby⟩ := hrel
            by_cases hql : q < gs.length + 1
            · have c1 := HS2.out.cell hql
              have c2 := HL2.out.cell hql
              have s1 := HGU.site q hq1 (by omega)
              have s2 := HGU.out q hq1 (by omega)
              simp only [cnt_all] at c1 c2
              rw [s1] at c1
              obtain ⟨n2, hn2⟩ : ∃ n2, List.countP (fun x : Ed => decide (x.out = (q : Int))) es = n2 := ⟨_, rfl⟩
              rw [hn2] at c2 s2
              have hd1 : decide ((1 : Int) < (n2 : Int)) = false := decide_eq_false (by omega)
              have hd2 : decide ((q : Int) < ((gs.length + 1 : Nat) : Int)) = true := decide_eq_true (by omega)
              go_wp2
              go_roundw
              case rel => exact ⟨q + 1, by omega, by omega, by go_num, HS2, HL2, hby⟩
              case measure => simp [intOf]; omega
            · have hd2 : decide ((q : Int) < ((gs.length + 1 : Nat) : Int)) = false := decide_eq_false (by omega)
              have HJ := hid (HB1.out.tr le_rfl' hby)
              go_wp2
              go_roundw
              case rel => exact ⟨j + 1, by have := HLJ.out; omega, by go_num, HJ.out⟩
              case measure => have := HLJ.out; simp [intOf]; omega
    · have hjd : decide ((j : Int) < (l.length : Int)) = false := by simp; omega
      go_wp2_with (go_at_call 8; (with_reducible refine (hli _ Bw).mono ?_); rintro r wz ⟨rfl, bz⟩)
      go_ret
      exact ⟨rfl, Bw.tr le_rfl' bz⟩
end Go.Proofs.YtbmbchdjjfmafaaGreatDoor
