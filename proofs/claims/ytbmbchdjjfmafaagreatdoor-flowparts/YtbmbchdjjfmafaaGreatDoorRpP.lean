/-
  FlowParts: its walk.
-/
import Derived.Test.YtbmbchdjjfmafaaGreatDoorQbx
import Derived.Deep.DeepCutAuto
import Derived.Deep.RegionHeld3
namespace Go.Proofs.YtbmbchdjjfmafaaGreatDoor
open Go.RowKit
theorem cells15 {w : World} {k : Nat} {a0 a1 a2 a3 a4 a5 a6 a7 a8 a9 a10 a11 a12 a13 a14 : Value} {T : TypeId} (h : w.heap[k]? = some (.cells #[a0, a1, a2, a3, a4, a5, a6, a7, a8, a9, a10, a11, a12, a13, a14] T (0, 0))) :
    w.cell? ⟨k, 0, none⟩ = some a0 ∧ w.cell? ⟨k, 1, none⟩ = some a1 ∧ w.cell? ⟨k, 2, none⟩ = some a2 ∧ w.cell? ⟨k, 3, none⟩ = some a3 ∧ w.cell? ⟨k, 4, none⟩ = some a4 ∧ w.cell? ⟨k, 5, none⟩ = some a5 ∧ w.cell? ⟨k, 6, none⟩ = some a6 ∧ w.cell? ⟨k, 7, none⟩ = some a7 ∧ w.cell? ⟨k, 8, none⟩ = some a8 ∧ w.cell? ⟨k, 9, none⟩ = some a9 ∧ w.cell? ⟨k, 10, none⟩ = some a10 ∧ w.cell? ⟨k, 11, none⟩ = some a11 ∧ w.cell? ⟨k, 12, none⟩ = some a12 ∧ w.cell? ⟨k, 13, none⟩ = some a13 ∧ w.cell? ⟨k, 14, none⟩ = some a14 := by
  refine ⟨?_, ?_, ?_, ?_, ?_, ?_, ?_, ?_, ?_, ?_, ?_, ?_, ?_, ?_, ?_⟩ <;> (rw [cellOf h]; rfl)
set_option maxRecDepth 100000 in
set_option maxHeartbeats 16000000 in
theorem flowParts_walk (p : Pr) (w : World) (hS : Shapes w) (ht : Tab w) (hp : p.Is w.heap.size w) : Calls Tryz.prog 5 #[p.val] w fun r w' => r = .returned (.bool true) ∧ Below w.heap.size w w' := by
  have hS3 := hS.size
  have hli := fun (W : World) (hW : Below w.heap.size w W) => live_flow W (hS.below hW hS3) (ht.below hW (by omega))
  have hnum := num_flow
  have HFL := hid (fun (h1 : p.size ≤ 400) (h2 : p.mons.length ≤ 20) (h3 : ∀ m ∈ p.mons, m.vars.length ≤ 40) (W : World) (hW : Below w.heap.size w W) => flows_told p w.heap.size W hW.size (hp.below hW) (hS.below hW hS3) (ht.below hW (by omega)) (by have := hW.size; omega) h1 h2 h3)
  have hsm : ∀ W, Below w.heap.size w W → Calls Tryz.prog 7 #[p.val, .int .i64 400] W fun r w' => ∃ c : Bool, r = .returned (.bool c) ∧ (c = true → p.size ≤ 400 ∧ p.mons.length ≤ 20 ∧ ∀ m ∈ p.mons, m.vars.length ≤ 40) ∧ Below W.heap.size W w' := fun W hW => small_any4 w.heap.size p W hW.size (hp.below hW)
  obtain ⟨b1, hB, hz0⟩ := one_box w #[.slice p.mad p.mons.length p.mcap, .slice p.rad p.roles.length p.rcap] 25
  simp only [Pr.val] at hsm HFL ⊢
  go_enter Tryz.func5, Tryz.ntmps5
  go_upto_region 1 with fail
  obtain ⟨W0, hW0⟩ : ∃ W0, w.alloc (.cells #[.slice p.mad p.mons.length p.mcap, .slice p.rad p.roles.length p.rcap] 25) = W0 := ⟨_, rfl⟩
  rw [hW0] at b1 hB hz0 ⊢
  have HZ0 := hid hz0
  have hcell : ∀ W, Below W0.heap.size W0 W → W.cell? ⟨w.heap.size, 0, none⟩ = some (.slice p.mad p.mons.length p.mcap) ∧ W.cell? ⟨w.heap.size, 1, none⟩ = some (.slice p.rad p.roles.length p.rcap) := by
    intro W hW
    have hb := (hW.block w.heap.size (by omega)).trans b1
    exact ⟨by rw [cellOf hb]; rfl, by rw [cellOf hb]; rfl⟩
  clear hW0 b1 hz0
  obtain ⟨p0, p1⟩ := hcell W0 (Below.refl _ _)
  go_upto_if 15 with (go_at_call 7; (with_reducible refine (hsm _ hB).mono ?_); rintro r wa ⟨c, rfl, hsz, ba⟩; have Ba := hB.tr le_rfl' ba; have Ka := (Below.refl W0.heap.size W0).trans ba; cases c)
  · go_wp2_with (go_at_call 8; (with_reducible refine (hli _ Ba).mono ?_); rintro r wz ⟨rfl, bz⟩)
    go_ret
    exact ⟨rfl, Ba.tr le_rfl' bz⟩
  obtain ⟨s1, s2, s3⟩ := hsz trivial
  have hfl := HFL.out s1 s2 s3 wa Ba
  obtain ⟨q0, q1⟩ := hcell wa Ka
  clear hsm hsz HFL p0 p1 s1 s2 s3
  go_upto_region 4 with (go_at_call 14; (with_reducible refine hfl.mono ?_); rintro r wb ⟨hh, bb⟩; have Bb := Ba.tr le_rfl' bb; rcases hh with ⟨x, y, hx, rfl⟩ | ⟨lad, lcp, l, rfl, hs, hI, HOK⟩)
  · have hxb : (x == 0) = false := by rw [beq_eq_false_iff_ne]; exact hx
    have hxb2 : (x != 0) = true := by rw [bne, hxb]; rfl
    go_wp2_with (first
      | (go_at_call 13; (with_reducible refine (hnum _ _).mono ?_); rintro rr ww ⟨rfl, hw'⟩; have hw2 := hw'.symm; subst hw2)
      | (go_at_call 8; (with_reducible refine (hli _ Bb).mono ?_); rintro r wz ⟨rfl, bz⟩))
    go_ret
    exact ⟨rfl, Bb.tr le_rfl' bz⟩
  clear q0 q1 hfl hcell HZ0 Ka
  have hl1 := hs.1; have hl2 := hs.2.1
  unfold maxLen at hl2
  go_wp2_with (go_at_call 13; (with_reducible refine (hnum _ _).mono ?_); rintro rr ww ⟨rfl, hw'⟩; have hw2 := hw'.symm; subst hw2)
  go_loopw [6] (fun i wr => ∃ j : Nat, j ≤ l.length ∧ i = .int .i64 j ∧ Below wb.heap.size wb wr)
    (fun i _ => l.length - (intOf i).toNat)
  case atStart => exact ⟨0, by omega, rfl, Below.refl _ _⟩
  case round =>
    obtain ⟨j, hj, rfl, hbw⟩ := hrel
    have Bw := Bb.tr le_rfl' hbw
    by_cases hlt : j < l.length
    · rcases hs.2.2 with h | ⟨lb, loff, rfl, hlbn, hlrow⟩
      · subst h; simp at hlt
      have hlw : lb < wr.heap.size := by have := hbw.size; omega
      have hrow2 := hlrow.below hbw hlbn
      have hfI := hI _ (List.getElem_mem hlt)
      have hok := HOK.out _ (List.getElem_mem hlt)
      rcases he : l[j] with ⟨name, star, locs, ead, ecap, es, gad, gcap, gs⟩
      obtain ⟨d0, d1, d2, d3, d4⟩ := row5 hrow2 j hlt (by rw [he]; rfl)
      rw [he] at hfI hok
      obtain ⟨HPA, HGU, hlocs, hesl, hgsl⟩ := hok
      obtain ⟨⟨hes, heI⟩, hgs, hgI⟩ := hfI
      simp only at HPA HGU hlocs hesl hgsl hes heI hgs hgI
      have hes1 := hes.1; have hes2 := hes.2.1
      have hgs1 := hgs.1; have hgs2 := hgs.2.1
      unfold maxLen at hes2 hgs2
      clear he hrow2
      have HLJ := hid hlt
      go_upto_region 10 with fail
      obtain ⟨bF, hBF, hzF⟩ := one_box wr #[.string name, .bool star, .int .i64 locs, .slice ead es.length ecap, .slice gad gs.length gcap] 33
      obtain ⟨F, hF⟩ : ∃ F, wr.heap.size = F := ⟨_, rfl⟩
      obtain ⟨W1, hW1⟩ : ∃ W1, wr.alloc (.cells #[.string name, .bool star, .int .i64 locs, .slice ead es.length ecap, .slice gad gs.length gcap] 33) = W1 := ⟨_, rfl⟩
      rw [hW1] at bF hBF ⊢
      rw [hF] at bF ⊢
      have hb1 : Below wb.heap.size wb W1 := hbw.tr le_rfl' hBF
      have HB1 := hid hb1
      have HC : Hid (∀ W, Below W1.heap.size W1 W → W.heap[F]? = some (.cells #[.string name, .bool star, .int .i64 locs, .slice ead es.length ecap, .slice gad gs.length gcap] 33 (0, 0))) := fun W hW => (hW.block F (Array.getElem?_eq_some_iff.1 bF).1).trans bF
      have HFW : Hid (F < W1.heap.size) := (Array.getElem?_eq_some_iff.1 bF).1
      clear d0 d1 d2 d3 d4 hzF hF hW1 hBF hlw
      obtain ⟨wo, hwo⟩ : ∃ wo : World, wo = wr := ⟨_, rfl⟩
      subst hwo
      have f2 := cellOf bF 2
      simp at f2
      go_wp2
      go_loopw [8] (fun i wx => ∃ a : Nat, i = .int .i64 a ∧ (a : Int) ≤ 600 ∧ Below W1.heap.size W1 wx)
        (fun i _ => locs.toNat - (intOf i).toNat)
      case atStart => exact ⟨0, rfl, by omega, Below.refl _ _⟩
      case round =>
        obtain ⟨a, rfl, ha6, hbx⟩ := hrel
        have hFx := HC.out _ hbx
        have hb2 : Below wb.heap.size wb wr := HB1.out.tr le_rfl' hbx
        have hzx := hb2.size
        obtain ⟨f0, f1, f2', f3, f4, f5⟩ := fiveP hFx
        clear f2
        by_cases hal : (a : Int) < locs
        · have had : decide ((a : Int) < locs) = true := by simpa using hal
          have hq17 := out_any name star locs ead ecap es gad gcap gs (a : Int) wb.heap.size wr hzx (hes.below hb2) (by omega)
          have hpa := HPA (a : Int) (by omega)
          have hol := Nat.le_trans (outI_len (a : Int) es 0) hesl
          obtain ⟨o, ho⟩ : ∃ o, outI (a : Int) es 0 = o := ⟨_, rfl⟩
          have HAT := hid (fun k hk => out_at2 hpa ho k hk)
          have HTW := hid (fun hk => out_two2 hpa ho hk)
          rw [ho] at hq17 hol
          simp only [IntBack] at hq17
          clear ho hpa
          go_upto_region 14 with (go_at_call 17; (with_reducible refine hq17.mono ?_); rintro r W2 ⟨oad, ocp, rfl, hos, bo⟩)
          have hb3 := hb2.tr le_rfl' bo
          have hb3x := hbx.tr le_rfl' bo
          have HB3 := hid hb3
          have HB3X := hid hb3x
          have ho1 := hos.1; have ho2 := hos.2.1
          unfold maxLen at ho2
          clear f0 f1 f2' f3 f4 f5 hFx hq17
          obtain ⟨wx, hwx⟩ : ∃ wx : World, wx = wr := ⟨_, rfl⟩
          subst hwx
          go_wp2
          go_loopw [10] (fun i wy => ∃ k : Nat, k ≤ o.length ∧ i = .int .i64 k ∧ Below W2.heap.size W2 wy)
            (fun i _ => o.length - (intOf i).toNat)
          case atStart => exact ⟨0, by omega, rfl, Below.refl _ _⟩
          case round =>
            obtain ⟨k, hk, rfl, hby⟩ := hrel
            have hb4 := HB3.out.tr le_rfl' hby
            have hb4x := HB3X.out.tr le_rfl' hby
            have hFx := HC.out _ hb4x
            obtain ⟨f0, f1, f2, f3, f4, f5⟩ := fiveP hFx
            have hF4 : F < wr.heap.size := (Array.getElem?_eq_some_iff.1 hFx).1
            by_cases hlk : k < o.length
            · obtain ⟨jx, hjx, j0, hj0, ok1, ok0, hsrc, hd0, hdl, hk29, hk9, hk00⟩ := HAT.out k hlk
              rcases hes.2.2 with hne | ⟨eb, eoff, rfl, hebn, herow⟩
              · subst hne; simp at hjx
              have herow4 := herow.below hb4 hebn
              have hebw : eb < wr.heap.size := by have := hb4.size; omega
              rcases hos.2.2 with hne | ⟨ob, ooff, rfl, hobn, horow⟩
              · subst hne; simp at hlk
              have horow4 := horow.below hby hobn
              have c1 := horow4 k hlk 0 (by omega)
              have c0 := horow4 0 (by omega) 0 (by omega)
              rw [ok1] at c1
              rw [ok0] at c0
              simp only [icell, Nat.mul_one, Nat.add_zero, List.getElem?_cons_zero] at c1 c0
              have kd : wr.cell? ⟨eb, eoff + j0 * 15 + 2, none⟩ = some (.int .i64 es[jx].kind) := by
                rw [herow4 j0 hj0 2 (by omega), hk00]
                rcases es[j0] with ⟨y1, y2, y3, y4, y5, ⟨z1, z2, z3, z4, z5, z6, z7, z8⟩, y7, y8, y9, y10⟩
                rfl
              have hobw : ob < wr.heap.size := by have := hby.size; omega
              have hbn : Below W2.heap.size W2 (wr.alloc (.cells #[] 57)) := hby.al le_rfl' _
              have HBY := hid hby
              have hlk2 : decide ((k : Int) < (o.length : Int)) = true := by simp; omega
              have h0o : 0 < o.length := by omega
              rcases hx : es[jx] with ⟨y1, y2, y3, y4, y5, ⟨z1, z2, z3, z4, z5, z6, z7, z8⟩, y7, y8, y9, y10⟩
              obtain ⟨e0, e1, e2, e3, e4, e5, e6, e7, e8, e9, e10, e11, e12, e13, e14⟩ := row15 herow4 jx hjx (by rw [hx]; rfl)
              rw [hx] at hsrc hd0 hdl hk29 hk9 kd
              simp only at hsrc hd0 hdl hk29 hk9 kd
              subst hsrc
              have hdd : decide (y2 < 0) = false := by simp; omega
              have hdl2 : decide (locs ≤ y2) = false := by simp; omega
              have HK17 : Hid (∀ W, Below wr.heap.size wr W → W.cell? ⟨F, 3, none⟩ = some (.slice (some ⟨eb, eoff, none⟩) es.length ecap) ∧ W.cell? ⟨ob, ooff + k, none⟩ = some (.int .i64 (jx : Int)) ∧ W.cell? ⟨eb, eoff + jx * 15, none⟩ = some (.int .i64 (a : Int)) ∧ W.cell? ⟨eb, eoff + jx * 15 + 1, none⟩ = some (.int .i64 y2) ∧ W.cell? ⟨eb, eoff + jx * 15 + 2, none⟩ = some (.int .i64 y3) ∧ W.cell? ⟨eb, eoff + jx * 15 + 3, none⟩ = some (.int .i64 y4) ∧ W.cell? ⟨eb, eoff + jx * 15 + 4, none⟩ = some (.int .i64 y5) ∧ W.cell? ⟨eb, eoff + jx * 15 + 5, none⟩ = some (.int .i64 z1) ∧ W.cell? ⟨eb, eoff + jx * 15 + 6, none⟩ = some (.string z2) ∧ W.cell? ⟨eb, eoff + jx * 15 + 7, none⟩ = some (.string z3) ∧ W.cell? ⟨eb, eoff + jx * 15 + 8, none⟩ = some (.int .i64 z4) ∧ W.cell? ⟨eb, eoff + jx * 15 + 9, none⟩ = some (.slice z5 z7.length z6) ∧ W.cell? ⟨eb, eoff + jx * 15 + 10, none⟩ = some (.int .i64 z8) ∧ W.cell? ⟨eb, eoff + jx * 15 + 11, none⟩ = some (.int .i64 y7) ∧ W.cell? ⟨eb, eoff + jx * 15 + 12, none⟩ = some (.int .i64 y8) ∧ W.cell? ⟨eb, eoff + jx * 15 + 13, none⟩ = some (.int .i64 y9) ∧ W.cell? ⟨eb, eoff + jx * 15 + 14, none⟩ = some (.int .i64 y10)) := fun W hW => ⟨(hW.cell (p := ⟨F, 3, none⟩) hF4).trans f3, (hW.cell (p := ⟨ob, _, none⟩) hobw).trans c1, (hW.cell (p := ⟨eb, _, none⟩) hebw).trans e0, (hW.cell (p := ⟨eb, _, none⟩) hebw).trans e1, (hW.cell (p := ⟨eb, _, none⟩) hebw).trans e2, (hW.cell (p := ⟨eb, _, none⟩) hebw).trans e3, (hW.cell (p := ⟨eb, _, none⟩) hebw).trans e4, (hW.cell (p := ⟨eb, _, none⟩) hebw).trans e5, (hW.cell (p := ⟨eb, _, none⟩) hebw).trans e6, (hW.cell (p := ⟨eb, _, none⟩) hebw).trans e7, (hW.cell (p := ⟨eb, _, none⟩) hebw).trans e8, (hW.cell (p := ⟨eb, _, none⟩) hebw).trans e9, (hW.cell (p := ⟨eb, _, none⟩) hebw).trans e10, (hW.cell (p := ⟨eb, _, none⟩) hebw).trans e11, (hW.cell (p := ⟨eb, _, none⟩) hebw).trans e12, (hW.cell (p := ⟨eb, _, none⟩) hebw).trans e13, (hW.cell (p := ⟨eb, _, none⟩) hebw).trans e14⟩
              have HX2 : Hid (∀ W, Below wr.heap.size wr W → W.cell? ⟨F, 2, none⟩ = some (.int .i64 locs) ∧ W.cell? ⟨F, 3, none⟩ = some (.slice (some ⟨eb, eoff, none⟩) es.length ecap) ∧ W.cell? ⟨ob, ooff, none⟩ = some (.int .i64 (j0 : Int)) ∧ W.cell? ⟨eb, eoff + j0 * 15 + 2, none⟩ = some (.int .i64 y3)) := fun W hW => ⟨(hW.cell (p := ⟨F, 2, none⟩) hF4).trans f2, (hW.cell (p := ⟨F, 3, none⟩) hF4).trans f3, (hW.cell (p := ⟨ob, _, none⟩) hobw).trans c0, (hW.cell (p := ⟨eb, _, none⟩) hebw).trans kd⟩
              clear hx herow4 horow4 ok1 ok0 hk00 hbn hFx hb4 hb4x HTW HAT c0 c1 kd f0 f1 f2 f3 f4 f5 e0 e1 e2 e3 e4 e5 e6 e7 e8 e9 e10 e11 e12 e13 e14 herow horow HPA
              obtain ⟨wy, hwy⟩ : ∃ wy : World, wy = wr := ⟨_, rfl⟩
              subst hwy
              as_aux_lemma =>
                go_upto_region 17 with fail
                go_cut [11] (fun t11 wx => ∃ X, t11 = .pointer (some ⟨X, 0, none⟩) ∧ Hid (wx.heap[X]? = some (.cells #[.int .i64 (a : Int), .int .i64 y2, .int .i64 y3, .int .i64 y4, .int .i64 y5, .int .i64 z1, .string z2, .string z3, .int .i64 z4, .slice z5 z7.length z6, .int .i64 z8, .int .i64 y7, .int .i64 y8, .int .i64 y9, .int .i64 y10] 57 (0, 0))) ∧ Below wy.heap.size wy wx)
                case first =>
                  have BB := Below.refl wy.heap.size wy
                  go_region_held3 (fun W => W.cell? ⟨F, 3, none⟩ = some (.slice (some ⟨eb, eoff, none⟩) es.length ecap) ∧ W.cell? ⟨ob, ooff + k, none⟩ = some (.int .i64 (jx : Int)) ∧ W.cell? ⟨eb, eoff + jx * 15, none⟩ = some (.int .i64 (a : Int)) ∧ W.cell? ⟨eb, eoff + jx * 15 + 1, none⟩ = some (.int .i64 y2) ∧ W.cell? ⟨eb, eoff + jx * 15 + 2, none⟩ = some (.int .i64 y3) ∧ W.cell? ⟨eb, eoff + jx * 15 + 3, none⟩ = some (.int .i64 y4) ∧ W.cell? ⟨eb, eoff + jx * 15 + 4, none⟩ = some (.int .i64 y5) ∧ W.cell? ⟨eb, eoff + jx * 15 + 5, none⟩ = some (.int .i64 z1) ∧ W.cell? ⟨eb, eoff + jx * 15 + 6, none⟩ = some (.string z2) ∧ W.cell? ⟨eb, eoff + jx * 15 + 7, none⟩ = some (.string z3) ∧ W.cell? ⟨eb, eoff + jx * 15 + 8, none⟩ = some (.int .i64 z4) ∧ W.cell? ⟨eb, eoff + jx * 15 + 9, none⟩ = some (.slice z5 z7.length z6) ∧ W.cell? ⟨eb, eoff + jx * 15 + 10, none⟩ = some (.int .i64 z8) ∧ W.cell? ⟨eb, eoff + jx * 15 + 11, none⟩ = some (.int .i64 y7) ∧ W.cell? ⟨eb, eoff + jx * 15 + 12, none⟩ = some (.int .i64 y8) ∧ W.cell? ⟨eb, eoff + jx * 15 + 13, none⟩ = some (.int .i64 y9) ∧ W.cell? ⟨eb, eoff + jx * 15 + 14, none⟩ = some (.int .i64 y10)) (first | exact HK17.out _ BB | exact HK17.out _ BB.drew | exact HK17.out _ (BB.al le_rfl' _) | exact HK17.out _ (BB.drew.al le_rfl' _)) (fail)
                  all_goals go_wp2
                  all_goals go_meet
                  all_goals exact ⟨wy.heap.size, rfl, heapNew _ _, (BB.al le_rfl' _).drew⟩
                case rest =>
                  obtain ⟨X, rfl, HX, bz⟩ := hcut
                  obtain ⟨x0, x1, x2, x3, x4, x5, x6, x7, x8, x9, x10, x11, x12, x13, x14⟩ := cells15 HX.out
                  obtain ⟨f2, f3, c0, kd⟩ := HX2.out _ bz
                  have HBY2 := hid (HBY.out.tr le_rfl' bz)
                  clear HK17 HX2
                  by_cases h1 : 1 < o.length
                  · have hd1 : decide ((1 : Int) < (o.length : Int)) = true := by simp; omega
                    rcases hk29 h1 with rfl | rfl
                    · clear hk29 hk9
                      go_wp2_with fail
                      go_quiet (fail)
                      go_wp2
                      go_roundw
                      case rel => exact ⟨k + 1, by omega, by go_num, below_drewN HBY2.out _⟩
                      case measure => simp [intOf]; omega
                    · have hy7 := hk9 rfl
                      subst hy7
                      clear hk29 hk9
                      go_wp2_with fail
                      go_quiet (fail)
                      go_wp2
                      go_roundw
                      case rel => exact ⟨k + 1, by omega, by go_num, below_drewN HBY2.out _⟩
                      case measure => simp [intOf]; omega
                  · have hd1 : decide ((1 : Int) < (o.length : Int)) = false := by simp; omega
                    by_cases h9 : y3 = 9
                    · subst h9
                      have hy7 := hk9 rfl
                      subst hy7
                      clear hk29 hk9
                      go_wp2_with fail
                      go_quiet (fail)
                      go_wp2
                      go_roundw
                      case rel => exact ⟨k + 1, by omega, by go_num, below_drewN HBY2.out _⟩
                      case measure => simp [intOf]; omega
                    · have h9b : (y3 == 9) = false := by rw [beq_eq_false_iff_ne]; exact h9
                      clear hk29 hk9
                      go_wp2_with fail
                      go_quiet (fail)
                      go_wp2
                      go_roundw
                      case rel => exact ⟨k + 1, by omega, by go_num, below_drewN HBY2.out _⟩
                      case measure => simp [intOf]; omega
            · have hlk2 : decide ((k : Int) < (o.length : Int)) = false := by simp; omega
              have HBX := hid hb4x
              have HBF := hid hb4
              by_cases h0o : 0 < o.length
              · have h0d : decide ((0 : Int) < (o.length : Int)) = true := by simp; omega
                obtain ⟨j0, hj0, ok0, hT⟩ := HTW.out h0o
                rcases hes.2.2 with hne | ⟨eb, eoff, rfl, hebn, herow⟩
                · subst hne; simp at hj0
                have herow4 := herow.below hb4 hebn
                have hebw : eb < wr.heap.size := by have := hb4.size; omega
                rcases hos.2.2 with hne | ⟨ob, ooff, rfl, hobn, horow⟩
                · subst hne; simp at h0o
                have horow4 := horow.below hby hobn
                have hobw : ob < wr.heap.size := by have := hby.size; omega
                have c0 := horow4 0 h0o 0 (by omega)
                rw [ok0] at c0
                simp only [icell, Nat.mul_one, Nat.add_zero, List.getElem?_cons_zero] at c0
                have heI0 := heI _ (List.getElem_mem hj0)
                rcases hx : es[j0] with ⟨y1, y2, y3, y4, y5, ⟨z1, z2, z3, z4, z5, z6, z7, z8⟩, y7, y8, y9, y10⟩
                obtain ⟨e0, e1, e2, e3, e4, e5, e6, e7, e8, e9, e10, e11, e12, e13, e14⟩ := row15 herow4 j0 hj0 (by rw [hx]; rfl)
                rw [hx] at hT heI0
                simp only at hT heI0
                clear hx ok0 HAT HTW
                by_cases hk2 : y3 = 2
                · subst hk2
                  obtain ⟨h2, j1, hj1, ok1, hop, q, hq, hsame⟩ := hT rfl
                  have c1 := horow4 1 (by omega) 0 (by omega)
                  rw [ok1] at c1
                  simp only [icell, Nat.mul_one, Nat.add_zero, List.getElem?_cons_zero] at c1
                  have heI1 := heI _ (List.getElem_mem hj1)
                  rcases hx1 : es[j1] with ⟨x1, x2, x3, x4, x5, ⟨u1, u2, u3, u4, u5, u6, u7, u8⟩, x7, x8, x9, x10⟩
                  obtain ⟨-, -, -, -, -, i5, i6, i7, i8, i9, i10, -, -, -, -⟩ := row15 herow4 j1 hj1 (by rw [hx1]; rfl)
                  rw [hx1] at hop hq heI1
                  simp only [Ex.opr, Ex.kids] at hop hq heI1
                  subst hop
                  subst hq
                  have hd := heI1.down
                  obtain ⟨-, hks, hkI⟩ := hd
                  have hqI := hkI q (by simp)
                  rcases hks.2.2 with hne | ⟨kb, koff, rfl, hkbn, hkrow⟩
                  · cases hne
                  have hkrow4 := hkrow.below hb4 hkbn
                  have hkbw : kb < wr.heap.size := by have := hb4.size; omega
                  have hu6 := hks.1
                  have hu62 := hks.2.1
                  unfold maxLen at hu62
                  rcases q with ⟨q1, q2, q3, q4, q5, q6, q7, q8⟩
                  obtain ⟨r0, r1, r2, r3, r4, r5⟩ := row6 hkrow4 0 (by simp) rfl
                  have HSE : Hid (∀ W, Below wr.heap.size wr W → Calls Tryz.prog 19 #[.agg #[.int .i64 q1, .string q2, .string q3, .int .i64 q4, .slice q5 q7.length q6, .int .i64 q8], .agg #[.int .i64 z1, .string z2, .string z3, .int .i64 z4, .slice z5 z7.length z6, .int .i64 z8]] W fun r w' => r = .returned (.bool true) ∧ Below W.heap.size W w') := fun W hW => by
                    have h := refSameExpr_any wb.heap.size _ _ W (by have := (hb4.tr le_rfl' hW).size; omega) (hqI.below (hb4.tr le_rfl' hW)) (heI0.below (hb4.tr le_rfl' hW))
                    rw [hsame] at h
                    exact h
                  simp only [Nat.zero_mul, Nat.add_zero] at r0 r1 r2 r3 r4 r5
                  clear hT hx1 ok1 hsame hkrow4 hkrow herow4 horow4 hqI hkI hks heI1 heI0 HPA hFx
                  have h2b : ((o.length : Int) != 2) = false := by
                    have : (o.length : Int) = 2 := by omega
                    rw [this]; rfl
                  simp only [List.length_cons, List.length_nil, Nat.zero_add] at i9
                  have HK23 : Hid (∀ W, Below wr.heap.size wr W → W.cell? ⟨F, 3, none⟩ = some (.slice (some ⟨eb, eoff, none⟩) es.length ecap) ∧ W.cell? ⟨ob, ooff + 1, none⟩ = some (.int .i64 (j1 : Int)) ∧ W.cell? ⟨eb, eoff + j1 * 15 + 5, none⟩ = some (.int .i64 5) ∧ W.cell? ⟨eb, eoff + j1 * 15 + 6, none⟩ = some (.string u2) ∧ W.cell? ⟨eb, eoff + j1 * 15 + 7, none⟩ = some (.string u3) ∧ W.cell? ⟨eb, eoff + j1 * 15 + 8, none⟩ = some (.int .i64 u4) ∧ W.cell? ⟨eb, eoff + j1 * 15 + 9, none⟩ = some (.slice (some ⟨kb, koff, none⟩) 1 u6) ∧ W.cell? ⟨eb, eoff + j1 * 15 + 10, none⟩ = some (.int .i64 u8)) := fun W hW => ⟨(hW.cell (p := ⟨F, 3, none⟩) hF4).trans f3, (hW.cell (p := ⟨ob, _, none⟩) hobw).trans c1, (hW.cell (p := ⟨eb, _, none⟩) hebw).trans i5, (hW.cell (p := ⟨eb, _, none⟩) hebw).trans i6, (hW.cell (p := ⟨eb, _, none⟩) hebw).trans i7, (hW.cell (p := ⟨eb, _, none⟩) hebw).trans i8, (hW.cell (p := ⟨eb, _, none⟩) hebw).trans i9, (hW.cell (p := ⟨eb, _, none⟩) hebw).trans i10⟩
                  have HK24 : Hid (∀ W, Below wr.heap.size wr W → W.cell? ⟨F, 3, none⟩ = some (.slice (some ⟨eb, eoff, none⟩) es.length ecap) ∧ W.cell? ⟨ob, ooff, none⟩ = some (.int .i64 (j0 : Int)) ∧ W.cell? ⟨kb, koff, none⟩ = some (.int .i64 q1) ∧ W.cell? ⟨kb, koff + 1, none⟩ = some (.string q2) ∧ W.cell? ⟨kb, koff + 2, none⟩ = some (.string q3) ∧ W.cell? ⟨kb, koff + 3, none⟩ = some (.int .i64 q4) ∧ W.cell? ⟨kb, koff + 4, none⟩ = some (.slice q5 q7.length q6) ∧ W.cell? ⟨kb, koff + 5, none⟩ = some (.int .i64 q8) ∧ W.cell? ⟨eb, eoff + j0 * 15 + 5, none⟩ = some (.int .i64 z1) ∧ W.cell? ⟨eb, eoff + j0 * 15 + 6, none⟩ = some (.string z2) ∧ W.cell? ⟨eb, eoff + j0 * 15 + 7, none⟩ = some (.string z3) ∧ W.cell? ⟨eb, eoff + j0 * 15 + 8, none⟩ = some (.int .i64 z4) ∧ W.cell? ⟨eb, eoff + j0 * 15 + 9, none⟩ = some (.slice z5 z7.length z6) ∧ W.cell? ⟨eb, eoff + j0 * 15 + 10, none⟩ = some (.int .i64 z8)) := fun W hW => ⟨(hW.cell (p := ⟨F, 3, none⟩) hF4).trans f3, (hW.cell (p := ⟨ob, _, none⟩) hobw).trans c0, (hW.cell (p := ⟨kb, _, none⟩) hkbw).trans r0, (hW.cell (p := ⟨kb, _, none⟩) hkbw).trans r1, (hW.cell (p := ⟨kb, _, none⟩) hkbw).trans r2, (hW.cell (p := ⟨kb, _, none⟩) hkbw).trans r3, (hW.cell (p := ⟨kb, _, none⟩) hkbw).trans r4, (hW.cell (p := ⟨kb, _, none⟩) hkbw).trans r5, (hW.cell (p := ⟨eb, _, none⟩) hebw).trans e5, (hW.cell (p := ⟨eb, _, none⟩) hebw).trans e6, (hW.cell (p := ⟨eb, _, none⟩) hebw).trans e7, (hW.cell (p := ⟨eb, _, none⟩) hebw).trans e8, (hW.cell (p := ⟨eb, _, none⟩) hebw).trans e9, (hW.cell (p := ⟨eb, _, none⟩) hebw).trans e10⟩
                  have h1o : 1 < o.length := by omega
                  clear hb4 hb4x
                  go_wp2_with fail
                  go_quiet (fail)
                  clear c0 c1 f0 f1 f2 f3 f4 f5 e0 e1 e2 e3 e4 e5 e6 e7 e8 e9 e10 e11 e12 e13 e14 i5 i6 i7 i8 i9 i10 r0 r1 r2 r3 r4 r5 herow horow
                  as_aux_lemma =>
                    go_upto_region 23 with fail
                    obtain ⟨wv, hwv⟩ : ∃ wv, wr.drewN nq = wv := ⟨_, rfl⟩
                    have hzv : wr.heap.size = wv.heap.size := by rw [← hwv]; rfl
                    have BV : Below wr.heap.size wr wv := by rw [← hwv]; exact below_drewN (Below.refl _ _) _
                    rw [hwv]
                    replace HK23 := hid (fun W (hW : Below wv.heap.size wv W) => HK23.out W (BV.tr le_rfl' hW))
                    replace HK24 := hid (fun W (hW : Below wv.heap.size wv W) => HK24.out W (BV.tr le_rfl' hW))
                    replace HSE := hid (fun W (hW : Below wv.heap.size wv W) => HSE.out W (BV.tr le_rfl' hW))
                    replace HBX := hid (HBX.out.tr le_rfl' BV)
                    clear hwv
                    go_cut [12] (fun t12 wx => ∃ X, t12 = .pointer (some ⟨X, 0, none⟩) ∧ Hid (wx.heap[X]? = some (.cells #[.int .i64 5, .string u2, .string u3, .int .i64 u4, .slice (some ⟨kb, koff, none⟩) 1 u6, .int .i64 u8] 55 (0, 0))) ∧ Below wv.heap.size wv wx)
                    case first =>
                      have BB := Below.refl wv.heap.size wv
                      go_region_held3 (fun W => W.cell? ⟨F, 3, none⟩ = some (.slice (some ⟨eb, eoff, none⟩) es.length ecap) ∧ W.cell? ⟨ob, ooff + 1, none⟩ = some (.int .i64 (j1 : Int)) ∧ W.cell? ⟨eb, eoff + j1 * 15 + 5, none⟩ = some (.int .i64 5) ∧ W.cell? ⟨eb, eoff + j1 * 15 + 6, none⟩ = some (.string u2) ∧ W.cell? ⟨eb, eoff + j1 * 15 + 7, none⟩ = some (.string u3) ∧ W.cell? ⟨eb, eoff + j1 * 15 + 8, none⟩ = some (.int .i64 u4) ∧ W.cell? ⟨eb, eoff + j1 * 15 + 9, none⟩ = some (.slice (some ⟨kb, koff, none⟩) 1 u6) ∧ W.cell? ⟨eb, eoff + j1 * 15 + 10, none⟩ = some (.int .i64 u8)) (exact HK23.out _ (by first | exact BB | exact BB.drew | exact below_drewN BB _ | exact (below_drewN BB _).drew | exact BB.al le_rfl' _ | exact BB.drew.al le_rfl' _ | exact (below_drewN BB _).al le_rfl' _ | exact (below_drewN BB _).drew.al le_rfl' _)) (fail)
                      all_goals go_wp2
                      all_goals go_meet
                      all_goals exact ⟨wv.heap.size, rfl, heapNew _ _, (by first | exact BB | exact BB.drew | exact below_drewN BB _ | exact (below_drewN BB _).drew | exact BB.al le_rfl' _ | exact BB.drew.al le_rfl' _ | exact (below_drewN BB _).al le_rfl' _ | exact (below_drewN BB _).drew.al le_rfl' _ | exact (BB.al le_rfl' _).drew | exact ((below_drewN BB _).al le_rfl' _).drew)⟩
                    case rest =>
                      obtain ⟨X, rfl, HX, bz⟩ := hcut
                      rename_i wc _ _
                      have HKK : Hid (∀ W, Below wc.heap.size wc W → (W.cell? ⟨X, 0, none⟩ = some (.int .i64 5) ∧ W.cell? ⟨X, 4, none⟩ = some (.slice (some ⟨kb, koff, none⟩) 1 u6)) ∧ W.cell? ⟨F, 3, none⟩ = some (.slice (some ⟨eb, eoff, none⟩) es.length ecap) ∧ W.cell? ⟨ob, ooff, none⟩ = some (.int .i64 (j0 : Int)) ∧ W.cell? ⟨kb, koff, none⟩ = some (.int .i64 q1) ∧ W.cell? ⟨kb, koff + 1, none⟩ = some (.string q2) ∧ W.cell? ⟨kb, koff + 2, none⟩ = some (.string q3) ∧ W.cell? ⟨kb, koff + 3, none⟩ = some (.int .i64 q4) ∧ W.cell? ⟨kb, koff + 4, none⟩ = some (.slice q5 q7.length q6) ∧ W.cell? ⟨kb, koff + 5, none⟩ = some (.int .i64 q8) ∧ W.cell? ⟨eb, eoff + j0 * 15 + 5, none⟩ = some (.int .i64 z1) ∧ W.cell? ⟨eb, eoff + j0 * 15 + 6, none⟩ = some (.string z2) ∧ W.cell? ⟨eb, eoff + j0 * 15 + 7, none⟩ = some (.string z3) ∧ W.cell? ⟨eb, eoff + j0 * 15 + 8, none⟩ = some (.int .i64 z4) ∧ W.cell? ⟨eb, eoff + j0 * 15 + 9, none⟩ = some (.slice z5 z7.length z6) ∧ W.cell? ⟨eb, eoff + j0 * 15 + 10, none⟩ = some (.int .i64 z8)) := fun W hW => ⟨⟨(cellOf ((hW.block X (Array.getElem?_eq_some_iff.1 HX.out).1).trans HX.out) 0).trans rfl, (cellOf ((hW.block X (Array.getElem?_eq_some_iff.1 HX.out).1).trans HX.out) 4).trans rfl⟩, HK24.out W (bz.tr le_rfl' hW)⟩
                      have HSE2 := hid (fun W (hW : Below wc.heap.size wc W) => HSE.out W (bz.tr le_rfl' hW))
                      have HBZ := hid (HBX.out.tr le_rfl' bz)
                      have BB := Below.refl wc.heap.size wc
                      clear HK23 HK24 HSE
                      go_upto_region 24 with fail
                      go_region_held3 (fun W => (W.cell? ⟨X, 0, none⟩ = some (.int .i64 5) ∧ W.cell? ⟨X, 4, none⟩ = some (.slice (some ⟨kb, koff, none⟩) 1 u6)) ∧ W.cell? ⟨F, 3, none⟩ = some (.slice (some ⟨eb, eoff, none⟩) es.length ecap) ∧ W.cell? ⟨ob, ooff, none⟩ = some (.int .i64 (j0 : Int)) ∧ W.cell? ⟨kb, koff, none⟩ = some (.int .i64 q1) ∧ W.cell? ⟨kb, koff + 1, none⟩ = some (.string q2) ∧ W.cell? ⟨kb, koff + 2, none⟩ = some (.string q3) ∧ W.cell? ⟨kb, koff + 3, none⟩ = some (.int .i64 q4) ∧ W.cell? ⟨kb, koff + 4, none⟩ = some (.slice q5 q7.length q6) ∧ W.cell? ⟨kb, koff + 5, none⟩ = some (.int .i64 q8) ∧ W.cell? ⟨eb, eoff + j0 * 15 + 5, none⟩ = some (.int .i64 z1) ∧ W.cell? ⟨eb, eoff + j0 * 15 + 6, none⟩ = some (.string z2) ∧ W.cell? ⟨eb, eoff + j0 * 15 + 7, none⟩ = some (.string z3) ∧ W.cell? ⟨eb, eoff + j0 * 15 + 8, none⟩ = some (.int .i64 z4) ∧ W.cell? ⟨eb, eoff + j0 * 15 + 9, none⟩ = some (.slice z5 z7.length z6) ∧ W.cell? ⟨eb, eoff + j0 * 15 + 10, none⟩ = some (.int .i64 z8)) (exact HKK.out _ (by first | exact BB | exact BB.drew | exact below_drewN BB _ | exact (below_drewN BB _).drew | exact BB.al le_rfl' _ | exact BB.drew.al le_rfl' _ | exact (below_drewN BB _).al le_rfl' _ | exact (below_drewN BB _).drew.al le_rfl' _))
                        (first | (go_at_call 19; (with_reducible refine (HSE2.out _ (by first | exact BB | exact BB.drew | exact below_drewN BB _ | exact (below_drewN BB _).drew | exact BB.al le_rfl' _ | exact BB.drew.al le_rfl' _ | exact (below_drewN BB _).al le_rfl' _ | exact (below_drewN BB _).drew.al le_rfl' _)).mono ?_); rintro r w19 ⟨rfl, bb⟩; have BB := (show Below _ _ _ from (by first | exact BB | exact BB.drew | exact below_drewN BB _ | exact (below_drewN BB _).drew | exact BB.al le_rfl' _ | exact BB.drew.al le_rfl' _ | exact (below_drewN BB _).al le_rfl' _ | exact (below_drewN BB _).drew.al le_rfl' _)).tr le_rfl' bb))
                      all_goals go_wp2
                      all_goals go_roundw
                      all_goals first
                        | exact ⟨a + 1, by go_num, by omega, HBZ.out.tr le_rfl' (by first | exact BB | exact BB.drew | exact below_drewN BB _ | exact (below_drewN BB _).drew | exact BB.al le_rfl' _ | exact BB.drew.al le_rfl' _ | exact (below_drewN BB _).al le_rfl' _ | exact (below_drewN BB _).drew.al le_rfl' _)⟩
                        | (simp [intOf]; omega)
                · have hk2b : (y3 == 2) = false := by rw [beq_eq_false_iff_ne]; exact hk2
                  clear hT herow4 horow4 heI0 HPA hFx hb4 hb4x
                  go_wp2_with fail
                  go_quiet (fail)
                  go_wp2
                  go_roundw
                  case rel => exact ⟨a + 1, by go_num, by omega, below_drewN HBX.out _⟩
                  case measure => simp [intOf]; omega
              · have h0d : decide ((0 : Int) < (o.length : Int)) = false := decide_eq_false (by omega)
                clear HPA hFx hb4 hb4x
                go_wp2_with fail
                go_quiet (fail)
                go_wp2
                go_roundw
                case rel => exact ⟨a + 1, by go_num, by omega, below_drewN HBX.out _⟩
                case measure => simp [intOf]; omega
        · have had : decide ((a : Int) < locs) = false := by simpa using hal
          go_wp2
          go_roundw
          case rel => exact ⟨j + 1, by have := HLJ.out; omega, by go_num, hb2⟩
          case measure => have := HLJ.out; simp [intOf]; omega
    · have hjd : decide ((j : Int) < (l.length : Int)) = false := by simp; omega
      go_wp2_with (go_at_call 8; (with_reducible refine (hli _ Bw).mono ?_); rintro r wz ⟨rfl, bz⟩)
      go_ret
      exact ⟨rfl, Bw.tr le_rfl' bz⟩
end Go.Proofs.YtbmbchdjjfmafaaGreatDoor
