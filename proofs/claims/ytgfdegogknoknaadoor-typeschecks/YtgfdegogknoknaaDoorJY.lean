/-
  The document's Check of names: the first error of a program, and where.
-/
import Derived.Test.YtgfdegogknoknaaDoorJE
import Derived.Deep.AppendLies
import Derived.Test.YtgfdegogknoknaaDoorJB
namespace Go.Proofs.YtgfdegogknoknaaDoor
open Go.RowKit
/-- An error's number and place, in one form. -/
def eI : Option Int → Int
  | some _ => 61
  | none => 0
def eA : Option Int → Int
  | some a => a
  | none => 0
theorem errUni {f : FuncId} {args : Array Value} {o : Option Int} {w : World} (h : Calls Tryd.prog f args w fun r w' => ErrBack 61 o w w' r) : Calls Tryd.prog f args w fun r w' => r = .returned (.tuple #[.int .i64 (eI o), .int .i64 (eA o)]) ∧ Below w.heap.size w w' :=
  h.mono fun r w' hh => by
    rcases hh.1 with ⟨rfl, h2⟩ | ⟨a, rfl, h2⟩
    · exact ⟨h2, hh.2⟩
    · exact ⟨h2, hh.2⟩
theorem methUni2 {f : FuncId} {args : Array Value} {o : Option Me} {w : World} (h : Calls Tryd.prog f args w fun r w' => MethBack o w w' r) : Calls Tryd.prog f args w fun r w' => ∃ nm ad l cap ps, r = .returned (.tuple #[.agg #[.string nm, .slice ad l cap, .int .i64 ps], .bool o.isSome]) ∧ Below w.heap.size w w' :=
  (methUni h).mono fun _ _ ⟨ad, cap, h1, _, h3⟩ => ⟨_, ad, _, cap, _, h1, h3⟩
def StBl (s : St) : List Bl := match s with | .mk _ _ _ _ _ _ _ blocks _ => blocks
def RefStmts (p : Pr) (b : Bl) : Prop := ∀ (n₀ : Nat) (w : World), n₀ ≤ w.heap.size → p.Is n₀ w → b.Is n₀ w → Calls Tryd.prog 48 #[p.val, b.slice] w fun r w' => ErrBack 61 (b.unk p.lk) w w' r
set_option maxRecDepth 100000 in
set_option maxHeartbeats 64000000 in
theorem refStmts_step (p : Pr) (hvs : vsum p.mons ≤ 1000000) (bad0 : Option Addr) (bcap0 : Nat) (body : List St) (ih : ∀ s ∈ body, ∀ b ∈ StBl s, RefStmts p b) : RefStmts p (.mk bad0 bcap0 body) := by
  intro n₀ w hn hp hI
  have HU := hid (Bl.unk_mk p.lk bad0 bcap0 body)
  have hIk := hI.down.2
  have hsl := hI.down.1
  have hl1 := hsl.1; have hl2 := hsl.2.1
  unfold maxLen at hl2
  obtain ⟨mad, mcap, mons, rad, rcap, roles, HPP⟩ : ∃ mad mcap mons rad rcap roles, Hid (p = ⟨mad, mcap, mons, rad, rcap, roles⟩) := ⟨_, _, _, _, _, _, rfl⟩
  have e1 : p.val = .agg #[.slice mad mons.length mcap, .slice rad roles.length rcap] := by rw [HPP.out]; rfl
  have HE1 := hid e1
  simp only [Bl.slice]
  rw [e1]
  clear e1
  go_enter Tryd.func48, Tryd.ntmps48
  go_upto_region 1 with fail
  obtain ⟨bP, hB, hz⟩ := one_box w #[.slice mad mons.length mcap, .slice rad roles.length rcap] 25
  obtain ⟨W0, hW0⟩ : ∃ W0, w.alloc (.cells #[.slice mad mons.length mcap, .slice rad roles.length rcap] 25) = W0 := ⟨_, rfl⟩
  rw [hW0] at bP hB hz ⊢
  clear hW0
  have r0 := cellOf bP 0
  have r1 := cellOf bP 1
  simp at r0 r1
  have HZ := hid hz
  clear hz bP
  go_wp2
  go_loopw [6] (fun i wr => ∃ j : Nat, j ≤ body.length ∧ i = .int .i64 j ∧ Hid (St.unkL p.lk body = St.unkL p.lk (body.drop j)) ∧ Below W0.heap.size W0 wr)
    (fun i _ => body.length - (intOf i).toNat)
  case atStart => exact ⟨0, by omega, rfl, rfl, Below.refl _ _⟩
  case round =>
    obtain ⟨wo, hwo⟩ : ∃ wo : World, wo = wr := ⟨_, rfl⟩
    subst hwo
    obtain ⟨j, hj, rfl, HQ, hbw⟩ := hrel
    have hz1 := hbw.size
    have hz0 := HZ.out
    have hbF : Below w.heap.size w wo := hB.trans (hbw.mono (by omega))
    have hb0 : Below n₀ w wo := hbF.mono hn
    by_cases hlt : j < body.length
    · rcases hsl.2.2 with h | ⟨gb, goff, rfl, hbn, hrow⟩
      · subst h; simp at hlt
      have hji : (j : Int) < (body.length : Int) := by omega
      have hbn2 : gb < wo.heap.size := by omega
      have HD := hid (St.unkL_drop p.lk body j hlt)
      have hrj := hrow.below hb0 hbn
      have hIs := (hIk _ (List.getElem_mem hlt)).below hb0
      have ihb := ih _ (List.getElem_mem hlt)
      rcases he' : body[j] with ⟨kind, mon, name, n, ⟨eop, emon, ename, en, ead, ecap, ekids, epos⟩, ad, cap, blocks, pos⟩
      obtain ⟨c0, c1, c2, c3, c4, c5, c6, c7, c8, c9, c10, c11⟩ := row12 hrj j hlt (by rw [he']; rfl)
      rw [he'] at HD
      rw [he'] at hIs
      rw [he'] at ihb
      have hIk2 := hIk _ (List.getElem_mem hlt)
      rw [he'] at hIk2
      have hIb := hIk2.down.2.2.2
      have hslb := hIk2.down.2.2.1
      have hIe := hIk2.down.2.1
      clear he' hIs hIk2
      change ∀ b ∈ blocks, RefStmts p b at ihb
      have hlb1 := hslb.1; have hlb2 := hslb.2.1
      unfold maxLen at hlb2
      have HSU := hid (St.unk_mk p.lk kind mon name n ⟨eop, emon, ename, en, ead, ecap, ekids, epos⟩ ad cap blocks pos)
      obtain ⟨kn, hkn⟩ : ∃ kn, (St.mk kind mon name n ⟨eop, emon, ename, en, ead, ecap, ekids, epos⟩ ad cap blocks pos).knows p.lk = kn := ⟨_, rfl⟩
      have HKN : Hid ((if kind = 2 then p.lk.V mon name else if kind = 8 then p.lk.F mon name else if kind = 7 ∨ kind = 9 ∨ kind = 10 ∨ kind = 11 then p.lk.M mon else true) = kn) := hkn
      rw [hkn] at HSU
      clear hkn
      obtain ⟨bS, hBS, hzS⟩ := one_box wo #[.int .i64 kind, .string mon, .string name, .int .i64 n, .int .i64 eop, .string emon, .string ename, .int .i64 en, .slice ead ekids.length ecap, .int .i64 epos, .slice ad blocks.length cap, .int .i64 pos] 70
      have hWF : ∀ W, Below (wo.alloc (.cells #[.int .i64 kind, .string mon, .string name, .int .i64 n, .int .i64 eop, .string emon, .string ename, .int .i64 en, .slice ead ekids.length ecap, .int .i64 epos, .slice ad blocks.length cap, .int .i64 pos] 70)).heap.size (wo.alloc (.cells #[.int .i64 kind, .string mon, .string name, .int .i64 n, .int .i64 eop, .string emon, .string ename, .int .i64 en, .slice ead ekids.length ecap, .int .i64 epos, .slice ad blocks.length cap, .int .i64 pos] 70)) W → Below w.heap.size w W := fun W hW => (hbF.tr le_rfl' hBS).tr le_rfl' hW
      have h15 : ∀ W, Below (wo.alloc (.cells #[.int .i64 kind, .string mon, .string name, .int .i64 n, .int .i64 eop, .string emon, .string ename, .int .i64 en, .slice ead ekids.length ecap, .int .i64 epos, .slice ad blocks.length cap, .int .i64 pos] 70)).heap.size (wo.alloc (.cells #[.int .i64 kind, .string mon, .string name, .int .i64 n, .int .i64 eop, .string emon, .string ename, .int .i64 en, .slice ead ekids.length ecap, .int .i64 epos, .slice ad blocks.length cap, .int .i64 pos] 70)) W → Calls Tryd.prog 38 #[p.val, .string mon, .string name] W fun r w' => r = .returned (.tuple #[.int .i64 (fbI (slotIx p.mons mon name)), .bool (slotIx p.mons mon name).isSome]) ∧ Below W.heap.size W w' := fun W hW => firstUni (refSlot_any p mon name n₀ W (by have := (hWF W hW).size; omega) (hp.below ((hWF W hW).mono hn)) hvs)
      have h13 : ∀ W, Below (wo.alloc (.cells #[.int .i64 kind, .string mon, .string name, .int .i64 n, .int .i64 eop, .string emon, .string ename, .int .i64 en, .slice ead ekids.length ecap, .int .i64 epos, .slice ad blocks.length cap, .int .i64 pos] 70)).heap.size (wo.alloc (.cells #[.int .i64 kind, .string mon, .string name, .int .i64 n, .int .i64 eop, .string emon, .string ename, .int .i64 en, .slice ead ekids.length ecap, .int .i64 epos, .slice ad blocks.length cap, .int .i64 pos] 70)) W → Calls Tryd.prog 16 #[p.val, .string mon] W fun r w' => r = .returned (.tuple #[.int .i64 (fbI (monIx p.mons mon)), .bool (monIx p.mons mon).isSome]) ∧ Below W.heap.size W w' := fun W hW => firstUni (refMonitor_any p mon n₀ W (by have := (hWF W hW).size; omega) (hp.below ((hWF W hW).mono hn)))
      have h17 : ∀ W, Below (wo.alloc (.cells #[.int .i64 kind, .string mon, .string name, .int .i64 n, .int .i64 eop, .string emon, .string ename, .int .i64 en, .slice ead ekids.length ecap, .int .i64 epos, .slice ad blocks.length cap, .int .i64 pos] 70)).heap.size (wo.alloc (.cells #[.int .i64 kind, .string mon, .string name, .int .i64 n, .int .i64 eop, .string emon, .string ename, .int .i64 en, .slice ead ekids.length ecap, .int .i64 epos, .slice ad blocks.length cap, .int .i64 pos] 70)) W → Calls Tryd.prog 69 #[p.val, .string mon, .string name] W fun r w' => ∃ nm ad l cap ps, r = .returned (.tuple #[.agg #[.string nm, .slice ad l cap, .int .i64 ps], .bool (methIx p.mons mon name).isSome]) ∧ Below W.heap.size W w' := fun W hW => methUni2 (refMethod_any p mon name n₀ W (by have := (hWF W hW).size; omega) (hp.below ((hWF W hW).mono hn)))
      have h53 : ∀ W, Below (wo.alloc (.cells #[.int .i64 kind, .string mon, .string name, .int .i64 n, .int .i64 eop, .string emon, .string ename, .int .i64 en, .slice ead ekids.length ecap, .int .i64 epos, .slice ad blocks.length cap, .int .i64 pos] 70)).heap.size (wo.alloc (.cells #[.int .i64 kind, .string mon, .string name, .int .i64 n, .int .i64 eop, .string emon, .string ename, .int .i64 en, .slice ead ekids.length ecap, .int .i64 epos, .slice ad blocks.length cap, .int .i64 pos] 70)) W → Calls Tryd.prog 70 #[p.val, (Ex.mk eop emon ename en ead ecap ekids epos).val] W fun r w' => r = .returned (.tuple #[.int .i64 (eI ((Ex.mk eop emon ename en ead ecap ekids epos).unk p.lk)), .int .i64 (eA ((Ex.mk eop emon ename en ead ecap ekids epos).unk p.lk))]) ∧ Below W.heap.size W w' := fun W hW => errUni (refExpr_any p hvs _ n₀ W (by have := (hWF W hW).size; omega) (hp.below ((hWF W hW).mono hn)) (hIe.below ((hWF W hW).mono hn)))
      simp only [slot_lk, mon_lk, meth_lk, HE1.out] at h15 h13 h17
      obtain ⟨eo, heo⟩ : ∃ eo, (Ex.mk eop emon ename en ead ecap ekids epos).unk p.lk = eo := ⟨_, rfl⟩
      simp only [heo, HE1.out, Ex.val, Ex.cells] at h53
      rw [heo] at HSU
      clear heo
      obtain ⟨E, hE⟩ : ∃ E, eo.or (Bl.unkL p.lk blocks) = E := ⟨_, rfl⟩
      rw [hE] at HSU
      have HE : Hid (E = eo.or (Bl.unkL p.lk (blocks.drop 0))) := by show _ = _; rw [← hE]; rfl
      clear hE
      obtain ⟨fi1, hfi1⟩ : ∃ fi1, fbI (slotIx p.mons mon name) = fi1 := ⟨_, rfl⟩
      obtain ⟨fi2, hfi2⟩ : ∃ fi2, fbI (monIx p.mons mon) = fi2 := ⟨_, rfl⟩
      simp only [hfi1] at h15
      simp only [hfi2] at h13
      clear hfi1 hfi2
      go_upto_region 5 with fail
      obtain ⟨sB, hsB⟩ : ∃ sB, wo.heap.size = sB := ⟨_, rfl⟩
      obtain ⟨W1, hW1⟩ : ∃ W1, wo.alloc (.cells #[.int .i64 kind, .string mon, .string name, .int .i64 n, .int .i64 eop, .string emon, .string ename, .int .i64 en, .slice ead ekids.length ecap, .int .i64 epos, .slice ad blocks.length cap, .int .i64 pos] 70) = W1 := ⟨_, rfl⟩
      rw [hW1] at bS hBS hzS ⊢
      simp only [hW1] at hWF h15 h13 h17 h53
      rw [hsB] at bS hzS ⊢
      have hbW1 : Below wo.heap.size wo W1 := hBS
      have hbG : Below w.heap.size w W1 := hbF.tr le_rfl' hBS
      clear hW1 hBS hWF c0 c1 c2 c3 c4 c5 c6 c7 c8 c9 c10 c11
      have hzW : w.heap.size < sB := by omega
      have hzS2 : sB < W1.heap.size := by omega
      have q0' := ((hbw.tr le_rfl' hbW1).cell (p := ⟨w.heap.size, 0, none⟩) (by show w.heap.size < _; omega)).trans r0
      have q1' := ((hbw.tr le_rfl' hbW1).cell (p := ⟨w.heap.size, 1, none⟩) (by show w.heap.size < _; omega)).trans r1
      have HK : Hid (∀ W, Below W1.heap.size W1 W → W.cell? ⟨w.heap.size, 0, none⟩ = some (.slice mad mons.length mcap) ∧ W.cell? ⟨w.heap.size, 1, none⟩ = some (.slice rad roles.length rcap) ∧ W.cell? ⟨sB, 0, none⟩ = some (.int .i64 kind) ∧ W.cell? ⟨sB, 1, none⟩ = some (.string mon) ∧ W.cell? ⟨sB, 2, none⟩ = some (.string name) ∧ W.cell? ⟨sB, 4, none⟩ = some (.int .i64 eop) ∧ W.cell? ⟨sB, 5, none⟩ = some (.string emon) ∧ W.cell? ⟨sB, 6, none⟩ = some (.string ename) ∧ W.cell? ⟨sB, 7, none⟩ = some (.int .i64 en) ∧ W.cell? ⟨sB, 8, none⟩ = some (.slice ead ekids.length ecap) ∧ W.cell? ⟨sB, 9, none⟩ = some (.int .i64 epos) ∧ W.cell? ⟨sB, 10, none⟩ = some (.slice ad blocks.length cap) ∧ W.cell? ⟨sB, 11, none⟩ = some (.int .i64 pos)) := fun W hW => by
        have e := (hW.block sB hzS2).trans bS
        exact ⟨(hW.cell (p := ⟨w.heap.size, 0, none⟩) (by show w.heap.size < _; omega)).trans q0', (hW.cell (p := ⟨w.heap.size, 1, none⟩) (by show w.heap.size < _; omega)).trans q1', cellOf e 0, cellOf e 1, cellOf e 2, cellOf e 4, cellOf e 5, cellOf e 6, cellOf e 7, cellOf e 8, cellOf e 9, cellOf e 10, cellOf e 11⟩
      have BB : Below W1.heap.size W1 W1 := Below.refl _ _
      obtain ⟨q0, q1, t0, t1, t2, t4, t5, t6, t7, t8, t9, t10, t11⟩ := HK.out _ BB
      have HSB := hid hsB
      have hsb2 : wo.heap.size ≤ sB := by omega
      clear hsB hzS bS q0' q1'
      by_cases e2 : kind = 2
      · subst e2
        have hkn : p.lk.V mon name = kn := HKN.out
        simp only [hkn] at h15
        clear hkn
        cases kn
        · rw [if_pos rfl] at HSU
          go_wp2_with (first | (go_at_call 38; (with_reducible refine (h15 _ BB).mono ?_); rintro r u1 ⟨rfl, bb⟩; have BB := BB.tr le_rfl' bb; obtain ⟨q0, q1, t0, t1, t2, t4, t5, t6, t7, t8, t9, t10, t11⟩ := HK.out _ BB))
          go_quiet (fail)
          go_wp2
          go_ret2
          exact errBack_yes (by rw [HU.out, HQ.out, HD.out, HSU.out]; rfl) (below_drewN (hbG.trans (BB.mono (by omega))) _)
        · rw [if_neg (by simp)] at HSU
          go_wp2_with (first | (go_at_call 38; (with_reducible refine (h15 _ BB).mono ?_); rintro r u1 ⟨rfl, bb⟩; have BB := BB.tr le_rfl' bb; obtain ⟨q0, q1, t0, t1, t2, t4, t5, t6, t7, t8, t9, t10, t11⟩ := HK.out _ BB) | (go_at_call 70; (with_reducible refine (h53 _ BB).mono ?_); rintro r u2 ⟨rfl, bb⟩; have BB := BB.tr le_rfl' bb; obtain ⟨q0, q1, t0, t1, t2, t4, t5, t6, t7, t8, t9, t10, t11⟩ := HK.out _ BB))
          have hB1 := BB
          clear q0 q1 t0 t1 t2 t4 t5 t6 t7 t8 t9 t11
          go_loopw [9, 10, 11] (fun f a i wr => ∃ (k : Nat) (o : Option Int), k ≤ blocks.length ∧ i = .int .i64 k ∧ f = .int .i64 (eI o) ∧ a = .int .i64 (eA o) ∧ Hid (E = o.or (Bl.unkL p.lk (blocks.drop k))) ∧ Below W1.heap.size W1 wr)
            (fun _ _ i _ => blocks.length - (intOf i).toNat)
          case atStart => exact ⟨0, eo, by omega, rfl, rfl, rfl, HE, hB1⟩
          case round =>
            obtain ⟨k, o, hk, rfl, rfl, rfl, HQ2, hbv⟩ := hrel
            have hzv := hbv.size
            obtain ⟨q0, q1, -, -, -, -, -, -, -, -, -, t10, -⟩ := HK.out _ hbv
            have hvF := hbG.trans (hbv.mono (by omega))
            rcases o with _ | a
            · have HQ3 : Hid (E = Bl.unkL p.lk (blocks.drop k)) := by show _ = _; rw [HQ2.out]; rfl
              simp only [eI, eA]
              by_cases hlt2 : k < blocks.length
              · rcases hslb.2.2 with h | ⟨kb, koff, rfl, hkn, hkrow⟩
                · subst h; simp at hlt2
                have hki : (k : Int) < (blocks.length : Int) := by omega
                have hkn2 : kb < wr.heap.size := by omega
                have HD2 := hid (Bl.unkL_drop p.lk blocks k hlt2)
                have hkr := hkrow.below (hvF.mono hn) hkn
                have hq : ∀ W, Below wr.heap.size wr W → Calls Tryd.prog 48 #[p.val, blocks[k].slice] W fun r w' => r = .returned (.tuple #[.int .i64 (eI (blocks[k].unk p.lk)), .int .i64 (eA (blocks[k].unk p.lk))]) ∧ Below W.heap.size W w' := fun W hW => errUni (ihb _ (List.getElem_mem hlt2) n₀ W (by have := hW.size; omega) ((hp.below (hvF.mono hn)).below (hW.mono (by omega))) ((hIb _ (List.getElem_mem hlt2)).below ((hvF.mono hn).trans (hW.mono (by omega)))))
                obtain ⟨o2, ho2⟩ : ∃ o2, blocks[k].unk p.lk = o2 := ⟨_, rfl⟩
                simp only [ho2, HE1.out] at hq
                rw [ho2] at HD2
                clear ho2
                rcases he' : blocks[k] with ⟨bad, bcap, bbody⟩
                have c0 := hkr k hlt2 0 (by omega)
                simp only [he', Bl.cells, Bl.slice, Nat.mul_one, Nat.add_zero, List.getElem?_cons_zero] at hq c0
                clear he'
                have HK2 : Hid (∀ W, Below wr.heap.size wr W → W.cell? ⟨w.heap.size, 0, none⟩ = some (.slice mad mons.length mcap) ∧ W.cell? ⟨w.heap.size, 1, none⟩ = some (.slice rad roles.length rcap) ∧ W.cell? ⟨sB, 10, none⟩ = some (.slice (some ⟨kb, koff, none⟩) blocks.length cap) ∧ W.cell? ⟨kb, koff + k, none⟩ = some (.slice bad bbody.length bcap)) := fun W hW => ⟨(hW.cell (p := ⟨w.heap.size, 0, none⟩) (by show w.heap.size < _; omega)).trans q0, (hW.cell (p := ⟨w.heap.size, 1, none⟩) (by show w.heap.size < _; omega)).trans q1, (hW.cell (p := ⟨sB, 10, none⟩) (by show sB < _; omega)).trans t10, (hW.cell (p := ⟨kb, _, none⟩) hkn2).trans c0⟩
                have B := below_drewV (Below.refl wr.heap.size wr)
                clear c0 q0 q1
                go_wp2
                all_goals (go_region_held3 (fun W => W.cell? ⟨w.heap.size, 0, none⟩ = some (.slice mad mons.length mcap) ∧ W.cell? ⟨w.heap.size, 1, none⟩ = some (.slice rad roles.length rcap) ∧ W.cell? ⟨sB, 10, none⟩ = some (.slice (some ⟨kb, koff, none⟩) blocks.length cap) ∧ W.cell? ⟨kb, koff + k, none⟩ = some (.slice bad bbody.length bcap)) (exact HK2.out _ B) (first | (go_at_call 48; (with_reducible refine (hq _ B).mono ?_); rintro r w1 ⟨rfl, bb⟩; have B := B.tr le_rfl' bb)))
                all_goals go_wp2
                all_goals go_roundw
                all_goals first
                  | exact ⟨k + 1, o2, by omega, by go_num, rfl, rfl, by show _ = _; rw [HQ3.out, HD2.out], hbv.tr le_rfl' B⟩
                  | (simp [intOf]; omega)
              · have hjd2 : decide ((k : Int) < (blocks.length : Int)) = false := by simp; omega
                have HN : Hid (St.unkL p.lk body = St.unkL p.lk (body.drop (j + 1))) := by
                  show _ = _
                  rw [HQ.out, HD.out, HSU.out, HQ3.out, Bl.unkL_end _ _ _ (by omega)]; rfl
                go_wp2
                all_goals go_roundw
                all_goals first
                  | exact ⟨j + 1, by omega, by go_num, HN, hbw.trans ((hbW1.mono (by omega)).trans (hbv.mono (by omega)))⟩
                  | (simp [intOf]; omega)
            · have HQ3 : Hid (E = some a) := by show _ = _; rw [HQ2.out]; rfl
              simp only [eI, eA]
              by_cases hlt2 : k < blocks.length
              · have hki : (k : Int) < (blocks.length : Int) := by omega
                go_wp2
                all_goals go_ret2
                all_goals exact errBack_yes (by rw [HU.out, HQ.out, HD.out, HSU.out, HQ3.out]; rfl) hvF
              · have hjd2 : decide ((k : Int) < (blocks.length : Int)) = false := by simp; omega
                go_wp2
                all_goals go_ret2
                all_goals exact errBack_yes (by rw [HU.out, HQ.out, HD.out, HSU.out, HQ3.out]; rfl) hvF

      have d2 : (kind == 2) = false := by rw [beq_eq_false_iff_ne]; exact e2
      by_cases e8 : kind = 8
      · subst e8
        have hkn : p.lk.F mon name = kn := HKN.out
        simp only [hkn] at h17
        clear hkn
        cases kn
        · rw [if_pos rfl] at HSU
          go_wp2_with (first | (go_at_call 69; (with_reducible refine (h17 _ BB).mono ?_); rintro r u1 ⟨nm1, ad1, l1, cap1, ps1, rfl, bb⟩; have BB := BB.tr le_rfl' bb; obtain ⟨q0, q1, t0, t1, t2, t4, t5, t6, t7, t8, t9, t10, t11⟩ := HK.out _ BB))
          go_quiet (fail)
          go_wp2
          go_ret2
          exact errBack_yes (by rw [HU.out, HQ.out, HD.out, HSU.out]; rfl) (below_drewN (hbG.trans (BB.mono (by omega))) _)
        · rw [if_neg (by simp)] at HSU
          go_wp2_with (first | (go_at_call 69; (with_reducible refine (h17 _ BB).mono ?_); rintro r u1 ⟨nm1, ad1, l1, cap1, ps1, rfl, bb⟩; have BB := BB.tr le_rfl' bb; obtain ⟨q0, q1, t0, t1, t2, t4, t5, t6, t7, t8, t9, t10, t11⟩ := HK.out _ BB) | (go_at_call 70; (with_reducible refine (h53 _ BB).mono ?_); rintro r u2 ⟨rfl, bb⟩; have BB := BB.tr le_rfl' bb; obtain ⟨q0, q1, t0, t1, t2, t4, t5, t6, t7, t8, t9, t10, t11⟩ := HK.out _ BB))
          have hB1 := BB
          clear q0 q1 t0 t1 t2 t4 t5 t6 t7 t8 t9 t11
          go_loopw [9, 10, 11] (fun f a i wr => ∃ (k : Nat) (o : Option Int), k ≤ blocks.length ∧ i = .int .i64 k ∧ f = .int .i64 (eI o) ∧ a = .int .i64 (eA o) ∧ Hid (E = o.or (Bl.unkL p.lk (blocks.drop k))) ∧ Below W1.heap.size W1 wr)
            (fun _ _ i _ => blocks.length - (intOf i).toNat)
          case atStart => exact ⟨0, eo, by omega, rfl, rfl, rfl, HE, hB1⟩
          case round =>
            obtain ⟨k, o, hk, rfl, rfl, rfl, HQ2, hbv⟩ := hrel
            have hzv := hbv.size
            obtain ⟨q0, q1, -, -, -, -, -, -, -, -, -, t10, -⟩ := HK.out _ hbv
            have hvF := hbG.trans (hbv.mono (by omega))
            rcases o with _ | a
            · have HQ3 : Hid (E = Bl.unkL p.lk (blocks.drop k)) := by show _ = _; rw [HQ2.out]; rfl
              simp only [eI, eA]
              by_cases hlt2 : k < blocks.length
              · rcases hslb.2.2 with h | ⟨kb, koff, rfl, hkn, hkrow⟩
                · subst h; simp at hlt2
                have hki : (k : Int) < (blocks.length : Int) := by omega
                have hkn2 : kb < wr.heap.size := by omega
                have HD2 := hid (Bl.unkL_drop p.lk blocks k hlt2)
                have hkr := hkrow.below (hvF.mono hn) hkn
                have hq : ∀ W, Below wr.heap.size wr W → Calls Tryd.prog 48 #[p.val, blocks[k].slice] W fun r w' => r = .returned (.tuple #[.int .i64 (eI (blocks[k].unk p.lk)), .int .i64 (eA (blocks[k].unk p.lk))]) ∧ Below W.heap.size W w' := fun W hW => errUni (ihb _ (List.getElem_mem hlt2) n₀ W (by have := hW.size; omega) ((hp.below (hvF.mono hn)).below (hW.mono (by omega))) ((hIb _ (List.getElem_mem hlt2)).below ((hvF.mono hn).trans (hW.mono (by omega)))))
                obtain ⟨o2, ho2⟩ : ∃ o2, blocks[k].unk p.lk = o2 := ⟨_, rfl⟩
                simp only [ho2, HE1.out] at hq
                rw [ho2] at HD2
                clear ho2
                rcases he' : blocks[k] with ⟨bad, bcap, bbody⟩
                have c0 := hkr k hlt2 0 (by omega)
                simp only [he', Bl.cells, Bl.slice, Nat.mul_one, Nat.add_zero, List.getElem?_cons_zero] at hq c0
                clear he'
                have HK2 : Hid (∀ W, Below wr.heap.size wr W → W.cell? ⟨w.heap.size, 0, none⟩ = some (.slice mad mons.length mcap) ∧ W.cell? ⟨w.heap.size, 1, none⟩ = some (.slice rad roles.length rcap) ∧ W.cell? ⟨sB, 10, none⟩ = some (.slice (some ⟨kb, koff, none⟩) blocks.length cap) ∧ W.cell? ⟨kb, koff + k, none⟩ = some (.slice bad bbody.length bcap)) := fun W hW => ⟨(hW.cell (p := ⟨w.heap.size, 0, none⟩) (by show w.heap.size < _; omega)).trans q0, (hW.cell (p := ⟨w.heap.size, 1, none⟩) (by show w.heap.size < _; omega)).trans q1, (hW.cell (p := ⟨sB, 10, none⟩) (by show sB < _; omega)).trans t10, (hW.cell (p := ⟨kb, _, none⟩) hkn2).trans c0⟩
                have B := below_drewV (Below.refl wr.heap.size wr)
                clear c0 q0 q1
                go_wp2
                all_goals (go_region_held3 (fun W => W.cell? ⟨w.heap.size, 0, none⟩ = some (.slice mad mons.length mcap) ∧ W.cell? ⟨w.heap.size, 1, none⟩ = some (.slice rad roles.length rcap) ∧ W.cell? ⟨sB, 10, none⟩ = some (.slice (some ⟨kb, koff, none⟩) blocks.length cap) ∧ W.cell? ⟨kb, koff + k, none⟩ = some (.slice bad bbody.length bcap)) (exact HK2.out _ B) (first | (go_at_call 48; (with_reducible refine (hq _ B).mono ?_); rintro r w1 ⟨rfl, bb⟩; have B := B.tr le_rfl' bb)))
                all_goals go_wp2
                all_goals go_roundw
                all_goals first
                  | exact ⟨k + 1, o2, by omega, by go_num, rfl, rfl, by show _ = _; rw [HQ3.out, HD2.out], hbv.tr le_rfl' B⟩
                  | (simp [intOf]; omega)
              · have hjd2 : decide ((k : Int) < (blocks.length : Int)) = false := by simp; omega
                have HN : Hid (St.unkL p.lk body = St.unkL p.lk (body.drop (j + 1))) := by
                  show _ = _
                  rw [HQ.out, HD.out, HSU.out, HQ3.out, Bl.unkL_end _ _ _ (by omega)]; rfl
                go_wp2
                all_goals go_roundw
                all_goals first
                  | exact ⟨j + 1, by omega, by go_num, HN, hbw.trans ((hbW1.mono (by omega)).trans (hbv.mono (by omega)))⟩
                  | (simp [intOf]; omega)
            · have HQ3 : Hid (E = some a) := by show _ = _; rw [HQ2.out]; rfl
              simp only [eI, eA]
              by_cases hlt2 : k < blocks.length
              · have hki : (k : Int) < (blocks.length : Int) := by omega
                go_wp2
                all_goals go_ret2
                all_goals exact errBack_yes (by rw [HU.out, HQ.out, HD.out, HSU.out, HQ3.out]; rfl) hvF
              · have hjd2 : decide ((k : Int) < (blocks.length : Int)) = false := by simp; omega
                go_wp2
                all_goals go_ret2
                all_goals exact errBack_yes (by rw [HU.out, HQ.out, HD.out, HSU.out, HQ3.out]; rfl) hvF

      have d8 : (kind == 8) = false := by rw [beq_eq_false_iff_ne]; exact e8
      by_cases e7 : kind = 7
      · subst e7
        have hkn : p.lk.M mon = kn := HKN.out
        simp only [hkn] at h13
        clear hkn
        cases kn
        · rw [if_pos rfl] at HSU
          go_wp2_with (first | (go_at_call 16; (with_reducible refine (h13 _ BB).mono ?_); rintro r u1 ⟨rfl, bb⟩; have BB := BB.tr le_rfl' bb; obtain ⟨q0, q1, t0, t1, t2, t4, t5, t6, t7, t8, t9, t10, t11⟩ := HK.out _ BB))
          go_quiet (fail)
          go_wp2
          go_ret2
          exact errBack_yes (by rw [HU.out, HQ.out, HD.out, HSU.out]; rfl) (below_drewN (hbG.trans (BB.mono (by omega))) _)
        · rw [if_neg (by simp)] at HSU
          go_wp2_with (first | (go_at_call 16; (with_reducible refine (h13 _ BB).mono ?_); rintro r u1 ⟨rfl, bb⟩; have BB := BB.tr le_rfl' bb; obtain ⟨q0, q1, t0, t1, t2, t4, t5, t6, t7, t8, t9, t10, t11⟩ := HK.out _ BB) | (go_at_call 70; (with_reducible refine (h53 _ BB).mono ?_); rintro r u2 ⟨rfl, bb⟩; have BB := BB.tr le_rfl' bb; obtain ⟨q0, q1, t0, t1, t2, t4, t5, t6, t7, t8, t9, t10, t11⟩ := HK.out _ BB))
          have hB1 := BB
          clear q0 q1 t0 t1 t2 t4 t5 t6 t7 t8 t9 t11
          go_loopw [9, 10, 11] (fun f a i wr => ∃ (k : Nat) (o : Option Int), k ≤ blocks.length ∧ i = .int .i64 k ∧ f = .int .i64 (eI o) ∧ a = .int .i64 (eA o) ∧ Hid (E = o.or (Bl.unkL p.lk (blocks.drop k))) ∧ Below W1.heap.size W1 wr)
            (fun _ _ i _ => blocks.length - (intOf i).toNat)
          case atStart => exact ⟨0, eo, by omega, rfl, rfl, rfl, HE, hB1⟩
          case round =>
            obtain ⟨k, o, hk, rfl, rfl, rfl, HQ2, hbv⟩ := hrel
            have hzv := hbv.size
            obtain ⟨q0, q1, -, -, -, -, -, -, -, -, -, t10, -⟩ := HK.out _ hbv
            have hvF := hbG.trans (hbv.mono (by omega))
            rcases o with _ | a
            · have HQ3 : Hid (E = Bl.unkL p.lk (blocks.drop k)) := by show _ = _; rw [HQ2.out]; rfl
              simp only [eI, eA]
              by_cases hlt2 : k < blocks.length
              · rcases hslb.2.2 with h | ⟨kb, koff, rfl, hkn, hkrow⟩
                · subst h; simp at hlt2
                have hki : (k : Int) < (blocks.length : Int) := by omega
                have hkn2 : kb < wr.heap.size := by omega
                have HD2 := hid (Bl.unkL_drop p.lk blocks k hlt2)
                have hkr := hkrow.below (hvF.mono hn) hkn
                have hq : ∀ W, Below wr.heap.size wr W → Calls Tryd.prog 48 #[p.val, blocks[k].slice] W fun r w' => r = .returned (.tuple #[.int .i64 (eI (blocks[k].unk p.lk)), .int .i64 (eA (blocks[k].unk p.lk))]) ∧ Below W.heap.size W w' := fun W hW => errUni (ihb _ (List.getElem_mem hlt2) n₀ W (by have := hW.size; omega) ((hp.below (hvF.mono hn)).below (hW.mono (by omega))) ((hIb _ (List.getElem_mem hlt2)).below ((hvF.mono hn).trans (hW.mono (by omega)))))
                obtain ⟨o2, ho2⟩ : ∃ o2, blocks[k].unk p.lk = o2 := ⟨_, rfl⟩
                simp only [ho2, HE1.out] at hq
                rw [ho2] at HD2
                clear ho2
                rcases he' : blocks[k] with ⟨bad, bcap, bbody⟩
                have c0 := hkr k hlt2 0 (by omega)
                simp only [he', Bl.cells, Bl.slice, Nat.mul_one, Nat.add_zero, List.getElem?_cons_zero] at hq c0
                clear he'
                have HK2 : Hid (∀ W, Below wr.heap.size wr W → W.cell? ⟨w.heap.size, 0, none⟩ = some (.slice mad mons.length mcap) ∧ W.cell? ⟨w.heap.size, 1, none⟩ = some (.slice rad roles.length rcap) ∧ W.cell? ⟨sB, 10, none⟩ = some (.slice (some ⟨kb, koff, none⟩) blocks.length cap) ∧ W.cell? ⟨kb, koff + k, none⟩ = some (.slice bad bbody.length bcap)) := fun W hW => ⟨(hW.cell (p := ⟨w.heap.size, 0, none⟩) (by show w.heap.size < _; omega)).trans q0, (hW.cell (p := ⟨w.heap.size, 1, none⟩) (by show w.heap.size < _; omega)).trans q1, (hW.cell (p := ⟨sB, 10, none⟩) (by show sB < _; omega)).trans t10, (hW.cell (p := ⟨kb, _, none⟩) hkn2).trans c0⟩
                have B := below_drewV (Below.refl wr.heap.size wr)
                clear c0 q0 q1
                go_wp2
                all_goals (go_region_held3 (fun W => W.cell? ⟨w.heap.size, 0, none⟩ = some (.slice mad mons.length mcap) ∧ W.cell? ⟨w.heap.size, 1, none⟩ = some (.slice rad roles.length rcap) ∧ W.cell? ⟨sB, 10, none⟩ = some (.slice (some ⟨kb, koff, none⟩) blocks.length cap) ∧ W.cell? ⟨kb, koff + k, none⟩ = some (.slice bad bbody.length bcap)) (exact HK2.out _ B) (first | (go_at_call 48; (with_reducible refine (hq _ B).mono ?_); rintro r w1 ⟨rfl, bb⟩; have B := B.tr le_rfl' bb)))
                all_goals go_wp2
                all_goals go_roundw
                all_goals first
                  | exact ⟨k + 1, o2, by omega, by go_num, rfl, rfl, by show _ = _; rw [HQ3.out, HD2.out], hbv.tr le_rfl' B⟩
                  | (simp [intOf]; omega)
              · have hjd2 : decide ((k : Int) < (blocks.length : Int)) = false := by simp; omega
                have HN : Hid (St.unkL p.lk body = St.unkL p.lk (body.drop (j + 1))) := by
                  show _ = _
                  rw [HQ.out, HD.out, HSU.out, HQ3.out, Bl.unkL_end _ _ _ (by omega)]; rfl
                go_wp2
                all_goals go_roundw
                all_goals first
                  | exact ⟨j + 1, by omega, by go_num, HN, hbw.trans ((hbW1.mono (by omega)).trans (hbv.mono (by omega)))⟩
                  | (simp [intOf]; omega)
            · have HQ3 : Hid (E = some a) := by show _ = _; rw [HQ2.out]; rfl
              simp only [eI, eA]
              by_cases hlt2 : k < blocks.length
              · have hki : (k : Int) < (blocks.length : Int) := by omega
                go_wp2
                all_goals go_ret2
                all_goals exact errBack_yes (by rw [HU.out, HQ.out, HD.out, HSU.out, HQ3.out]; rfl) hvF
              · have hjd2 : decide ((k : Int) < (blocks.length : Int)) = false := by simp; omega
                go_wp2
                all_goals go_ret2
                all_goals exact errBack_yes (by rw [HU.out, HQ.out, HD.out, HSU.out, HQ3.out]; rfl) hvF

      have d7 : (kind == 7) = false := by rw [beq_eq_false_iff_ne]; exact e7
      by_cases e9 : kind = 9
      · subst e9
        have hkn : p.lk.M mon = kn := HKN.out
        simp only [hkn] at h13
        clear hkn
        cases kn
        · rw [if_pos rfl] at HSU
          go_wp2_with (first | (go_at_call 16; (with_reducible refine (h13 _ BB).mono ?_); rintro r u1 ⟨rfl, bb⟩; have BB := BB.tr le_rfl' bb; obtain ⟨q0, q1, t0, t1, t2, t4, t5, t6, t7, t8, t9, t10, t11⟩ := HK.out _ BB))
          go_quiet (fail)
          go_wp2
          go_ret2
          exact errBack_yes (by rw [HU.out, HQ.out, HD.out, HSU.out]; rfl) (below_drewN (hbG.trans (BB.mono (by omega))) _)
        · rw [if_neg (by simp)] at HSU
          go_wp2_with (first | (go_at_call 16; (with_reducible refine (h13 _ BB).mono ?_); rintro r u1 ⟨rfl, bb⟩; have BB := BB.tr le_rfl' bb; obtain ⟨q0, q1, t0, t1, t2, t4, t5, t6, t7, t8, t9, t10, t11⟩ := HK.out _ BB) | (go_at_call 70; (with_reducible refine (h53 _ BB).mono ?_); rintro r u2 ⟨rfl, bb⟩; have BB := BB.tr le_rfl' bb; obtain ⟨q0, q1, t0, t1, t2, t4, t5, t6, t7, t8, t9, t10, t11⟩ := HK.out _ BB))
          have hB1 := BB
          clear q0 q1 t0 t1 t2 t4 t5 t6 t7 t8 t9 t11
          go_loopw [9, 10, 11] (fun f a i wr => ∃ (k : Nat) (o : Option Int), k ≤ blocks.length ∧ i = .int .i64 k ∧ f = .int .i64 (eI o) ∧ a = .int .i64 (eA o) ∧ Hid (E = o.or (Bl.unkL p.lk (blocks.drop k))) ∧ Below W1.heap.size W1 wr)
            (fun _ _ i _ => blocks.length - (intOf i).toNat)
          case atStart => exact ⟨0, eo, by omega, rfl, rfl, rfl, HE, hB1⟩
          case round =>
            obtain ⟨k, o, hk, rfl, rfl, rfl, HQ2, hbv⟩ := hrel
            have hzv := hbv.size
            obtain ⟨q0, q1, -, -, -, -, -, -, -, -, -, t10, -⟩ := HK.out _ hbv
            have hvF := hbG.trans (hbv.mono (by omega))
            rcases o with _ | a
            · have HQ3 : Hid (E = Bl.unkL p.lk (blocks.drop k)) := by show _ = _; rw [HQ2.out]; rfl
              simp only [eI, eA]
              by_cases hlt2 : k < blocks.length
              · rcases hslb.2.2 with h | ⟨kb, koff, rfl, hkn, hkrow⟩
                · subst h; simp at hlt2
                have hki : (k : Int) < (blocks.length : Int) := by omega
                have hkn2 : kb < wr.heap.size := by omega
                have HD2 := hid (Bl.unkL_drop p.lk blocks k hlt2)
                have hkr := hkrow.below (hvF.mono hn) hkn
                have hq : ∀ W, Below wr.heap.size wr W → Calls Tryd.prog 48 #[p.val, blocks[k].slice] W fun r w' => r = .returned (.tuple #[.int .i64 (eI (blocks[k].unk p.lk)), .int .i64 (eA (blocks[k].unk p.lk))]) ∧ Below W.heap.size W w' := fun W hW => errUni (ihb _ (List.getElem_mem hlt2) n₀ W (by have := hW.size; omega) ((hp.below (hvF.mono hn)).below (hW.mono (by omega))) ((hIb _ (List.getElem_mem hlt2)).below ((hvF.mono hn).trans (hW.mono (by omega)))))
                obtain ⟨o2, ho2⟩ : ∃ o2, blocks[k].unk p.lk = o2 := ⟨_, rfl⟩
                simp only [ho2, HE1.out] at hq
                rw [ho2] at HD2
                clear ho2
                rcases he' : blocks[k] with ⟨bad, bcap, bbody⟩
                have c0 := hkr k hlt2 0 (by omega)
                simp only [he', Bl.cells, Bl.slice, Nat.mul_one, Nat.add_zero, List.getElem?_cons_zero] at hq c0
                clear he'
                have HK2 : Hid (∀ W, Below wr.heap.size wr W → W.cell? ⟨w.heap.size, 0, none⟩ = some (.slice mad mons.length mcap) ∧ W.cell? ⟨w.heap.size, 1, none⟩ = some (.slice rad roles.length rcap) ∧ W.cell? ⟨sB, 10, none⟩ = some (.slice (some ⟨kb, koff, none⟩) blocks.length cap) ∧ W.cell? ⟨kb, koff + k, none⟩ = some (.slice bad bbody.length bcap)) := fun W hW => ⟨(hW.cell (p := ⟨w.heap.size, 0, none⟩) (by show w.heap.size < _; omega)).trans q0, (hW.cell (p := ⟨w.heap.size, 1, none⟩) (by show w.heap.size < _; omega)).trans q1, (hW.cell (p := ⟨sB, 10, none⟩) (by show sB < _; omega)).trans t10, (hW.cell (p := ⟨kb, _, none⟩) hkn2).trans c0⟩
                have B := below_drewV (Below.refl wr.heap.size wr)
                clear c0 q0 q1
                go_wp2
                all_goals (go_region_held3 (fun W => W.cell? ⟨w.heap.size, 0, none⟩ = some (.slice mad mons.length mcap) ∧ W.cell? ⟨w.heap.size, 1, none⟩ = some (.slice rad roles.length rcap) ∧ W.cell? ⟨sB, 10, none⟩ = some (.slice (some ⟨kb, koff, none⟩) blocks.length cap) ∧ W.cell? ⟨kb, koff + k, none⟩ = some (.slice bad bbody.length bcap)) (exact HK2.out _ B) (first | (go_at_call 48; (with_reducible refine (hq _ B).mono ?_); rintro r w1 ⟨rfl, bb⟩; have B := B.tr le_rfl' bb)))
                all_goals go_wp2
                all_goals go_roundw
                all_goals first
                  | exact ⟨k + 1, o2, by omega, by go_num, rfl, rfl, by show _ = _; rw [HQ3.out, HD2.out], hbv.tr le_rfl' B⟩
                  | (simp [intOf]; omega)
              · have hjd2 : decide ((k : Int) < (blocks.length : Int)) = false := by simp; omega
                have HN : Hid (St.unkL p.lk body = St.unkL p.lk (body.drop (j + 1))) := by
                  show _ = _
                  rw [HQ.out, HD.out, HSU.out, HQ3.out, Bl.unkL_end _ _ _ (by omega)]; rfl
                go_wp2
                all_goals go_roundw
                all_goals first
                  | exact ⟨j + 1, by omega, by go_num, HN, hbw.trans ((hbW1.mono (by omega)).trans (hbv.mono (by omega)))⟩
                  | (simp [intOf]; omega)
            · have HQ3 : Hid (E = some a) := by show _ = _; rw [HQ2.out]; rfl
              simp only [eI, eA]
              by_cases hlt2 : k < blocks.length
              · have hki : (k : Int) < (blocks.length : Int) := by omega
                go_wp2
                all_goals go_ret2
                all_goals exact errBack_yes (by rw [HU.out, HQ.out, HD.out, HSU.out, HQ3.out]; rfl) hvF
              · have hjd2 : decide ((k : Int) < (blocks.length : Int)) = false := by simp; omega
                go_wp2
                all_goals go_ret2
                all_goals exact errBack_yes (by rw [HU.out, HQ.out, HD.out, HSU.out, HQ3.out]; rfl) hvF

      have d9 : (kind == 9) = false := by rw [beq_eq_false_iff_ne]; exact e9
      by_cases e10 : kind = 10
      · subst e10
        have hkn : p.lk.M mon = kn := HKN.out
        simp only [hkn] at h13
        clear hkn
        cases kn
        · rw [if_pos rfl] at HSU
          go_wp2_with (first | (go_at_call 16; (with_reducible refine (h13 _ BB).mono ?_); rintro r u1 ⟨rfl, bb⟩; have BB := BB.tr le_rfl' bb; obtain ⟨q0, q1, t0, t1, t2, t4, t5, t6, t7, t8, t9, t10, t11⟩ := HK.out _ BB))
          go_quiet (fail)
          go_wp2
          go_ret2
          exact errBack_yes (by rw [HU.out, HQ.out, HD.out, HSU.out]; rfl) (below_drewN (hbG.trans (BB.mono (by omega))) _)
        · rw [if_neg (by simp)] at HSU
          go_wp2_with (first | (go_at_call 16; (with_reducible refine (h13 _ BB).mono ?_); rintro r u1 ⟨rfl, bb⟩; have BB := BB.tr le_rfl' bb; obtain ⟨q0, q1, t0, t1, t2, t4, t5, t6, t7, t8, t9, t10, t11⟩ := HK.out _ BB) | (go_at_call 70; (with_reducible refine (h53 _ BB).mono ?_); rintro r u2 ⟨rfl, bb⟩; have BB := BB.tr le_rfl' bb; obtain ⟨q0, q1, t0, t1, t2, t4, t5, t6, t7, t8, t9, t10, t11⟩ := HK.out _ BB))
          have hB1 := BB
          clear q0 q1 t0 t1 t2 t4 t5 t6 t7 t8 t9 t11
          go_loopw [9, 10, 11] (fun f a i wr => ∃ (k : Nat) (o : Option Int), k ≤ blocks.length ∧ i = .int .i64 k ∧ f = .int .i64 (eI o) ∧ a = .int .i64 (eA o) ∧ Hid (E = o.or (Bl.unkL p.lk (blocks.drop k))) ∧ Below W1.heap.size W1 wr)
            (fun _ _ i _ => blocks.length - (intOf i).toNat)
          case atStart => exact ⟨0, eo, by omega, rfl, rfl, rfl, HE, hB1⟩
          case round =>
            obtain ⟨k, o, hk, rfl, rfl, rfl, HQ2, hbv⟩ := hrel
            have hzv := hbv.size
            obtain ⟨q0, q1, -, -, -, -, -, -, -, -, -, t10, -⟩ := HK.out _ hbv
            have hvF := hbG.trans (hbv.mono (by omega))
            rcases o with _ | a
            · have HQ3 : Hid (E = Bl.unkL p.lk (blocks.drop k)) := by show _ = _; rw [HQ2.out]; rfl
              simp only [eI, eA]
              by_cases hlt2 : k < blocks.length
              · rcases hslb.2.2 with h | ⟨kb, koff, rfl, hkn, hkrow⟩
                · subst h; simp at hlt2
                have hki : (k : Int) < (blocks.length : Int) := by omega
                have hkn2 : kb < wr.heap.size := by omega
                have HD2 := hid (Bl.unkL_drop p.lk blocks k hlt2)
                have hkr := hkrow.below (hvF.mono hn) hkn
                have hq : ∀ W, Below wr.heap.size wr W → Calls Tryd.prog 48 #[p.val, blocks[k].slice] W fun r w' => r = .returned (.tuple #[.int .i64 (eI (blocks[k].unk p.lk)), .int .i64 (eA (blocks[k].unk p.lk))]) ∧ Below W.heap.size W w' := fun W hW => errUni (ihb _ (List.getElem_mem hlt2) n₀ W (by have := hW.size; omega) ((hp.below (hvF.mono hn)).below (hW.mono (by omega))) ((hIb _ (List.getElem_mem hlt2)).below ((hvF.mono hn).trans (hW.mono (by omega)))))
                obtain ⟨o2, ho2⟩ : ∃ o2, blocks[k].unk p.lk = o2 := ⟨_, rfl⟩
                simp only [ho2, HE1.out] at hq
                rw [ho2] at HD2
                clear ho2
                rcases he' : blocks[k] with ⟨bad, bcap, bbody⟩
                have c0 := hkr k hlt2 0 (by omega)
                simp only [he', Bl.cells, Bl.slice, Nat.mul_one, Nat.add_zero, List.getElem?_cons_zero] at hq c0
                clear he'
                have HK2 : Hid (∀ W, Below wr.heap.size wr W → W.cell? ⟨w.heap.size, 0, none⟩ = some (.slice mad mons.length mcap) ∧ W.cell? ⟨w.heap.size, 1, none⟩ = some (.slice rad roles.length rcap) ∧ W.cell? ⟨sB, 10, none⟩ = some (.slice (some ⟨kb, koff, none⟩) blocks.length cap) ∧ W.cell? ⟨kb, koff + k, none⟩ = some (.slice bad bbody.length bcap)) := fun W hW => ⟨(hW.cell (p := ⟨w.heap.size, 0, none⟩) (by show w.heap.size < _; omega)).trans q0, (hW.cell (p := ⟨w.heap.size, 1, none⟩) (by show w.heap.size < _; omega)).trans q1, (hW.cell (p := ⟨sB, 10, none⟩) (by show sB < _; omega)).trans t10, (hW.cell (p := ⟨kb, _, none⟩) hkn2).trans c0⟩
                have B := below_drewV (Below.refl wr.heap.size wr)
                clear c0 q0 q1
                go_wp2
                all_goals (go_region_held3 (fun W => W.cell? ⟨w.heap.size, 0, none⟩ = some (.slice mad mons.length mcap) ∧ W.cell? ⟨w.heap.size, 1, none⟩ = some (.slice rad roles.length rcap) ∧ W.cell? ⟨sB, 10, none⟩ = some (.slice (some ⟨kb, koff, none⟩) blocks.length cap) ∧ W.cell? ⟨kb, koff + k, none⟩ = some (.slice bad bbody.length bcap)) (exact HK2.out _ B) (first | (go_at_call 48; (with_reducible refine (hq _ B).mono ?_); rintro r w1 ⟨rfl, bb⟩; have B := B.tr le_rfl' bb)))
                all_goals go_wp2
                all_goals go_roundw
                all_goals first
                  | exact ⟨k + 1, o2, by omega, by go_num, rfl, rfl, by show _ = _; rw [HQ3.out, HD2.out], hbv.tr le_rfl' B⟩
                  | (simp [intOf]; omega)
              · have hjd2 : decide ((k : Int) < (blocks.length : Int)) = false := by simp; omega
                have HN : Hid (St.unkL p.lk body = St.unkL p.lk (body.drop (j + 1))) := by
                  show _ = _
                  rw [HQ.out, HD.out, HSU.out, HQ3.out, Bl.unkL_end _ _ _ (by omega)]; rfl
                go_wp2
                all_goals go_roundw
                all_goals first
                  | exact ⟨j + 1, by omega, by go_num, HN, hbw.trans ((hbW1.mono (by omega)).trans (hbv.mono (by omega)))⟩
                  | (simp [intOf]; omega)
            · have HQ3 : Hid (E = some a) := by show _ = _; rw [HQ2.out]; rfl
              simp only [eI, eA]
              by_cases hlt2 : k < blocks.length
              · have hki : (k : Int) < (blocks.length : Int) := by omega
                go_wp2
                all_goals go_ret2
                all_goals exact errBack_yes (by rw [HU.out, HQ.out, HD.out, HSU.out, HQ3.out]; rfl) hvF
              · have hjd2 : decide ((k : Int) < (blocks.length : Int)) = false := by simp; omega
                go_wp2
                all_goals go_ret2
                all_goals exact errBack_yes (by rw [HU.out, HQ.out, HD.out, HSU.out, HQ3.out]; rfl) hvF

      have d10 : (kind == 10) = false := by rw [beq_eq_false_iff_ne]; exact e10
      by_cases e11 : kind = 11
      · subst e11
        have hkn : p.lk.M mon = kn := HKN.out
        simp only [hkn] at h13
        clear hkn
        cases kn
        · rw [if_pos rfl] at HSU
          go_wp2_with (first | (go_at_call 16; (with_reducible refine (h13 _ BB).mono ?_); rintro r u1 ⟨rfl, bb⟩; have BB := BB.tr le_rfl' bb; obtain ⟨q0, q1, t0, t1, t2, t4, t5, t6, t7, t8, t9, t10, t11⟩ := HK.out _ BB))
          go_quiet (fail)
          go_wp2
          go_ret2
          exact errBack_yes (by rw [HU.out, HQ.out, HD.out, HSU.out]; rfl) (below_drewN (hbG.trans (BB.mono (by omega))) _)
        · rw [if_neg (by simp)] at HSU
          go_wp2_with (first | (go_at_call 16; (with_reducible refine (h13 _ BB).mono ?_); rintro r u1 ⟨rfl, bb⟩; have BB := BB.tr le_rfl' bb; obtain ⟨q0, q1, t0, t1, t2, t4, t5, t6, t7, t8, t9, t10, t11⟩ := HK.out _ BB) | (go_at_call 70; (with_reducible refine (h53 _ BB).mono ?_); rintro r u2 ⟨rfl, bb⟩; have BB := BB.tr le_rfl' bb; obtain ⟨q0, q1, t0, t1, t2, t4, t5, t6, t7, t8, t9, t10, t11⟩ := HK.out _ BB))
          have hB1 := BB
          clear q0 q1 t0 t1 t2 t4 t5 t6 t7 t8 t9 t11
          go_loopw [9, 10, 11] (fun f a i wr => ∃ (k : Nat) (o : Option Int), k ≤ blocks.length ∧ i = .int .i64 k ∧ f = .int .i64 (eI o) ∧ a = .int .i64 (eA o) ∧ Hid (E = o.or (Bl.unkL p.lk (blocks.drop k))) ∧ Below W1.heap.size W1 wr)
            (fun _ _ i _ => blocks.length - (intOf i).toNat)
          case atStart => exact ⟨0, eo, by omega, rfl, rfl, rfl, HE, hB1⟩
          case round =>
            obtain ⟨k, o, hk, rfl, rfl, rfl, HQ2, hbv⟩ := hrel
            have hzv := hbv.size
            obtain ⟨q0, q1, -, -, -, -, -, -, -, -, -, t10, -⟩ := HK.out _ hbv
            have hvF := hbG.trans (hbv.mono (by omega))
            rcases o with _ | a
            · have HQ3 : Hid (E = Bl.unkL p.lk (blocks.drop k)) := by show _ = _; rw [HQ2.out]; rfl
              simp only [eI, eA]
              by_cases hlt2 : k < blocks.length
              · rcases hslb.2.2 with h | ⟨kb, koff, rfl, hkn, hkrow⟩
                · subst h; simp at hlt2
                have hki : (k : Int) < (blocks.length : Int) := by omega
                have hkn2 : kb < wr.heap.size := by omega
                have HD2 := hid (Bl.unkL_drop p.lk blocks k hlt2)
                have hkr := hkrow.below (hvF.mono hn) hkn
                have hq : ∀ W, Below wr.heap.size wr W → Calls Tryd.prog 48 #[p.val, blocks[k].slice] W fun r w' => r = .returned (.tuple #[.int .i64 (eI (blocks[k].unk p.lk)), .int .i64 (eA (blocks[k].unk p.lk))]) ∧ Below W.heap.size W w' := fun W hW => errUni (ihb _ (List.getElem_mem hlt2) n₀ W (by have := hW.size; omega) ((hp.below (hvF.mono hn)).below (hW.mono (by omega))) ((hIb _ (List.getElem_mem hlt2)).below ((hvF.mono hn).trans (hW.mono (by omega)))))
                obtain ⟨o2, ho2⟩ : ∃ o2, blocks[k].unk p.lk = o2 := ⟨_, rfl⟩
                simp only [ho2, HE1.out] at hq
                rw [ho2] at HD2
                clear ho2
                rcases he' : blocks[k] with ⟨bad, bcap, bbody⟩
                have c0 := hkr k hlt2 0 (by omega)
                simp only [he', Bl.cells, Bl.slice, Nat.mul_one, Nat.add_zero, List.getElem?_cons_zero] at hq c0
                clear he'
                have HK2 : Hid (∀ W, Below wr.heap.size wr W → W.cell? ⟨w.heap.size, 0, none⟩ = some (.slice mad mons.length mcap) ∧ W.cell? ⟨w.heap.size, 1, none⟩ = some (.slice rad roles.length rcap) ∧ W.cell? ⟨sB, 10, none⟩ = some (.slice (some ⟨kb, koff, none⟩) blocks.length cap) ∧ W.cell? ⟨kb, koff + k, none⟩ = some (.slice bad bbody.length bcap)) := fun W hW => ⟨(hW.cell (p := ⟨w.heap.size, 0, none⟩) (by show w.heap.size < _; omega)).trans q0, (hW.cell (p := ⟨w.heap.size, 1, none⟩) (by show w.heap.size < _; omega)).trans q1, (hW.cell (p := ⟨sB, 10, none⟩) (by show sB < _; omega)).trans t10, (hW.cell (p := ⟨kb, _, none⟩) hkn2).trans c0⟩
                have B := below_drewV (Below.refl wr.heap.size wr)
                clear c0 q0 q1
                go_wp2
                all_goals (go_region_held3 (fun W => W.cell? ⟨w.heap.size, 0, none⟩ = some (.slice mad mons.length mcap) ∧ W.cell? ⟨w.heap.size, 1, none⟩ = some (.slice rad roles.length rcap) ∧ W.cell? ⟨sB, 10, none⟩ = some (.slice (some ⟨kb, koff, none⟩) blocks.length cap) ∧ W.cell? ⟨kb, koff + k, none⟩ = some (.slice bad bbody.length bcap)) (exact HK2.out _ B) (first | (go_at_call 48; (with_reducible refine (hq _ B).mono ?_); rintro r w1 ⟨rfl, bb⟩; have B := B.tr le_rfl' bb)))
                all_goals go_wp2
                all_goals go_roundw
                all_goals first
                  | exact ⟨k + 1, o2, by omega, by go_num, rfl, rfl, by show _ = _; rw [HQ3.out, HD2.out], hbv.tr le_rfl' B⟩
                  | (simp [intOf]; omega)
              · have hjd2 : decide ((k : Int) < (blocks.length : Int)) = false := by simp; omega
                have HN : Hid (St.unkL p.lk body = St.unkL p.lk (body.drop (j + 1))) := by
                  show _ = _
                  rw [HQ.out, HD.out, HSU.out, HQ3.out, Bl.unkL_end _ _ _ (by omega)]; rfl
                go_wp2
                all_goals go_roundw
                all_goals first
                  | exact ⟨j + 1, by omega, by go_num, HN, hbw.trans ((hbW1.mono (by omega)).trans (hbv.mono (by omega)))⟩
                  | (simp [intOf]; omega)
            · have HQ3 : Hid (E = some a) := by show _ = _; rw [HQ2.out]; rfl
              simp only [eI, eA]
              by_cases hlt2 : k < blocks.length
              · have hki : (k : Int) < (blocks.length : Int) := by omega
                go_wp2
                all_goals go_ret2
                all_goals exact errBack_yes (by rw [HU.out, HQ.out, HD.out, HSU.out, HQ3.out]; rfl) hvF
              · have hjd2 : decide ((k : Int) < (blocks.length : Int)) = false := by simp; omega
                go_wp2
                all_goals go_ret2
                all_goals exact errBack_yes (by rw [HU.out, HQ.out, HD.out, HSU.out, HQ3.out]; rfl) hvF

      have d11 : (kind == 11) = false := by rw [beq_eq_false_iff_ne]; exact e11
      have hkn : true = kn := by have h := HKN.out; rw [if_neg e2, if_neg e8, if_neg (by omega)] at h; exact h
      subst hkn
      clear e2 e8 e7 e9 e10 e11
      rw [if_neg (by simp)] at HSU
      go_wp2_with (first | (go_at_call 70; (with_reducible refine (h53 _ BB).mono ?_); rintro r u2 ⟨rfl, bb⟩; have BB := BB.tr le_rfl' bb; obtain ⟨q0, q1, t0, t1, t2, t4, t5, t6, t7, t8, t9, t10, t11⟩ := HK.out _ BB))
      have hB1 := BB
      clear q0 q1 t0 t1 t2 t4 t5 t6 t7 t8 t9 t11
      go_loopw [9, 10, 11] (fun f a i wr => ∃ (k : Nat) (o : Option Int), k ≤ blocks.length ∧ i = .int .i64 k ∧ f = .int .i64 (eI o) ∧ a = .int .i64 (eA o) ∧ Hid (E = o.or (Bl.unkL p.lk (blocks.drop k))) ∧ Below W1.heap.size W1 wr)
        (fun _ _ i _ => blocks.length - (intOf i).toNat)
      case atStart => exact ⟨0, eo, by omega, rfl, rfl, rfl, HE, hB1⟩
      case round =>
        obtain ⟨k, o, hk, rfl, rfl, rfl, HQ2, hbv⟩ := hrel
        have hzv := hbv.size
        obtain ⟨q0, q1, -, -, -, -, -, -, -, -, -, t10, -⟩ := HK.out _ hbv
        have hvF := hbG.trans (hbv.mono (by omega))
        rcases o with _ | a
        · have HQ3 : Hid (E = Bl.unkL p.lk (blocks.drop k)) := by show _ = _; rw [HQ2.out]; rfl
          simp only [eI, eA]
          by_cases hlt2 : k < blocks.length
          · rcases hslb.2.2 with h | ⟨kb, koff, rfl, hkn, hkrow⟩
            · subst h; simp at hlt2
            have hki : (k : Int) < (blocks.length : Int) := by omega
            have hkn2 : kb < wr.heap.size := by omega
            have HD2 := hid (Bl.unkL_drop p.lk blocks k hlt2)
            have hkr := hkrow.below (hvF.mono hn) hkn
            have hq : ∀ W, Below wr.heap.size wr W → Calls Tryd.prog 48 #[p.val, blocks[k].slice] W fun r w' => r = .returned (.tuple #[.int .i64 (eI (blocks[k].unk p.lk)), .int .i64 (eA (blocks[k].unk p.lk))]) ∧ Below W.heap.size W w' := fun W hW => errUni (ihb _ (List.getElem_mem hlt2) n₀ W (by have := hW.size; omega) ((hp.below (hvF.mono hn)).below (hW.mono (by omega))) ((hIb _ (List.getElem_mem hlt2)).below ((hvF.mono hn).trans (hW.mono (by omega)))))
            obtain ⟨o2, ho2⟩ : ∃ o2, blocks[k].unk p.lk = o2 := ⟨_, rfl⟩
            simp only [ho2, HE1.out] at hq
            rw [ho2] at HD2
            clear ho2
            rcases he' : blocks[k] with ⟨bad, bcap, bbody⟩
            have c0 := hkr k hlt2 0 (by omega)
            simp only [he', Bl.cells, Bl.slice, Nat.mul_one, Nat.add_zero, List.getElem?_cons_zero] at hq c0
            clear he'
            have HK2 : Hid (∀ W, Below wr.heap.size wr W → W.cell? ⟨w.heap.size, 0, none⟩ = some (.slice mad mons.length mcap) ∧ W.cell? ⟨w.heap.size, 1, none⟩ = some (.slice rad roles.length rcap) ∧ W.cell? ⟨sB, 10, none⟩ = some (.slice (some ⟨kb, koff, none⟩) blocks.length cap) ∧ W.cell? ⟨kb, koff + k, none⟩ = some (.slice bad bbody.length bcap)) := fun W hW => ⟨(hW.cell (p := ⟨w.heap.size, 0, none⟩) (by show w.heap.size < _; omega)).trans q0, (hW.cell (p := ⟨w.heap.size, 1, none⟩) (by show w.heap.size < _; omega)).trans q1, (hW.cell (p := ⟨sB, 10, none⟩) (by show sB < _; omega)).trans t10, (hW.cell (p := ⟨kb, _, none⟩) hkn2).trans c0⟩
            have B := below_drewV (Below.refl wr.heap.size wr)
            clear c0 q0 q1
            go_wp2
            all_goals (go_region_held3 (fun W => W.cell? ⟨w.heap.size, 0, none⟩ = some (.slice mad mons.length mcap) ∧ W.cell? ⟨w.heap.size, 1, none⟩ = some (.slice rad roles.length rcap) ∧ W.cell? ⟨sB, 10, none⟩ = some (.slice (some ⟨kb, koff, none⟩) blocks.length cap) ∧ W.cell? ⟨kb, koff + k, none⟩ = some (.slice bad bbody.length bcap)) (exact HK2.out _ B) (first | (go_at_call 48; (with_reducible refine (hq _ B).mono ?_); rintro r w1 ⟨rfl, bb⟩; have B := B.tr le_rfl' bb)))
            all_goals go_wp2
            all_goals go_roundw
            all_goals first
              | exact ⟨k + 1, o2, by omega, by go_num, rfl, rfl, by show _ = _; rw [HQ3.out, HD2.out], hbv.tr le_rfl' B⟩
              | (simp [intOf]; omega)
          · have hjd2 : decide ((k : Int) < (blocks.length : Int)) = false := by simp; omega
            have HN : Hid (St.unkL p.lk body = St.unkL p.lk (body.drop (j + 1))) := by
              show _ = _
              rw [HQ.out, HD.out, HSU.out, HQ3.out, Bl.unkL_end _ _ _ (by omega)]; rfl
            go_wp2
            all_goals go_roundw
            all_goals first
              | exact ⟨j + 1, by omega, by go_num, HN, hbw.trans ((hbW1.mono (by omega)).trans (hbv.mono (by omega)))⟩
              | (simp [intOf]; omega)
        · have HQ3 : Hid (E = some a) := by show _ = _; rw [HQ2.out]; rfl
          simp only [eI, eA]
          by_cases hlt2 : k < blocks.length
          · have hki : (k : Int) < (blocks.length : Int) := by omega
            go_wp2
            all_goals go_ret2
            all_goals exact errBack_yes (by rw [HU.out, HQ.out, HD.out, HSU.out, HQ3.out]; rfl) hvF
          · have hjd2 : decide ((k : Int) < (blocks.length : Int)) = false := by simp; omega
            go_wp2
            all_goals go_ret2
            all_goals exact errBack_yes (by rw [HU.out, HQ.out, HD.out, HSU.out, HQ3.out]; rfl) hvF
    · have hjd : decide ((j : Int) < (body.length : Int)) = false := by simp; omega
      go_wp2
      go_ret2
      exact errBack_no (by rw [HU.out, HQ.out, St.unkL_end _ _ _ (by omega)]) hbF
theorem refStmts_any (p : Pr) (hvs : vsum p.mons ≤ 1000000) (b : Bl) : RefStmts p b :=
  Bl.ind (P := fun s => ∀ b ∈ StBl s, RefStmts p b) (Q := RefStmts p) (fun _ _ _ _ _ _ _ _ _ ih b hb => ih b hb) (fun ad cap body ih => refStmts_step p hvs ad cap body ih) b
end Go.Proofs.YtgfdegogknoknaaDoor
namespace Go.Proofs.YtgfdegogknoknaaDoor
open Go.RowKit
theorem _root_.Go.RowKit.Below.al' {n₀ : Nat} {A B : World} (h : Below n₀ A B) (hB : n₀ ≤ B.heap.size) (o : Obj) : Below n₀ A (B.alloc o) := h.alloc hB o
/-- Two rows that are owned: names and places. -/
structure NA (base : Nat) (W0 W : World) (v : Value) (n : Nat) (xs : List Value) (u : Value) (m : Nat) (ys : List Value) : Prop where
  nm : W.ownsRow base 9 1 v n xs
  ps : W.ownsRow base 3 1 u m ys
  bl : Below base W0 W
  sz : base ≤ W.heap.size
theorem NA.al {base : Nat} {W0 W : World} {v : Value} {n : Nat} {xs : List Value} {u : Value} {m : Nat} {ys : List Value} (h : NA base W0 W v n xs u m ys) (o : Obj) : NA base W0 (W.alloc o) v n xs u m ys :=
  ⟨h.nm.alloc o, h.ps.alloc o, h.bl.al' h.sz o, by have := h.sz; simp; omega⟩
theorem NA.dr {base : Nat} {W0 W : World} {v : Value} {n : Nat} {xs : List Value} {u : Value} {m : Nat} {ys : List Value} (h : NA base W0 W v n xs u m ys) : NA base W0 W.drew v n xs u m ys :=
  ⟨h.nm, h.ps, h.bl.drew, h.sz⟩
theorem NA.ne {base : Nat} {W0 W : World} {v : Value} {n : Nat} {xs : List Value} {u : Value} {m : Nat} {ys : List Value} (h : NA base W0 W v n xs u m ys) : v.ownBlock = none ∨ v.ownBlock ≠ u.ownBlock := by
  rcases h.nm.2 with ⟨rfl, _⟩ | ⟨g, c, cur, rfl, _, hg, _⟩
  · exact .inl rfl
  · refine .inr fun e => ?_
    rcases h.ps.2 with ⟨rfl, _⟩ | ⟨g', c', cur', rfl, _, hg', _⟩
    · cases e
    · have e2 : g = g' := by simpa [Value.ownBlock] using e
      subst e2
      rw [hg] at hg'
      injection hg' with h1
      injection h1 with _ h2
      cases h2
theorem NA.app1 {base : Nat} {W0 W w1 : World} {v v' : Value} {n n' : Nat} {xs xs' : List Value} {u : Value} {m : Nat} {ys : List Value} (h : NA base W0 W v n xs u m ys) (ho : w1.ownsRow base 9 1 v' n' xs') (hg : W.grownBy w1 v.ownBlock) : NA base W0 w1 v' n' xs' u m ys := by
  refine ⟨ho, h.ps.kept hg ?_, h.bl.grown hg h.sz (fun k hk => (h.nm.lt k hk).1), Nat.le_trans h.sz hg.size⟩
  rcases h.ne with h1 | h1
  · by_cases h2 : u.ownBlock = none
    · exact .inl h2
    · exact .inr (fun e => h2 (e.trans h1))
  · exact .inr (fun e => h1 e.symm)
theorem NA.app2 {base : Nat} {W0 W w1 : World} {v : Value} {n : Nat} {xs : List Value} {u u' : Value} {m m' : Nat} {ys ys' : List Value} (h : NA base W0 W v n xs u m ys) (ho : w1.ownsRow base 3 1 u' m' ys') (hg : W.grownBy w1 u.ownBlock) : NA base W0 w1 v n xs u' m' ys' := by
  refine ⟨h.nm.kept hg ?_, ho, h.bl.grown hg h.sz (fun k hk => (h.ps.lt k hk).1), Nat.le_trans h.sz hg.size⟩
  exact h.ne
theorem info9x : (Tryd.prog.info? 9).map (fun i => (i.zero, i.size, i.bytes)) = some (some (.string ⟨#[]⟩), 1, 16) := by kernel_rfl
theorem info3x : (Tryd.prog.info? 3).map (fun i => (i.zero, i.size, i.bytes)) = some (some (.int .i64 0), 1, 8) := by kernel_rfl
/-- Names and places as cells. -/
def nC (l : List (ByteArray × Int)) : List Value := l.map fun x => .string x.1
def pC (l : List (ByteArray × Int)) : List Value := l.map fun x => .int .i64 x.2
theorem nC_snoc (l : List (ByteArray × Int)) (x : ByteArray × Int) : nC (l ++ [x]) = nC l ++ [.string x.1] := by simp [nC]
theorem pC_snoc (l : List (ByteArray × Int)) (x : ByteArray × Int) : pC (l ++ [x]) = pC l ++ [.int .i64 x.2] := by simp [pC]
theorem dupN_drop (l : List (ByteArray × Int)) (k : Nat) (h : k < l.length) (seen : List ByteArray) : dupN seen (l.drop k) = if hasN seen l[k].1 then some l[k].2 else dupN (seen ++ [l[k].1]) (l.drop (k + 1)) := by
  rw [List.drop_eq_getElem_cons h, dupN]
theorem fst_snoc (l : List (ByteArray × Int)) (k : Nat) (h : k < l.length) : (l.take (k + 1)).map Prod.fst = (l.take k).map Prod.fst ++ [l[k].1] := by rw [List.take_succ_eq_append_getElem h, List.map_append]; rfl
theorem hasN_hit (l : List (ByteArray × Int)) (i k : Nat) (hi : i < l.length) (hk : k < i) (h : (l[k]'(by omega)).1 = l[i].1) : hasN ((l.take i).map Prod.fst) l[i].1 = true := by
  refine hasN_iff.2 (List.mem_map.2 ⟨l[k]'(by omega), ?_, h⟩)
  rw [List.mem_take_iff_getElem]
  exact ⟨k, by omega, rfl⟩
theorem hasN_miss (l : List (ByteArray × Int)) (i : Nat) (hi : i < l.length) (h : ∀ k (hk : k < l.length), k < i → ¬ l[k].1 = l[i].1) : ¬ hasN ((l.take i).map Prod.fst) l[i].1 = true := by
  intro h1
  obtain ⟨x, hx, he⟩ := List.mem_map.1 (hasN_iff.1 h1)
  obtain ⟨k, hk, rfl⟩ := List.mem_take_iff_getElem.1 hx
  exact h k (by omega) (by omega) he
theorem own_at {w : World} {base : Nat} {e : TypeId} {v : Value} {n : Nat} {xs : List Value} (h : w.ownsRow base e 1 v n xs) (hn : 0 < n) : ∃ g cap, v = .slice (some ⟨g, 0, none⟩) n cap ∧ base ≤ g ∧ g < w.heap.size ∧ n ≤ cap ∧ cap ≤ maxLen ∧ ∀ k u, xs[k]? = some u → w.cell? ⟨g, k, none⟩ = some u := by
  have h0 := h
  rcases h.2 with ⟨_, h0⟩ | ⟨g, cap, cur, rfl, hb, hg, h1, h2, _⟩
  · omega
  · refine ⟨g, cap, rfl, hb, (Array.getElem?_eq_some_iff.1 hg).1, h1, h2, fun k u hk => ?_⟩
    have h3 := h0.cells (g := g) rfl k u hk
    rw [Addr.add_lit, Nat.zero_add] at h3
    exact h3
theorem nC_at (l : List (ByteArray × Int)) (k : Nat) (h : k < l.length) : (nC l)[k]? = some (.string l[k].1) := by simp [nC, h]
theorem pC_at (l : List (ByteArray × Int)) (k : Nat) (h : k < l.length) : (pC l)[k]? = some (.int .i64 l[k].2) := by simp [pC, h]
theorem NA.drN {base : Nat} {W0 W : World} {v : Value} {n : Nat} {xs : List Value} {u : Value} {m : Nat} {ys : List Value} (h : NA base W0 W v n xs u m ys) (k : Nat) : NA base W0 (W.drewN k) v n xs u m ys := ⟨h.nm, h.ps, below_drewN h.bl k, h.sz⟩
theorem vpA_snoc (l : List Va) (k : Nat) (h : k < l.length) : (l.take (k + 1)).map (fun v => (v.name, v.pos)) = (l.take k).map (fun v => (v.name, v.pos)) ++ [(l[k].name, l[k].pos)] := by rw [List.take_succ_eq_append_getElem h, List.map_append]; rfl
theorem fpA_snoc (l : List Me) (k : Nat) (h : k < l.length) : (l.take (k + 1)).map (fun v => (v.name, v.pos)) = (l.take k).map (fun v => (v.name, v.pos)) ++ [(l[k].name, l[k].pos)] := by rw [List.take_succ_eq_append_getElem h, List.map_append]; rfl
set_option maxRecDepth 100000 in
set_option maxHeartbeats 16000000 in
theorem refMon_any (m : Mo) (n₀ : Nat) (w : World) (hn : n₀ ≤ w.heap.size) (hI : m.Is n₀ w) (hb1 : m.vars.length ≤ 1000) (hb2 : m.meths.length ≤ 1000) :
    Calls Tryd.prog 47 #[m.val] w fun r w' => ErrBack 60 (dupN [] m.nps) w w' r := by
  obtain ⟨i9, hi9, hz9, hy9, hx9⟩ := info_parts info9x
  obtain ⟨i3, hi3, hz3, hy3, hx3⟩ := info_parts info3x
  have HU : Hid (dupN [] m.nps = dupN [] (vps m.vars ++ fps m.meths)) := rfl
  rcases m with ⟨mname, mvad, mvcap, mvars, mmad, mmcap, mmeths, mpos⟩
  obtain ⟨-, ⟨hv1, hv2⟩, hf1, hf2⟩ := hI
  simp only at hv1 hf1 hf2 hb1 hb2 HU
  have hl1 := hv1.1; have hl2 := hv1.2.1; have hl3 := hf1.1; have hl4 := hf1.2.1
  unfold maxLen at hl2 hl4
  simp only [Mo.val, Mo.cells]
  go_enter Tryd.func47, Tryd.ntmps47
  go_upto_region 1 with fail
  obtain ⟨bP, hB, hz⟩ := one_box w #[.string mname, .slice mvad mvars.length mvcap, .slice mmad mmeths.length mmcap, .int .i64 mpos] 48
  obtain ⟨W0, hW0⟩ : ∃ W0, w.alloc (.cells #[.string mname, .slice mvad mvars.length mvcap, .slice mmad mmeths.length mmcap, .int .i64 mpos] 48) = W0 := ⟨_, rfl⟩
  rw [hW0] at bP hB hz ⊢
  clear hW0
  have r1 := cellOf bP 1
  have r2 := cellOf bP 2
  simp at r1 r2
  have HZ := hid hz
  have hzl : w.heap.size + 1 ≤ W0.heap.size := by omega
  clear hz bP
  go_wp2
  go_loopw [4, 5, 6] (fun v u i wr => ∃ j : Nat, j ≤ mvars.length ∧ i = .int .i64 j ∧ Hid ((vps (mvars.take j)).length = j) ∧ NA (w.heap.size + 1) W0 wr v (vps (mvars.take j)).length (nC (vps (mvars.take j))) u (vps (mvars.take j)).length (pC (vps (mvars.take j))))
    (fun _ _ i _ => mvars.length - (intOf i).toNat)
  case atStart => exact ⟨0, by omega, rfl, rfl, ⟨World.ownsRow_nil _ _ _ _, World.ownsRow_nil _ _ _ _, Below.refl _ _, hzl⟩⟩
  case round =>
    obtain ⟨j, hj, rfl, HJ, hNA⟩ := hrel
    have hz0 := HZ.out
    have hzw := hNA.sz
    have hbF : Below w.heap.size w wr := hB.trans (hNA.bl.mono (by omega))
    have y1 := (hNA.bl.cell (p := ⟨w.heap.size, 1, none⟩) (by show w.heap.size < _; omega)).trans r1
    by_cases hlt : j < mvars.length
    · rcases hv1.2.2 with h | ⟨kb, koff, rfl, hbn, hrow⟩
      · subst h; simp at hlt
      have hji : (j : Int) < (mvars.length : Int) := by omega
      have hbn2 : kb < wr.heap.size := by omega
      have HS := hid (vpA_snoc mvars j hlt)
      have hrj := hrow.below (hB.mono hn) hbn
      rcases he' : mvars[j] with ⟨nm, vtype, vlo, vhi, vinit, ps⟩
      obtain ⟨c0, -, -, -, -, c5⟩ := row6 hrj j hlt (by rw [he']; rfl)
      rw [he'] at HS
      simp only at HS
      clear he'
      have HKN : Hid (∀ W v n xs u m ys, NA (w.heap.size + 1) W0 W v n xs u m ys → W.cell? ⟨w.heap.size, 1, none⟩ = some (.slice (some ⟨kb, koff, none⟩) mvars.length mvcap) ∧ W.cell? ⟨kb, koff + j * 6, none⟩ = some (.string nm) ∧ W.cell? ⟨kb, koff + j * 6 + 5, none⟩ = some (.int .i64 ps)) := fun W _ _ _ _ _ _ hW => ⟨(hW.bl.cell (p := ⟨w.heap.size, 1, none⟩) (by show w.heap.size < _; omega)).trans r1, (hW.bl.cell (p := ⟨kb, _, none⟩) (by show kb < _; omega)).trans c0, (hW.bl.cell (p := ⟨kb, _, none⟩) (by show kb < _; omega)).trans c5⟩
      obtain ⟨L, hL⟩ : ∃ L, vps (mvars.take j) = L := ⟨_, rfl⟩
      have HS : Hid (vps (mvars.take (j + 1)) = L ++ [(nm, ps)]) := by show _ = _; rw [← hL]; exact HS.out
      rw [hL] at hNA
      have hLl : L.length ≤ 1000 := by have := HJ.out; rw [hL] at this; omega
      have HJ2 : Hid (L.length = j) := by have := HJ.out; rw [hL] at this; exact this
      have HJ3 : Hid ((vps (mvars.take (j + 1))).length = j + 1) := by show _ = _; rw [HS.out, List.length_append, HJ2.out]; rfl
      have HFIN : Hid (∀ W v u, NA (w.heap.size + 1) W0 W v (L.length + 1) (nC L ++ [.string nm]) u (L.length + 1) (pC L ++ [.int .i64 ps]) → NA (w.heap.size + 1) W0 W v (vps (mvars.take (j + 1))).length (nC (vps (mvars.take (j + 1)))) u (vps (mvars.take (j + 1))).length (pC (vps (mvars.take (j + 1))))) := fun W v u h => by
        rw [HS.out, nC_snoc, pC_snoc, List.length_append]; exact h
      clear hL HJ c0 c5
      go_wp2
      go_region_held3 (fun W => W.cell? ⟨w.heap.size, 1, none⟩ = some (.slice (some ⟨kb, koff, none⟩) mvars.length mvcap) ∧ W.cell? ⟨kb, koff + j * 6, none⟩ = some (.string nm) ∧ W.cell? ⟨kb, koff + j * 6 + 5, none⟩ = some (.int .i64 ps)) (first | exact HKN.out _ _ _ _ _ _ _ hNA.dr | exact HKN.out _ _ _ _ _ _ _ (hNA.dr.al _) | exact HKN.out _ _ _ _ _ _ _ ((hNA.al _).dr) | exact HKN.out _ _ _ _ _ _ _ ((hNA.dr.al _).al _) | exact HKN.out _ _ _ _ _ _ _ (((hNA.al _).al _).dr) | exact HKN.out _ _ _ _ _ _ _ hN1 | exact HKN.out _ _ _ _ _ _ _ (hN1.al _) | exact HKN.out _ _ _ _ _ _ _ hN1.dr | exact HKN.out _ _ _ _ _ _ _ ((hN1.al _).dr) | exact HKN.out _ _ _ _ _ _ _ hN2 | exact HKN.out _ _ _ _ _ _ _ hN2.dr | exact HKN.out _ _ _ _ _ _ _ hNA | exact HKN.out _ _ _ _ _ _ _ (hNA.al _) | exact HKN.out _ _ _ _ _ _ _ ((hNA.al _).al _)) (first | (refine step_append_lies _ (by rfl) _ _ 115 (by rfl) (w.heap.size + 1) 9 i9 _ 1 16 Tryd.underlying115 hi9 hz9 hy9 hx9 rfl (by decide) u4 L.length (nC L) (by rfl) (NA.nm (W0 := W0) (u := u5) (m := L.length) (ys := pC L) ?_) ⟨_, 0, none⟩ 1 1 [.string nm] (by rfl) (by rfl) (World.news_of_block (cs := #[.string nm]) (t := 9) (fr := (0, 0)) ?_) (by simp [Value.oneCell']) (by omega) (by unfold maxLen; omega) (by omega) ?_ _ rfl ?_; (repeat (first | exact hNA | with_reducible refine NA.al ?_ _ | with_reducible refine NA.dr ?_)); (first | exact heapAt9 _ (by simp) | exact (Below.heap_alloc _ _ _ (by simp)).trans (heapAt9 _ (by simp)) | exact heapNew _ _); (have := hNA.sz; (first | omega | (simp; done) | (simp; omega))); intro g1 gc1 w1 hown1 hg1 hat1 hlt1; have hN1 : NA (w.heap.size + 1) W0 w1 (.slice (some ⟨g1, 0, none⟩) (L.length + 1) gc1) (L.length + 1) (nC L ++ [.string nm]) u5 L.length (pC L) := (by refine NA.app1 (v := u4) (n := L.length) (xs := nC L) ?_ hown1 hg1; (repeat (first | exact hNA | with_reducible refine NA.al ?_ _ | with_reducible refine NA.dr ?_)))) | (refine step_append_lies _ (by rfl) _ _ 85 (by rfl) (w.heap.size + 1) 3 i3 _ 1 8 Tryd.underlying85 hi3 hz3 hy3 hx3 rfl (by decide) u5 L.length (pC L) (by rfl) (NA.ps (W0 := W0) (v := .slice (some ⟨g1, 0, none⟩) (L.length + 1) gc1) (n := L.length + 1) (xs := nC L ++ [.string nm]) ?_) ⟨_, 0, none⟩ 1 1 [.int .i64 ps] (by rfl) (by rfl) (World.news_of_block (cs := #[.int .i64 ps]) (t := 3) (fr := (0, 0)) ?_) (by simp [Value.oneCell']) (by omega) (by unfold maxLen; omega) (by omega) ?_ _ rfl ?_; (repeat (first | exact hN1 | with_reducible refine NA.al ?_ _ | with_reducible refine NA.dr ?_)); (first | exact heapAt9 _ (by simp) | exact heapNew _ _ | (refine (hg1.block _ (by simp <;> omega) ?_).trans ?_; (intro e; have := (hNA.nm.lt _ e.symm).2; first | (simp at this; done) | omega); first | exact heapAt9 _ (by simp) | exact (Below.heap_alloc _ _ _ (by simp)).trans (heapAt9 _ (by simp)) | exact heapNew _ _)); (have := hN1.sz; (first | omega | (simp; done) | (simp; omega))); intro g2 gc2 w2 hown2 hg2 hat2 hlt2; have hN2 : NA (w.heap.size + 1) W0 w2 (.slice (some ⟨g1, 0, none⟩) (L.length + 1) gc1) (L.length + 1) (nC L ++ [.string nm]) (.slice (some ⟨g2, 0, none⟩) (L.length + 1) gc2) (L.length + 1) (pC L ++ [.int .i64 ps]) := (by refine NA.app2 (u := u5) (m := L.length) (ys := pC L) ?_ hown2 hg2; (repeat (first | exact hN1 | with_reducible refine NA.al ?_ _ | with_reducible refine NA.dr ?_)))))
      all_goals go_wp2
      all_goals go_roundw
      all_goals first
        | exact ⟨j + 1, by omega, by go_num, HJ3, HFIN.out _ _ _ hN2⟩
        | (simp [intOf]; omega)
    · have hjd : decide ((j : Int) < (mvars.length : Int)) = false := by simp; omega
      have y2 := (hNA.bl.cell (p := ⟨w.heap.size, 2, none⟩) (by show w.heap.size < _; omega)).trans r2
      have hNA0 : NA (w.heap.size + 1) W0 wr u4 (vps mvars ++ fps (mmeths.take 0)).length (nC (vps mvars ++ fps (mmeths.take 0))) u5 (vps mvars ++ fps (mmeths.take 0)).length (pC (vps mvars ++ fps (mmeths.take 0))) := by
        rw [List.take_of_length_le (show mvars.length ≤ j by omega)] at hNA
        simpa [fps] using hNA
      have HL0 : Hid ((vps mvars).length = mvars.length) := by show _ = _; simp [vps]
      clear hNA
      go_wp2
      go_loopw [4, 5, 7] (fun v u i wr => ∃ j : Nat, j ≤ mmeths.length ∧ i = .int .i64 j ∧ Hid ((vps mvars ++ fps (mmeths.take j)).length = mvars.length + j) ∧ NA (w.heap.size + 1) W0 wr v (vps mvars ++ fps (mmeths.take j)).length (nC (vps mvars ++ fps (mmeths.take j))) u (vps mvars ++ fps (mmeths.take j)).length (pC (vps mvars ++ fps (mmeths.take j))))
        (fun _ _ i _ => mmeths.length - (intOf i).toNat)
      case atStart => exact ⟨0, by omega, rfl, by show _ = _; rw [List.length_append, HL0.out]; rfl, hNA0⟩
      case round =>
        clear hNA0
        obtain ⟨j, hj, rfl, HJ, hNA⟩ := hrel
        have hzw := hNA.sz
        have hbF : Below w.heap.size w wr := hB.trans (hNA.bl.mono (by omega))
        have y2 := (hNA.bl.cell (p := ⟨w.heap.size, 2, none⟩) (by show w.heap.size < _; omega)).trans r2
        by_cases hlt : j < mmeths.length
        · rcases hf1.2.2 with h | ⟨kb, koff, rfl, hbn, hrow⟩
          · subst h; simp at hlt
          have hji : (j : Int) < (mmeths.length : Int) := by omega
          have hbn2 : kb < wr.heap.size := by omega
          have HS := hid (fpA_snoc mmeths j hlt)
          have hrj := hrow.below (hB.mono hn) hbn
          rcases he' : mmeths[j] with ⟨nm, fbody, ps⟩
          obtain ⟨c0, -, c2⟩ := row3 hrj j hlt (by rw [he']; rfl)
          rw [he'] at HS
          simp only at HS
          clear he'
          have HKN : Hid (∀ W v n xs u m ys, NA (w.heap.size + 1) W0 W v n xs u m ys → W.cell? ⟨w.heap.size, 2, none⟩ = some (.slice (some ⟨kb, koff, none⟩) mmeths.length mmcap) ∧ W.cell? ⟨kb, koff + j * 3, none⟩ = some (.string nm) ∧ W.cell? ⟨kb, koff + j * 3 + 2, none⟩ = some (.int .i64 ps)) := fun W _ _ _ _ _ _ hW => ⟨(hW.bl.cell (p := ⟨w.heap.size, 2, none⟩) (by show w.heap.size < _; omega)).trans r2, (hW.bl.cell (p := ⟨kb, _, none⟩) (by show kb < _; omega)).trans c0, (hW.bl.cell (p := ⟨kb, _, none⟩) (by show kb < _; omega)).trans c2⟩
          obtain ⟨L, hL⟩ : ∃ L, vps mvars ++ fps (mmeths.take j) = L := ⟨_, rfl⟩
          have HS : Hid (vps mvars ++ fps (mmeths.take (j + 1)) = L ++ [(nm, ps)]) := by show _ = _; rw [← hL, List.append_assoc]; exact congrArg _ HS.out
          rw [hL] at hNA
          have hLl : L.length ≤ 2000 := by have := HJ.out; rw [hL] at this; omega
          have HJ2 : Hid (L.length = mvars.length + j) := by have := HJ.out; rw [hL] at this; exact this
          have HJ3 : Hid ((vps mvars ++ fps (mmeths.take (j + 1))).length = mvars.length + (j + 1)) := by show _ = _; rw [HS.out, List.length_append, HJ2.out]; rfl
          have HFIN : Hid (∀ W v u, NA (w.heap.size + 1) W0 W v (L.length + 1) (nC L ++ [.string nm]) u (L.length + 1) (pC L ++ [.int .i64 ps]) → NA (w.heap.size + 1) W0 W v (vps mvars ++ fps (mmeths.take (j + 1))).length (nC (vps mvars ++ fps (mmeths.take (j + 1)))) u (vps mvars ++ fps (mmeths.take (j + 1))).length (pC (vps mvars ++ fps (mmeths.take (j + 1))))) := fun W v u h => by
            rw [HS.out, nC_snoc, pC_snoc, List.length_append]; exact h
          clear hL HJ c0 c2
          go_wp2
          go_region_held3 (fun W => W.cell? ⟨w.heap.size, 2, none⟩ = some (.slice (some ⟨kb, koff, none⟩) mmeths.length mmcap) ∧ W.cell? ⟨kb, koff + j * 3, none⟩ = some (.string nm) ∧ W.cell? ⟨kb, koff + j * 3 + 2, none⟩ = some (.int .i64 ps)) (first | exact HKN.out _ _ _ _ _ _ _ hNA.dr | exact HKN.out _ _ _ _ _ _ _ (hNA.dr.al _) | exact HKN.out _ _ _ _ _ _ _ ((hNA.al _).dr) | exact HKN.out _ _ _ _ _ _ _ ((hNA.dr.al _).al _) | exact HKN.out _ _ _ _ _ _ _ (((hNA.al _).al _).dr) | exact HKN.out _ _ _ _ _ _ _ hN1 | exact HKN.out _ _ _ _ _ _ _ (hN1.al _) | exact HKN.out _ _ _ _ _ _ _ hN1.dr | exact HKN.out _ _ _ _ _ _ _ ((hN1.al _).dr) | exact HKN.out _ _ _ _ _ _ _ hN2 | exact HKN.out _ _ _ _ _ _ _ hN2.dr | exact HKN.out _ _ _ _ _ _ _ hNA | exact HKN.out _ _ _ _ _ _ _ (hNA.al _) | exact HKN.out _ _ _ _ _ _ _ ((hNA.al _).al _)) (first | (refine step_append_lies _ (by rfl) _ _ 115 (by rfl) (w.heap.size + 1) 9 i9 _ 1 16 Tryd.underlying115 hi9 hz9 hy9 hx9 rfl (by decide) u4 L.length (nC L) (by rfl) (NA.nm (W0 := W0) (u := u5) (m := L.length) (ys := pC L) ?_) ⟨_, 0, none⟩ 1 1 [.string nm] (by rfl) (by rfl) (World.news_of_block (cs := #[.string nm]) (t := 9) (fr := (0, 0)) ?_) (by simp [Value.oneCell']) (by omega) (by unfold maxLen; omega) (by omega) ?_ _ rfl ?_; (repeat (first | exact hNA | with_reducible refine NA.al ?_ _ | with_reducible refine NA.dr ?_)); (first | exact heapAt9 _ (by simp) | exact (Below.heap_alloc _ _ _ (by simp)).trans (heapAt9 _ (by simp)) | exact heapNew _ _); (have := hNA.sz; (first | omega | (simp; done) | (simp; omega))); intro g1 gc1 w1 hown1 hg1 hat1 hlt1; have hN1 : NA (w.heap.size + 1) W0 w1 (.slice (some ⟨g1, 0, none⟩) (L.length + 1) gc1) (L.length + 1) (nC L ++ [.string nm]) u5 L.length (pC L) := (by refine NA.app1 (v := u4) (n := L.length) (xs := nC L) ?_ hown1 hg1; (repeat (first | exact hNA | with_reducible refine NA.al ?_ _ | with_reducible refine NA.dr ?_)))) | (refine step_append_lies _ (by rfl) _ _ 85 (by rfl) (w.heap.size + 1) 3 i3 _ 1 8 Tryd.underlying85 hi3 hz3 hy3 hx3 rfl (by decide) u5 L.length (pC L) (by rfl) (NA.ps (W0 := W0) (v := .slice (some ⟨g1, 0, none⟩) (L.length + 1) gc1) (n := L.length + 1) (xs := nC L ++ [.string nm]) ?_) ⟨_, 0, none⟩ 1 1 [.int .i64 ps] (by rfl) (by rfl) (World.news_of_block (cs := #[.int .i64 ps]) (t := 3) (fr := (0, 0)) ?_) (by simp [Value.oneCell']) (by omega) (by unfold maxLen; omega) (by omega) ?_ _ rfl ?_; (repeat (first | exact hN1 | with_reducible refine NA.al ?_ _ | with_reducible refine NA.dr ?_)); (first | exact heapAt9 _ (by simp) | exact heapNew _ _ | (refine (hg1.block _ (by simp <;> omega) ?_).trans ?_; (intro e; have := (hNA.nm.lt _ e.symm).2; first | (simp at this; done) | omega); first | exact heapAt9 _ (by simp) | exact (Below.heap_alloc _ _ _ (by simp)).trans (heapAt9 _ (by simp)) | exact heapNew _ _)); (have := hN1.sz; (first | omega | (simp; done) | (simp; omega))); intro g2 gc2 w2 hown2 hg2 hat2 hlt2; have hN2 : NA (w.heap.size + 1) W0 w2 (.slice (some ⟨g1, 0, none⟩) (L.length + 1) gc1) (L.length + 1) (nC L ++ [.string nm]) (.slice (some ⟨g2, 0, none⟩) (L.length + 1) gc2) (L.length + 1) (pC L ++ [.int .i64 ps]) := (by refine NA.app2 (u := u5) (m := L.length) (ys := pC L) ?_ hown2 hg2; (repeat (first | exact hN1 | with_reducible refine NA.al ?_ _ | with_reducible refine NA.dr ?_)))))
          all_goals go_wp2
          all_goals go_roundw
          all_goals first
            | exact ⟨j + 1, by omega, by go_num, HJ3, HFIN.out _ _ _ hN2⟩
            | (simp [intOf]; omega)
        · have hjd2 : decide ((j : Int) < (mmeths.length : Int)) = false := by simp; omega
          obtain ⟨LA, hLA⟩ : ∃ LA, vps mvars ++ fps mmeths = LA := ⟨_, rfl⟩
          have hNL : NA (w.heap.size + 1) W0 wr u4 LA.length (nC LA) u5 LA.length (pC LA) := by
            rw [List.take_of_length_le (show mmeths.length ≤ j by omega), hLA] at hNA; exact hNA
          have hLl : LA.length ≤ 2000 := by
            have := HJ.out
            rw [List.take_of_length_le (show mmeths.length ≤ j by omega), hLA] at this
            omega
          rw [hLA] at HU
          clear hLA hNA HJ
          obtain ⟨na, hna⟩ : ∃ na, u4 = na := ⟨_, rfl⟩
          obtain ⟨pa, hpa⟩ : ∃ pa, u5 = pa := ⟨_, rfl⟩
          obtain ⟨ad4, cp4, e4⟩ : ∃ ad cp, u4 = .slice ad LA.length cp := by
            rcases hNL.nm.2 with ⟨h1, h2⟩ | ⟨g, cp, _, h1, _⟩
            · exact ⟨none, 0, by rw [h1, h2]⟩
            · exact ⟨_, cp, h1⟩
          obtain ⟨ad5, cp5, e5⟩ : ∃ ad cp, u5 = .slice ad LA.length cp := by
            rcases hNL.ps.2 with ⟨h1, h2⟩ | ⟨g, cp, _, h1, _⟩
            · exact ⟨none, 0, by rw [h1, h2]⟩
            · exact ⟨_, cp, h1⟩
          subst e4 e5
          clear hna hpa
          go_wp2
          go_loopw [8] (fun i wr => ∃ j : Nat, j ≤ LA.length ∧ i = .int .i64 j ∧ Hid (dupN [] LA = dupN ((LA.take j).map Prod.fst) (LA.drop j)) ∧ NA (w.heap.size + 1) W0 wr (.slice ad4 LA.length cp4) LA.length (nC LA) (.slice ad5 LA.length cp5) LA.length (pC LA))
            (fun i _ => LA.length - (intOf i).toNat)
          case atStart => exact ⟨0, by omega, rfl, rfl, hNL⟩
          case round =>
            clear hNL
            obtain ⟨wo, hwo⟩ : ∃ wo : World, wo = wr := ⟨_, rfl⟩
            subst hwo
            obtain ⟨j, hj, rfl, HQ, hNL⟩ := hrel
            have hzo := hNL.sz
            have hbO : Below w.heap.size w wo := hB.trans (hNL.bl.mono (by omega))
            by_cases hlt3 : j < LA.length
            · have hji : (j : Int) < (LA.length : Int) := by omega
              have HD := hid (dupN_drop LA j hlt3 ((LA.take j).map Prod.fst))
              have HSN := hid (fst_snoc LA j hlt3)
              have HHIT := fun k (hk : k < j) (h : (LA[k]'(by omega)).1 = LA[j].1) => hasN_hit LA j k hlt3 hk h
              have HMISS := hid (hasN_miss LA j hlt3)
              obtain ⟨x, hx⟩ : ∃ x, LA[j] = x := ⟨_, rfl⟩
              go_wp2
              go_loopw [9] (fun i wr => ∃ k : Nat, k ≤ j ∧ i = .int .i64 k ∧ Hid (∀ k' (hk' : k' < LA.length), k' < k → ¬ LA[k'].1 = LA[j].1) ∧ NA (w.heap.size + 1) W0 wr (.slice ad4 LA.length cp4) LA.length (nC LA) (.slice ad5 LA.length cp5) LA.length (pC LA))
                (fun i _ => j - (intOf i).toNat)
              case atStart => exact ⟨0, by omega, rfl, (fun _ _ h => by omega), hNL⟩
              case round =>
                obtain ⟨k, hk, rfl, HQ2, hNK⟩ := hrel
                have hzk := hNK.sz
                have hbK : Below w.heap.size w wr := hB.trans (hNK.bl.mono (by omega))
                by_cases hlt4 : k < j
                · have hki : (k : Int) < (LA.length : Int) := by omega
                  have hki2 : (k : Int) < (j : Int) := by omega
                  obtain ⟨g4, c4, e4, -, hg4, hn4, hm4, hc4⟩ := own_at hNK.nm (by omega)
                  obtain ⟨g5, c5, e5, -, hg5, hn5, hm5, hc5⟩ := own_at hNK.ps (by omega)
                  unfold maxLen at hm4 hm5
                  have a0 := hc4 k _ (nC_at LA k (by omega))
                  have a1 := hc4 j _ (nC_at LA j hlt3)
                  have a2 := hc5 j _ (pC_at LA j hlt3)
                  cases e4
                  cases e5
                  have HH : Hid ((LA[k]'(by omega)).1 = LA[j].1 → dupN [] LA = some LA[j].2) := fun h => by rw [HQ.out, HD.out, if_pos (HHIT k hlt4 h)]
                  have HN2 : Hid (¬ (LA[k]'(by omega)).1 = LA[j].1 → ∀ k' (hk' : k' < LA.length), k' < k + 1 → ¬ LA[k'].1 = LA[j].1) := fun h k' hk' h2 => by
                    by_cases e : k' = k
                    · subst e; exact h
                    · exact HQ2.out k' hk' (by omega)
                  obtain ⟨n1, hn1⟩ : ∃ n1, (LA[k]'(by omega)).1 = n1 := ⟨_, rfl⟩
                  obtain ⟨n2, hn2⟩ : ∃ n2, LA[j].1 = n2 := ⟨_, rfl⟩
                  obtain ⟨ps, hps⟩ : ∃ ps, LA[j].2 = ps := ⟨_, rfl⟩
                  rw [hn1] at a0
                  rw [hn2] at a1
                  rw [hps] at a2
                  have HH2 : Hid (n1 = n2 → dupN [] LA = some ps) := fun h => by rw [← hps]; exact HH.out (by rw [hn1, hn2]; exact h)
                  have HN3 : Hid (¬ n1 = n2 → ∀ k' (hk' : k' < LA.length), k' < k + 1 → ¬ LA[k'].1 = LA[j].1) := fun h => HN2.out (by rw [hn1, hn2]; exact h)
                  clear HH HN2 hn1 hn2 hps hc4 hc5 HHIT
                  by_cases hd : n1 = n2
                  · have HE := hid (HH2.out hd)
                    subst hd
                    clear HH2 HN3
                    go_wp2
                    go_quiet (fail)
                    go_wp2
                    go_quiet (fail)
                    go_wp2
                    go_ret2
                    exact errBack_yes (by rw [HU.out]; exact HE.out) (below_drewN (below_drewN hbK _) _)
                  · have hs1 := str_ne hd
                    have hs2 : (n1.toList == n2.toList) = false := by rw [beq_eq_false_iff_ne]; exact hs1
                    have HE := hid (HN3.out hd)
                    clear hd HH2 HN3
                    go_wp2
                    go_quiet (fail)
                    go_wp2
                    go_roundw
                    case rel => exact ⟨k + 1, by omega, by go_num, HE, hNK.drN _⟩
                    case measure => simp [intOf]; omega
                · have hkd : decide ((k : Int) < (j : Int)) = false := by simp; omega
                  have HE : Hid (dupN [] LA = dupN ((LA.take (j + 1)).map Prod.fst) (LA.drop (j + 1))) := by
                    show _ = _
                    rw [HQ.out, HD.out, if_neg (HMISS.out (fun k' hk' h => HQ2.out k' hk' (by omega))), HSN.out]
                  go_wp2
                  go_roundw
                  case rel => exact ⟨j + 1, by omega, by go_num, HE, hNK⟩
                  case measure => simp [intOf]; omega
            · have hjd3 : decide ((j : Int) < (LA.length : Int)) = false := by simp; omega
              go_wp2
              go_ret2
              exact errBack_no (by rw [HU.out, HQ.out, List.drop_of_length_le (by omega)]; rfl) hbO
end Go.Proofs.YtgfdegogknoknaaDoor
namespace Go.Proofs.YtgfdegogknoknaaDoor
open Go.RowKit
theorem monIx_first (l : List Mo) (j : Nat) (hj : j < l.length) : ∃ k, monIx l l[j].name = some k ∧ k ≤ j ∧ (hasN ((l.take j).map Mo.name) l[j].name = true → k ≠ j) ∧ (¬ hasN ((l.take j).map Mo.name) l[j].name = true → k = j) := by
  have hs : (monIx l l[j].name).isSome = true := by
    rw [monIx_has]
    exact hasN_iff.2 (List.mem_map.2 ⟨l[j], List.getElem_mem hj, rfl⟩)
  obtain ⟨k, hk⟩ := Option.isSome_iff_exists.1 hs
  have h := hk
  rw [monIx, List.findIdx?_eq_some_iff_getElem] at h
  obtain ⟨h1, h2, h3⟩ := h
  have hkj : k ≤ j := by
    rcases Nat.lt_or_ge j k with h4 | h4
    · exact absurd (by simp) (h3 j h4)
    · exact h4
  refine ⟨k, hk, hkj, fun h4 e => ?_, fun h4 => ?_⟩
  · subst e
    obtain ⟨x, hx, he⟩ := List.mem_map.1 (hasN_iff.1 h4)
    obtain ⟨i, hi, rfl⟩ := List.mem_take_iff_getElem.1 hx
    exact absurd (by simpa using he) (h3 i (by omega))
  · rcases Nat.lt_or_ge k j with h5 | h5
    · exfalso
      refine h4 (hasN_iff.2 (List.mem_map.2 ⟨l[k], List.mem_take_iff_getElem.2 ⟨k, by omega, rfl⟩, by simpa using h2⟩))
    · omega
theorem mo_bounds {p : Pr} (h : p.ok = true) : ∀ m ∈ p.mons, m.vars.length ≤ 16 ∧ m.meths.length ≤ 16 := by
  intro m hm
  simp only [Pr.ok, Pr.decl, Bool.and_eq_true, List.all_eq_true] at h
  have h1 := h.1.1.2 m hm
  simp only [Mo.ok, Bool.and_eq_true, decide_eq_true_iff] at h1
  exact ⟨h1.1.1.1.2, h1.1.1.2⟩
theorem pr_bounds {p : Pr} (h : p.ok = true) : p.mons.length ≤ 8 ∧ p.roles.length ≤ 8 := by
  simp only [Pr.ok, Pr.decl, Bool.and_eq_true, decide_eq_true_iff] at h
  exact ⟨h.1.1.1.1, h.1.1.1.2⟩
theorem ok_vsum {p : Pr} (h : p.ok = true) : vsum p.mons ≤ 1000000 :=
  vsum_small p.mons (by have := (pr_bounds h).1; omega) (fun m hm => by have := (mo_bounds h m hm).1; omega)
theorem chk_unk2 {p : Pr} {a : Int} (h : p.ok = true) (h1 : declM [] p.mons = none) (h2 : roleE [] p.roles = none) (h3 : (unkOf (Mo.unk p.lk) p.mons).or (unkOf (Ro.unk p.lk) p.roles) = some a) : p.nchk = (61, a) := by
  have h3 : p.unk p.lk = some a := h3
  rw [Pr.nchk, if_pos h, Pr.chk, h1, h2, h3]
theorem ErrBack.no60 {f : FuncId} {args : Array Value} {c : Int} {o : Option Int} {w : World} (h : Calls Tryd.prog f args w fun r w' => ErrBack c o w w' r) (ho : o = none) : Calls Tryd.prog f args w fun r w' => r = .returned (.tuple #[.int .i64 0, .int .i64 0]) ∧ Below w.heap.size w w' := ErrBack.no h ho
theorem role_nm (l : List Ro) (i k : Nat) (hi : i < l.length) (hk : k < i) (h : (l[k]'(by omega)).name = l[i].name) : hasN ((l.take i).map Ro.name) l[i].name = true :=
  hasN_iff.2 (List.mem_map.2 ⟨l[k]'(by omega), List.mem_take_iff_getElem.2 ⟨k, by omega, rfl⟩, h⟩)
theorem role_no (l : List Ro) (i : Nat) (hi : i < l.length) (h : ∀ k (hk : k < l.length), k < i → ¬ l[k].name = l[i].name) : ¬ hasN ((l.take i).map Ro.name) l[i].name = true := by
  intro h1
  obtain ⟨x, hx, he⟩ := List.mem_map.1 (hasN_iff.1 h1)
  obtain ⟨k, hk, rfl⟩ := List.mem_take_iff_getElem.1 hx
  exact h k (by omega) (by omega) he
set_option maxRecDepth 100000 in
set_option maxHeartbeats 64000000 in
theorem refCheck_any (p : Pr) (n₀ : Nat) (w : World) (hn : n₀ ≤ w.heap.size) (hp : p.Is n₀ w) :
    Calls Tryd.prog 27 #[p.val] w fun r w' => r = .returned (.tuple #[.int .i64 p.nchk.1, .int .i64 p.nchk.2]) ∧ Below w.heap.size w w' := by
  have h31 : ∀ W, Below w.heap.size w W → Calls Tryd.prog 46 #[p.val] W fun r w' => r = .returned (.bool p.ok) ∧ Below W.heap.size W w' := fun W hW => refIs_any n₀ p W (by have := hW.size; omega) (hp.below (hW.mono hn))
  have h13 : ∀ mon W, Below w.heap.size w W → Calls Tryd.prog 16 #[p.val, .string mon] W fun r w' => r = .returned (.tuple #[.int .i64 (fbI (monIx p.mons mon)), .bool (monIx p.mons mon).isSome]) ∧ Below W.heap.size W w' := fun mon W hW => firstUni (refMonitor_any p mon n₀ W (by have := hW.size; omega) (hp.below (hW.mono hn)))
  have HC1 : Hid (∀ a, p.ok = true → declM [] p.mons = some a → p.nchk = (60, a)) := fun a => chk_decl
  have HC2 : Hid (∀ x, p.ok = true → declM [] p.mons = none → roleE [] p.roles = some x → p.nchk = x) := fun x => chk_role
  have HC3 : Hid (∀ a, p.ok = true → declM [] p.mons = none → roleE [] p.roles = none → (unkOf (Mo.unk p.lk) p.mons).or (unkOf (Ro.unk p.lk) p.roles) = some a → p.nchk = (61, a)) := fun a => chk_unk2
  have HC4 : Hid (p.ok = true → declM [] p.mons = none → roleE [] p.roles = none → (unkOf (Mo.unk p.lk) p.mons).or (unkOf (Ro.unk p.lk) p.roles) = none → p.nchk = (0, 0)) := chk_zero
  have HC5 : Hid (p.ok = false → p.nchk = (20, 0)) := fun h => by rw [Pr.nchk, h]; rfl
  have h32 : p.ok = true → ∀ m ∈ p.mons, ∀ W, Below w.heap.size w W → Calls Tryd.prog 47 #[m.val] W fun r w' => ErrBack 60 (dupN [] m.nps) W w' r := fun hok m hm W hW => refMon_any m n₀ W (by have := hW.size; omega) ((hp.1.2 m hm).below (hW.mono hn)) (by have := (mo_bounds hok m hm).1; omega) (by have := (mo_bounds hok m hm).2; omega)
  have h33m : p.ok = true → ∀ m ∈ p.mons, ∀ f ∈ m.meths, ∀ W, Below w.heap.size w W → Calls Tryd.prog 48 #[p.val, f.body.slice] W fun r w' => ErrBack 61 (f.body.unk p.lk) W w' r := fun hok m hm f hf W hW => refStmts_any p (ok_vsum hok) f.body n₀ W (by have := hW.size; omega) (hp.below (hW.mono hn)) (((hp.1.2 m hm).2.2.2 f hf).2.2.below (hW.mono hn))
  have h33r : p.ok = true → ∀ f ∈ p.roles, ∀ W, Below w.heap.size w W → Calls Tryd.prog 48 #[p.val, f.body.slice] W fun r w' => ErrBack 61 (f.body.unk p.lk) W w' r := fun hok f hf W hW => refStmts_any p (ok_vsum hok) f.body n₀ W (by have := hW.size; omega) (hp.below (hW.mono hn)) ((hp.2.2 f hf).2.2.2.below (hW.mono hn))
  obtain ⟨⟨h3, h4⟩, h5, h6⟩ := hp
  obtain ⟨ok, hokE⟩ : ∃ ok, p.ok = ok := ⟨_, rfl⟩
  obtain ⟨lk, hlk⟩ : ∃ lk, p.lk = lk := ⟨_, rfl⟩
  obtain ⟨res, hres⟩ : ∃ res, p.nchk = res := ⟨_, rfl⟩
  simp only [hokE, hlk, hres] at h31 h32 h33m h33r HC1 HC2 HC3 HC4 HC5 ⊢
  clear hokE hlk hres
  rcases p with ⟨mad, mcap, mons, rad, rcap, roles⟩
  simp only [Pr.val] at h31 h13 h32 h33m h33r HC1 HC2 HC3 HC4 h3 h4 h5 h6 ⊢
  have hl1 := h3.1; have hl2 := h3.2.1; have hl3 := h5.1; have hl4 := h5.2.1
  unfold maxLen at hl2 hl4
  go_enter Tryd.func27, Tryd.ntmps27
  go_upto_region 1 with fail
  obtain ⟨bP, hB, hz⟩ := one_box w #[.slice mad mons.length mcap, .slice rad roles.length rcap] 25
  obtain ⟨W0, hW0⟩ : ∃ W0, w.alloc (.cells #[.slice mad mons.length mcap, .slice rad roles.length rcap] 25) = W0 := ⟨_, rfl⟩
  rw [hW0] at bP hB hz ⊢
  clear hW0
  have r0 := cellOf bP 0
  have r1 := cellOf bP 1
  simp at r0 r1
  have hz0 : w.heap.size < W0.heap.size := by omega
  clear bP hz
  have hq31 := h31 W0 hB
  clear h31
  cases ok
  · have hres : res = (20, 0) := HC5.out rfl
    subst hres
    go_wp2_with (go_at_call 46; (with_reducible refine hq31.mono ?_); rintro r u0 ⟨rfl, bb0⟩)
    go_ret2
    exact ⟨rfl, hB.tr le_rfl' bb0⟩
  have k32 := h32 rfl
  have k33m := h33m rfl
  have k33r := h33r rfl
  clear h32 h33m h33r
  go_wp2_with (go_at_call 46; (with_reducible refine hq31.mono ?_); rintro r u0 ⟨rfl, bb0⟩)
  have hok : true = true := rfl
  clear hq31
  go_loopw [4] (fun i wr => ∃ j : Nat, j ≤ mons.length ∧ i = .int .i64 j ∧ Hid (declM [] mons = declM ((mons.take j).map Mo.name) (mons.drop j)) ∧ Below W0.heap.size W0 wr)
    (fun i _ => mons.length - (intOf i).toNat)
  case atStart => exact ⟨0, by omega, rfl, rfl, bb0⟩
  case round =>
    obtain ⟨j, hj, rfl, HQ, hbw⟩ := hrel
    have hz1 := hbw.size
    have hbF : Below w.heap.size w wr := hB.trans (hbw.mono (by omega))
    have x0 := (hbw.cell (p := ⟨w.heap.size, 0, none⟩) (by show w.heap.size < _; omega)).trans r0
    have x1 := (hbw.cell (p := ⟨w.heap.size, 1, none⟩) (by show w.heap.size < _; omega)).trans r1
    by_cases hlt : j < mons.length
    · rcases h3.2.2 with h | ⟨kb, koff, rfl, hbn, hrow⟩
      · subst h; simp at hlt
      have hji : (j : Int) < (mons.length : Int) := by omega
      have hbn2 : kb < wr.heap.size := by omega
      have HD := hid (declM_drop mons j hlt ((mons.take j).map Mo.name))
      have HSN := hid (names_snoc Mo.name mons j hlt)
      have hrj := hrow.below (hbF.mono hn) hbn
      obtain ⟨k, hk1, hk2, hk3, hk4⟩ := monIx_first mons j hlt
      have hq13 := h13 mons[j].name
      rw [hk1] at hq13
      have hq32 := k32 mons[j] (List.getElem_mem hlt)
      rcases he' : mons[j] with ⟨mname, mvad, mvcap, mvars, mmad, mmcap, mmeths, mpos⟩
      obtain ⟨c0, c1, c2, c3⟩ := row4 hrj j hlt (by rw [he']; rfl)
      rw [he'] at HD
      rw [he'] at HSN
      simp only [he', fbI, Option.isSome_some] at hq13 hk3 hk4
      simp only [he', Mo.val, Mo.cells] at hq32
      simp only at HD HSN
      obtain ⟨du, hdu⟩ : ∃ du, dupN [] (Mo.nps ⟨mname, mvad, mvcap, mvars, mmad, mmcap, mmeths, mpos⟩) = du := ⟨_, rfl⟩
      simp only [hdu] at hq32
      rw [hdu] at HD
      clear he' hk1 hdu
      have HK : Hid (∀ W, Below wr.heap.size wr W → W.cell? ⟨w.heap.size, 0, none⟩ = some (.slice (some ⟨kb, koff, none⟩) mons.length mcap) ∧ W.cell? ⟨w.heap.size, 1, none⟩ = some (.slice rad roles.length rcap) ∧ W.cell? ⟨kb, koff + j * 4, none⟩ = some (.string mname)) := fun W hW => ⟨(hW.cell (p := ⟨w.heap.size, 0, none⟩) (by show w.heap.size < _; omega)).trans x0, (hW.cell (p := ⟨w.heap.size, 1, none⟩) (by show w.heap.size < _; omega)).trans x1, (hW.cell (p := ⟨kb, _, none⟩) hbn2).trans c0⟩
      have HR : Hid (∀ W, Below wr.heap.size wr W → W.cell? ⟨kb, koff + j * 4, none⟩ = some (.string mname) ∧ W.cell? ⟨kb, koff + j * 4 + 1, none⟩ = some (.slice mvad mvars.length mvcap) ∧ W.cell? ⟨kb, koff + j * 4 + 2, none⟩ = some (.slice mmad mmeths.length mmcap) ∧ W.cell? ⟨kb, koff + j * 4 + 3, none⟩ = some (.int .i64 mpos)) := fun W hW => ⟨(hW.cell (p := ⟨kb, _, none⟩) hbn2).trans c0, (hW.cell (p := ⟨kb, _, none⟩) hbn2).trans c1, (hW.cell (p := ⟨kb, _, none⟩) hbn2).trans c2, (hW.cell (p := ⟨kb, _, none⟩) hbn2).trans c3⟩
      have B := below_drewV (Below.refl wr.heap.size wr)
      clear c0 c1 c2 c3 h13 k32
      by_cases hin : hasN ((mons.take j).map Mo.name) mname = true
      · have hkn := hk3 hin
        have hkb : ((k : Int) != (j : Int)) = true := by rw [bne_iff_ne]; omega
        have hres : res = (60, mpos) := HC1.out _ (by trivial) (by rw [HQ.out, HD.out, if_pos hin])
        subst hres
        clear hk3 hk4 hkn hin
        go_wp2
        go_region_held3 (fun W => W.cell? ⟨w.heap.size, 0, none⟩ = some (.slice (some ⟨kb, koff, none⟩) mons.length mcap) ∧ W.cell? ⟨w.heap.size, 1, none⟩ = some (.slice rad roles.length rcap) ∧ W.cell? ⟨kb, koff + j * 4, none⟩ = some (.string mname)) (exact HK.out _ B) (first | (go_at_call 16; (with_reducible refine (hq13 _ (hbF.tr le_rfl' B)).mono ?_); rintro r u1 ⟨rfl, bb⟩; have B := B.tr le_rfl' bb))
        all_goals obtain ⟨y0, y1, -⟩ := HK.out _ B
        all_goals obtain ⟨d0, d1, d2, d3⟩ := HR.out _ B
        all_goals have hz2 := B.size
        all_goals go_wp2
        all_goals go_quiet (fail)
        all_goals go_wp2
        all_goals go_ret2
        all_goals exact ⟨rfl, below_drewN (hbF.tr le_rfl' B) _⟩
      · have hkn := hk4 hin
        obtain rfl : j = k := by omega
        clear hkn
        rw [if_neg hin] at HD
        clear hk3 hk4
        go_wp2
        go_region_held3 (fun W => W.cell? ⟨w.heap.size, 0, none⟩ = some (.slice (some ⟨kb, koff, none⟩) mons.length mcap) ∧ W.cell? ⟨w.heap.size, 1, none⟩ = some (.slice rad roles.length rcap) ∧ W.cell? ⟨kb, koff + j * 4, none⟩ = some (.string mname)) (exact HK.out _ B) (first | (go_at_call 16; (with_reducible refine (hq13 _ (hbF.tr le_rfl' B)).mono ?_); rintro r u1 ⟨rfl, bb⟩; have B := B.tr le_rfl' bb))
        all_goals obtain ⟨y0, y1, -⟩ := HK.out _ B
        all_goals obtain ⟨d0, d1, d2, d3⟩ := HR.out _ B
        all_goals have hz2 := B.size
        all_goals have hbn3 : kb < u1.heap.size := by omega
        all_goals have hq := hq32 u1 (hbF.tr le_rfl' B)
        all_goals (rcases du with _ | a)
        · have hq := ErrBack.no hq rfl
          go_wp2_with (go_at_call 47; (with_reducible refine hq.mono ?_); rintro r u2 ⟨rfl, bb2⟩)
          go_roundw
          case rel => exact ⟨j + 1, by omega, by go_num, by show _ = _; rw [HQ.out, HD.out, HSN.out]; rfl, hbw.tr le_rfl' (B.tr le_rfl' bb2)⟩
          case measure => simp [intOf]; omega
        · have hres : res = (60, a) := HC1.out _ (by trivial) (by rw [HQ.out, HD.out]; rfl)
          subst hres
          have hq := ErrBack.yes hq rfl
          go_wp2_with (go_at_call 47; (with_reducible refine hq.mono ?_); rintro r u2 ⟨rfl, bb2⟩)
          go_ret2
          exact ⟨rfl, hbF.tr le_rfl' (B.tr le_rfl' bb2)⟩
    · have hjd : decide ((j : Int) < (mons.length : Int)) = false := by simp; omega
      have HDN : Hid (declM [] mons = none) := by show _ = _; rw [HQ.out, List.drop_of_length_le (by omega), declM_nil]
      clear h13 k32
      go_wp2
      go_loopw [9] (fun i wr => ∃ j : Nat, j ≤ roles.length ∧ i = .int .i64 j ∧ Hid (roleE [] roles = roleE ((roles.take j).map Ro.name) (roles.drop j)) ∧ Below W0.heap.size W0 wr)
        (fun i _ => roles.length - (intOf i).toNat)
      case atStart => exact ⟨0, by omega, rfl, rfl, hbw⟩
      case round =>
        clear x0 x1 hbw hbF hz1
        obtain ⟨wo, hwo⟩ : ∃ wo : World, wo = wr := ⟨_, rfl⟩
        subst hwo
        obtain ⟨j, hj, rfl, HQ, hbw⟩ := hrel
        have hz1 := hbw.size
        have hbF : Below w.heap.size w wo := hB.trans (hbw.mono (by omega))
        have x0 := (hbw.cell (p := ⟨w.heap.size, 0, none⟩) (by show w.heap.size < _; omega)).trans r0
        have x1 := (hbw.cell (p := ⟨w.heap.size, 1, none⟩) (by show w.heap.size < _; omega)).trans r1
        by_cases hlt : j < roles.length
        · rcases h5.2.2 with h | ⟨kb, koff, rfl, hbn, hrow⟩
          · subst h; simp at hlt
          have hji : (j : Int) < (roles.length : Int) := by omega
          have hbn2 : kb < wo.heap.size := by omega
          have HD := hid (roleE_drop roles j hlt ((roles.take j).map Ro.name))
          have HSN := hid (names_snoc Ro.name roles j hlt)
          have HHIT : Hid (∀ k (hk : k < j), (roles[k]'(by omega)).name = roles[j].name → hasN ((roles.take j).map Ro.name) roles[j].name = true) := fun k hk h => role_nm roles j k hlt hk h
          have HMISS := hid (role_no roles j hlt)
          have hrj := hrow.below (hbF.mono hn) hbn
          rcases he' : roles[j] with ⟨rname, rstar, rcount, ⟨fad, fcap, fbody⟩, rpos⟩
          obtain ⟨c0, c1, c2, c3, c4⟩ := row5 hrj j hlt (by rw [he']; rfl)
          simp only [Bl.slice] at c3
          rw [he'] at HD
          rw [he'] at HSN
          rw [he'] at HHIT
          rw [he'] at HMISS
          simp only at HD HSN HHIT HMISS
          clear he'
          go_wp2
          obtain ⟨bR, hBR, hzR⟩ := one_box wo #[.string rname, .bool rstar, .int .i64 rcount, .slice fad fbody.length fcap, .int .i64 rpos] 55
          obtain ⟨rB, hrB⟩ : ∃ rB, wo.heap.size = rB := ⟨_, rfl⟩
          obtain ⟨W1, hW1⟩ : ∃ W1, wo.alloc (.cells #[.string rname, .bool rstar, .int .i64 rcount, .slice fad fbody.length fcap, .int .i64 rpos] 55) = W1 := ⟨_, rfl⟩
          rw [hW1] at bR hBR hzR ⊢
          rw [hrB] at bR hzR ⊢
          have hbW : Below W0.heap.size W0 W1 := hbw.tr le_rfl' hBR
          have hbG : Below w.heap.size w W1 := hbF.tr le_rfl' hBR
          have hrb1 : W0.heap.size ≤ rB := by omega
          have hrb2 : rB < W1.heap.size := by omega
          have HZR := hid hzR
          clear hW1 hBR hrB c0 c1 c2 c3 c4 hzR
          go_loopw [11] (fun i wr => ∃ k : Nat, k ≤ j ∧ i = .int .i64 k ∧ Hid (∀ k' (hk' : k' < roles.length), k' < k → ¬ roles[k'].name = rname) ∧ Below W1.heap.size W1 wr)
            (fun i _ => j - (intOf i).toNat)
          case atStart => exact ⟨0, by omega, rfl, (fun _ _ h => by omega), Below.refl _ _⟩
          case round =>
            obtain ⟨k, hk, rfl, HQ2, hbv⟩ := hrel
            have hzv := hbv.size
            have bR1 := (hbv.block rB hrb2).trans bR
            have t0 := cellOf bR1 0
            have t1 := cellOf bR1 1
            have t2 := cellOf bR1 2
            have t4 := cellOf bR1 4
            simp at t0 t1 t2 t4
            have hvF := hbG.tr le_rfl' hbv
            by_cases hlt2 : k < j
            · have hki : (k : Int) < (roles.length : Int) := by omega
              have hki2 : (k : Int) < (j : Int) := by omega
              have v0 := ((hbW.tr le_rfl' hbv).cell (p := ⟨w.heap.size, 1, none⟩) (by show w.heap.size < _; omega)).trans r1
              have hr2 := hrow.below (hvF.mono hn) hbn
              have hkb2 : kb < wr.heap.size := by omega
              have a0 := hr2 k (by omega) 0 (by omega)
              obtain ⟨n1, hn1⟩ : ∃ n1, (roles[k]'(by omega)).name = n1 := ⟨_, rfl⟩
              have e0 : (Ro.cells (roles[k]'(by omega)))[0]? = some (.string n1) := by rw [← hn1]; rfl
              rw [e0] at a0
              simp only [Nat.add_zero] at a0
              have HH2 : Hid (n1 = rname → hasN ((roles.take j).map Ro.name) rname = true) := fun h => HHIT.out k hlt2 (by rw [hn1]; exact h)
              have HN3 : Hid (¬ n1 = rname → ∀ k' (hk' : k' < roles.length), k' < k + 1 → ¬ roles[k'].name = rname) := fun h k' hk' h2 => by
                by_cases e : k' = k
                · subst e; rw [hn1]; exact h
                · exact HQ2.out k' hk' (by omega)
              clear e0 hn1
              by_cases hd : n1 = rname
              · have hres : res = (60, rpos) := HC2.out _ (by trivial) HDN.out (by rw [HQ.out, HD.out, if_pos (HH2.out hd)])
                subst hres
                subst hd
                clear HH2 HN3 HHIT HMISS
                go_wp2
                go_quiet (fail)
                go_wp2
                go_quiet (fail)
                go_wp2
                go_ret2
                exact ⟨rfl, below_drewN hvF _⟩
              · have hs1 := str_ne hd
                have hs2 : (n1.toList == rname.toList) = false := by rw [beq_eq_false_iff_ne]; exact hs1
                have HE := hid (HN3.out hd)
                clear hd HH2 HN3
                go_wp2
                go_quiet (fail)
                go_wp2
                go_roundw
                case rel => exact ⟨k + 1, by omega, by go_num, HE, below_drewN hbv _⟩
                case measure => simp [intOf]; omega
            · have hkd : decide ((k : Int) < (j : Int)) = false := by simp; omega
              have HD2 : Hid (roleE [] roles = if rstar = false ∧ (rcount < 1 ∨ 8 < rcount) then some (6, rpos) else roleE ((roles.take (j + 1)).map Ro.name) (roles.drop (j + 1))) := by
                show _ = _
                rw [HQ.out, HD.out, if_neg (HMISS.out (fun k' hk' h => HQ2.out k' hk' (by omega))), HSN.out]
              have hfin : Below W0.heap.size W0 wr := hbW.tr le_rfl' hbv
              clear HHIT HMISS
              cases rstar
              · by_cases hc1 : rcount < 1
                · rw [if_pos ⟨rfl, .inl hc1⟩] at HD2
                  have hres : res = (6, rpos) := HC2.out _ (by trivial) HDN.out HD2.out
                  subst hres
                  go_wp2
                  go_quiet (fail)
                  go_wp2
                  go_ret2
                  exact ⟨rfl, below_drewN hvF _⟩
                by_cases hc8 : 8 < rcount
                · rw [if_pos ⟨rfl, .inr hc8⟩] at HD2
                  have hres : res = (6, rpos) := HC2.out _ (by trivial) HDN.out HD2.out
                  subst hres
                  have hc1d : decide (rcount < 1) = false := by simp; omega
                  go_wp2
                  go_quiet (fail)
                  go_wp2
                  go_ret2
                  exact ⟨rfl, below_drewN hvF _⟩
                rw [if_neg (by omega)] at HD2
                have hc1d : decide (rcount < 1) = false := by simp; omega
                have hc8d : decide (8 < rcount) = false := by simp; omega
                go_wp2
                go_roundw
                case rel => exact ⟨j + 1, by omega, by go_num, HD2, hfin⟩
                case measure => simp [intOf]; omega
              · rw [if_neg (by simp)] at HD2
                go_wp2
                go_roundw
                case rel => exact ⟨j + 1, by omega, by go_num, HD2, hfin⟩
                case measure => simp [intOf]; omega
        · have hjd2 : decide ((j : Int) < (roles.length : Int)) = false := by simp; omega
          have HRN : Hid (roleE [] roles = none) := by show _ = _; rw [HQ.out, List.drop_of_length_le (by omega), roleE_nil]
          go_wp2
          go_loopw [12] (fun i wr => ∃ j : Nat, j ≤ mons.length ∧ i = .int .i64 j ∧ Hid (unkOf (Mo.unk lk) mons = unkOf (Mo.unk lk) (mons.drop j)) ∧ Below W0.heap.size W0 wr)
            (fun i _ => mons.length - (intOf i).toNat)
          case atStart => exact ⟨0, by omega, rfl, rfl, hbw⟩
          case round =>
            clear x0 x1 hbw hbF hz1
            obtain ⟨wo, hwo⟩ : ∃ wo : World, wo = wr := ⟨_, rfl⟩
            subst hwo
            obtain ⟨j, hj, rfl, HQ, hbw⟩ := hrel
            have hz1 := hbw.size
            have hbF : Below w.heap.size w wo := hB.trans (hbw.mono (by omega))
            have x0 := (hbw.cell (p := ⟨w.heap.size, 0, none⟩) (by show w.heap.size < _; omega)).trans r0
            have x1 := (hbw.cell (p := ⟨w.heap.size, 1, none⟩) (by show w.heap.size < _; omega)).trans r1
            by_cases hlt : j < mons.length
            · rcases h3.2.2 with h | ⟨kb, koff, rfl, hbn, hrow⟩
              · subst h; simp at hlt
              have hji : (j : Int) < (mons.length : Int) := by omega
              have hbn2 : kb < wo.heap.size := by omega
              have HD := hid (unkOf_drop (Mo.unk lk) mons j hlt)
              have HMU : Hid (Mo.unk lk mons[j] = unkOf (Me.unk lk) mons[j].meths) := rfl
              have hIm := (h4 _ (List.getElem_mem hlt)).2.2
              have hq33 := k33m _ (List.getElem_mem hlt)
              rcases he' : mons[j] with ⟨mname, mvad, mvcap, mvars, mmad, mmcap, mmeths, mpos⟩
              obtain ⟨-, -, c2, -⟩ := row4 hrow j hlt (by rw [he']; rfl)
              rw [he'] at HMU hIm hq33
              rw [he'] at HD
              simp only at HMU hIm hq33
              clear he'
              have hml1 := hIm.1.1; have hml2 := hIm.1.2.1
              unfold maxLen at hml2
              go_wp2
              go_loopw [13] (fun i wr => ∃ l : Nat, l ≤ mmeths.length ∧ i = .int .i64 l ∧ Hid (unkOf (Me.unk lk) mmeths = unkOf (Me.unk lk) (mmeths.drop l)) ∧ Below W0.heap.size W0 wr)
                (fun i _ => mmeths.length - (intOf i).toNat)
              case atStart => exact ⟨0, by omega, rfl, rfl, hbw⟩
              case round =>
                obtain ⟨l, hl, rfl, HQ2, hbv⟩ := hrel
                have hzv := hbv.size
                have hvF : Below w.heap.size w wr := hB.trans (hbv.mono (by omega))
                have v0 := (hbv.cell (p := ⟨w.heap.size, 0, none⟩) (by show w.heap.size < _; omega)).trans r0
                have v1 := (hbv.cell (p := ⟨w.heap.size, 1, none⟩) (by show w.heap.size < _; omega)).trans r1
                have hkb2 : kb < wr.heap.size := by omega
                have a2 := (hvF.cell (p := ⟨kb, koff + j * 4 + 2, none⟩) (by show kb < _; omega)).trans c2
                by_cases hlt2 : l < mmeths.length
                · rcases hIm.1.2.2 with h | ⟨mb, moff, rfl, hmn, hmrow⟩
                  · subst h; simp at hlt2
                  have hli : (l : Int) < (mmeths.length : Int) := by omega
                  have hmn2 : mb < wr.heap.size := by omega
                  have HD2 := hid (unkOf_drop (Me.unk lk) mmeths l hlt2)
                  have hmr := hmrow.below (hvF.mono hn) hmn
                  have HMe : Hid (Me.unk lk mmeths[l] = mmeths[l].body.unk lk) := rfl
                  have hq := hq33 _ (List.getElem_mem hlt2)
                  obtain ⟨u, hu⟩ : ∃ u, mmeths[l].body.unk lk = u := ⟨_, rfl⟩
                  simp only [hu] at hq
                  rw [hu] at HMe
                  clear hu
                  rcases he' : mmeths[l] with ⟨fname, ⟨fad, fcap, fbody⟩, fpos⟩
                  obtain ⟨-, d1, -⟩ := row3 hmr l hlt2 (by rw [he']; rfl)
                  simp only [he', Bl.slice] at hq d1
                  rw [he'] at HMe
                  rw [he'] at HD2
                  clear he'
                  have HK : Hid (∀ W, Below wr.heap.size wr W → W.cell? ⟨w.heap.size, 0, none⟩ = some (.slice (some ⟨kb, koff, none⟩) mons.length mcap) ∧ W.cell? ⟨w.heap.size, 1, none⟩ = some (.slice rad roles.length rcap) ∧ W.cell? ⟨kb, koff + j * 4 + 2, none⟩ = some (.slice (some ⟨mb, moff, none⟩) mmeths.length mmcap) ∧ W.cell? ⟨mb, moff + l * 3 + 1, none⟩ = some (.slice fad fbody.length fcap)) := fun W hW => ⟨(hW.cell (p := ⟨w.heap.size, 0, none⟩) (by show w.heap.size < _; omega)).trans v0, (hW.cell (p := ⟨w.heap.size, 1, none⟩) (by show w.heap.size < _; omega)).trans v1, (hW.cell (p := ⟨kb, _, none⟩) hkb2).trans a2, (hW.cell (p := ⟨mb, _, none⟩) hmn2).trans d1⟩
                  have B := below_drewV (Below.refl wr.heap.size wr)
                  clear d1
                  rcases u with _ | a
                  · have hq := fun W hW => ErrBack.no (hq W hW) rfl
                    go_wp2
                    go_region_held3 (fun W => W.cell? ⟨w.heap.size, 0, none⟩ = some (.slice (some ⟨kb, koff, none⟩) mons.length mcap) ∧ W.cell? ⟨w.heap.size, 1, none⟩ = some (.slice rad roles.length rcap) ∧ W.cell? ⟨kb, koff + j * 4 + 2, none⟩ = some (.slice (some ⟨mb, moff, none⟩) mmeths.length mmcap) ∧ W.cell? ⟨mb, moff + l * 3 + 1, none⟩ = some (.slice fad fbody.length fcap)) (exact HK.out _ B) (first | (go_at_call 48; (with_reducible refine (hq _ (hvF.tr le_rfl' B)).mono ?_); rintro r w1 ⟨rfl, bb⟩; have B := B.tr le_rfl' bb))
                    all_goals go_wp2
                    all_goals go_roundw
                    all_goals first
                      | exact ⟨l + 1, by omega, by go_num, by show _ = _; rw [HQ2.out, HD2.out, HMe.out]; rfl, hbv.tr le_rfl' B⟩
                      | (simp [intOf]; omega)
                  · have hq := fun W hW => ErrBack.yes (hq W hW) rfl
                    have hres : res = (61, a) := HC3.out _ (by trivial) HDN.out HRN.out (by rw [HQ.out, HD.out, HMU.out, HQ2.out, HD2.out, HMe.out]; rfl)
                    subst hres
                    go_wp2
                    go_region_held3 (fun W => W.cell? ⟨w.heap.size, 0, none⟩ = some (.slice (some ⟨kb, koff, none⟩) mons.length mcap) ∧ W.cell? ⟨w.heap.size, 1, none⟩ = some (.slice rad roles.length rcap) ∧ W.cell? ⟨kb, koff + j * 4 + 2, none⟩ = some (.slice (some ⟨mb, moff, none⟩) mmeths.length mmcap) ∧ W.cell? ⟨mb, moff + l * 3 + 1, none⟩ = some (.slice fad fbody.length fcap)) (exact HK.out _ B) (first | (go_at_call 48; (with_reducible refine (hq _ (hvF.tr le_rfl' B)).mono ?_); rintro r w1 ⟨rfl, bb⟩; have B := B.tr le_rfl' bb))
                    all_goals go_wp2
                    all_goals go_ret2
                    all_goals exact ⟨rfl, hvF.tr le_rfl' B⟩
                · have hjd4 : decide ((l : Int) < (mmeths.length : Int)) = false := by simp; omega
                  go_wp2
                  go_roundw
                  case rel => exact ⟨j + 1, by omega, by go_num, by show _ = _; rw [HQ.out, HD.out, HMU.out, HQ2.out, unkOf_end _ _ _ (by omega)]; rfl, hbv⟩
                  case measure => simp [intOf]; omega
            · have hjd3 : decide ((j : Int) < (mons.length : Int)) = false := by simp; omega
              have HMN : Hid (unkOf (Mo.unk lk) mons = none) := by show _ = _; rw [HQ.out, unkOf_end _ _ _ (by omega)]
              go_wp2
              go_loopw [16] (fun i wr => ∃ j : Nat, j ≤ roles.length ∧ i = .int .i64 j ∧ Hid (unkOf (Ro.unk lk) roles = unkOf (Ro.unk lk) (roles.drop j)) ∧ Below W0.heap.size W0 wr)
                (fun i _ => roles.length - (intOf i).toNat)
              case atStart => exact ⟨0, by omega, rfl, rfl, hbw⟩
              case round =>
                clear x0 x1 hbw hbF hz1
                obtain ⟨wo, hwo⟩ : ∃ wo : World, wo = wr := ⟨_, rfl⟩
                subst hwo
                obtain ⟨j, hj, rfl, HQ, hbw⟩ := hrel
                have hz1 := hbw.size
                have hbF : Below w.heap.size w wo := hB.trans (hbw.mono (by omega))
                have x0 := (hbw.cell (p := ⟨w.heap.size, 0, none⟩) (by show w.heap.size < _; omega)).trans r0
                have x1 := (hbw.cell (p := ⟨w.heap.size, 1, none⟩) (by show w.heap.size < _; omega)).trans r1
                by_cases hlt : j < roles.length
                · rcases h5.2.2 with h | ⟨kb, koff, rfl, hbn, hrow⟩
                  · subst h; simp at hlt
                  have hji : (j : Int) < (roles.length : Int) := by omega
                  have hbn2 : kb < wo.heap.size := by omega
                  have HD := hid (unkOf_drop (Ro.unk lk) roles j hlt)
                  have hrj := hrow.below (hbF.mono hn) hbn
                  have HRo : Hid (Ro.unk lk roles[j] = roles[j].body.unk lk) := rfl
                  have hq := k33r _ (List.getElem_mem hlt)
                  obtain ⟨u, hu⟩ : ∃ u, roles[j].body.unk lk = u := ⟨_, rfl⟩
                  simp only [hu] at hq
                  rw [hu] at HRo
                  clear hu
                  rcases he' : roles[j] with ⟨rname, rstar, rcount, ⟨fad, fcap, fbody⟩, rpos⟩
                  obtain ⟨-, -, -, d3, -⟩ := row5 hrj j hlt (by rw [he']; rfl)
                  simp only [he', Bl.slice] at hq d3
                  rw [he'] at HRo
                  rw [he'] at HD
                  clear he'
                  have HK : Hid (∀ W, Below wo.heap.size wo W → W.cell? ⟨w.heap.size, 0, none⟩ = some (.slice mad mons.length mcap) ∧ W.cell? ⟨w.heap.size, 1, none⟩ = some (.slice (some ⟨kb, koff, none⟩) roles.length rcap) ∧ W.cell? ⟨kb, koff + j * 5 + 3, none⟩ = some (.slice fad fbody.length fcap)) := fun W hW => ⟨(hW.cell (p := ⟨w.heap.size, 0, none⟩) (by show w.heap.size < _; omega)).trans x0, (hW.cell (p := ⟨w.heap.size, 1, none⟩) (by show w.heap.size < _; omega)).trans x1, (hW.cell (p := ⟨kb, _, none⟩) hbn2).trans d3⟩
                  have B := below_drewV (Below.refl wo.heap.size wo)
                  clear d3
                  rcases u with _ | a
                  · have hq := fun W hW => ErrBack.no (hq W hW) rfl
                    go_wp2
                    go_region_held3 (fun W => W.cell? ⟨w.heap.size, 0, none⟩ = some (.slice mad mons.length mcap) ∧ W.cell? ⟨w.heap.size, 1, none⟩ = some (.slice (some ⟨kb, koff, none⟩) roles.length rcap) ∧ W.cell? ⟨kb, koff + j * 5 + 3, none⟩ = some (.slice fad fbody.length fcap)) (exact HK.out _ B) (first | (go_at_call 48; (with_reducible refine (hq _ (hbF.tr le_rfl' B)).mono ?_); rintro r w1 ⟨rfl, bb⟩; have B := B.tr le_rfl' bb))
                    all_goals go_wp2
                    all_goals go_roundw
                    all_goals first
                      | exact ⟨j + 1, by omega, by go_num, by show _ = _; rw [HQ.out, HD.out, HRo.out]; rfl, hbw.tr le_rfl' B⟩
                      | (simp [intOf]; omega)
                  · have hq := fun W hW => ErrBack.yes (hq W hW) rfl
                    have hres : res = (61, a) := HC3.out _ (by trivial) HDN.out HRN.out (by rw [HMN.out, HQ.out, HD.out, HRo.out]; rfl)
                    subst hres
                    go_wp2
                    go_region_held3 (fun W => W.cell? ⟨w.heap.size, 0, none⟩ = some (.slice mad mons.length mcap) ∧ W.cell? ⟨w.heap.size, 1, none⟩ = some (.slice (some ⟨kb, koff, none⟩) roles.length rcap) ∧ W.cell? ⟨kb, koff + j * 5 + 3, none⟩ = some (.slice fad fbody.length fcap)) (exact HK.out _ B) (first | (go_at_call 48; (with_reducible refine (hq _ (hbF.tr le_rfl' B)).mono ?_); rintro r w1 ⟨rfl, bb⟩; have B := B.tr le_rfl' bb))
                    all_goals go_wp2
                    all_goals go_ret2
                    all_goals exact ⟨rfl, hbF.tr le_rfl' B⟩
                · have hjd6 : decide ((j : Int) < (roles.length : Int)) = false := by simp; omega
                  have hres : res = (0, 0) := HC4.out (by trivial) HDN.out HRN.out (by rw [HMN.out, HQ.out, unkOf_end _ _ _ (by omega)]; rfl)
                  subst hres
                  go_wp2
                  go_ret2
                  exact ⟨rfl, hbF⟩
end Go.Proofs.YtgfdegogknoknaaDoor
