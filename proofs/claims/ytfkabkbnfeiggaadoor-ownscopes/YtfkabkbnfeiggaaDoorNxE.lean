/-
  block, stmt and program of package names' reader: the first name in statements that nobody has declared.
-/
import Derived.Test.YtfkabkbnfeiggaaDoorNxD
namespace Go.Proofs.YtfkabkbnfeiggaaDoor
open Go.RowKit
theorem one_box (w : World) (a : Array Value) (s : TypeId) : (w.alloc (.cells a s)).heap[w.heap.size]? = some (.cells a s (0, 0)) ∧ Below w.heap.size w (w.alloc (.cells a s)) ∧ (w.alloc (.cells a s)).heap.size = w.heap.size + 1 :=
  ⟨heapNew w _, (Below.refl _ w).al le_rfl' _, by simp⟩
def StRd (sb k1 k2 b : Nat) (S : List (ByteArray × List (ByteArray × Int))) (B : List Nat) (s : St) : Prop := ∀ (n₀ : Nat) (w : World), n₀ ≤ w.heap.size → s.Is n₀ w → Rdr w sb k1 k2 b S B →
  Calls Tryd.prog 85 #[.agg #[.func (.func 77) #[] #[.pointer (some ⟨sb, 0, none⟩)], .func (.func 76) #[] #[.pointer (some ⟨sb, 0, none⟩), .pointer (some ⟨k1, 0, none⟩)], .func (.func 76) #[] #[.pointer (some ⟨sb, 0, none⟩), .pointer (some ⟨k2, 0, none⟩)]], s.val] w fun r w' => ErrBack 61 (s.unk (scLk S)) w w' r
def BlRd (sb k1 k2 b : Nat) (S : List (ByteArray × List (ByteArray × Int))) (B : List Nat) (x : Bl) : Prop := ∀ (n₀ : Nat) (w : World), n₀ ≤ w.heap.size → x.Is n₀ w → Rdr w sb k1 k2 b S B →
  Calls Tryd.prog 78 #[.agg #[.func (.func 77) #[] #[.pointer (some ⟨sb, 0, none⟩)], .func (.func 76) #[] #[.pointer (some ⟨sb, 0, none⟩), .pointer (some ⟨k1, 0, none⟩)], .func (.func 76) #[] #[.pointer (some ⟨sb, 0, none⟩), .pointer (some ⟨k2, 0, none⟩)]], x.slice] w fun r w' => ErrBack 61 (x.unk (scLk S)) w w' r
set_option maxRecDepth 100000 in
set_option maxHeartbeats 4000000 in
theorem block_step {sb k1 k2 b : Nat} {S : List (ByteArray × List (ByteArray × Int))} {B : List Nat} (ad : Option Addr) (cap : Nat) (body : List St) (ih : ∀ s ∈ body, StRd sb k1 k2 b S B s) : BlRd sb k1 k2 b S B (.mk ad cap body) := by
  intro n₀ w hn hI hr
  have HU := hid (Bl.unk_mk (scLk S) ad cap body)
  have hIk := hI.down.2
  have hsl := hI.down.1
  have hl1 := hsl.1; have hl2 := hsl.2.1
  unfold maxLen at hl2
  simp only [Bl.slice]
  go_enter Tryd.func78, Tryd.ntmps78
  go_upto_region 1 with fail
  obtain ⟨bR, hB, hz⟩ := one_box w #[.func (.func 77) #[] #[.pointer (some ⟨sb, 0, none⟩)], .func (.func 76) #[] #[.pointer (some ⟨sb, 0, none⟩), .pointer (some ⟨k1, 0, none⟩)], .func (.func 76) #[] #[.pointer (some ⟨sb, 0, none⟩), .pointer (some ⟨k2, 0, none⟩)]] 119
  obtain ⟨W0, hW0⟩ : ∃ W0, w.alloc (.cells #[.func (.func 77) #[] #[.pointer (some ⟨sb, 0, none⟩)], .func (.func 76) #[] #[.pointer (some ⟨sb, 0, none⟩), .pointer (some ⟨k1, 0, none⟩)], .func (.func 76) #[] #[.pointer (some ⟨sb, 0, none⟩), .pointer (some ⟨k2, 0, none⟩)]] 119) = W0 := ⟨_, rfl⟩
  rw [hW0] at bR hB hz ⊢
  clear hW0
  have hr0 := hr.below hB (Nat.le_refl _)
  have r0 := cellOf bR 0
  have r1 := cellOf bR 1
  have r2 := cellOf bR 2
  simp at r0 r1 r2
  have HZ := hid hz
  clear hr hz bR
  go_wp2
  go_loopw [12] (fun i wr => ∃ j : Nat, j ≤ body.length ∧ i = .int .i64 j ∧ Hid (St.unkL (scLk S) body = St.unkL (scLk S) (body.drop j)) ∧ Below W0.heap.size W0 wr)
    (fun i _ => body.length - (intOf i).toNat)
  case atStart => exact ⟨0, by omega, rfl, rfl, Below.refl _ _⟩
  case round =>
    obtain ⟨j, hj, rfl, HQ, hbw⟩ := hrel
    have hz1 := hbw.size
    have hz0 := HZ.out
    have hbF : Below w.heap.size w wr := hB.trans (hbw.mono (by omega))
    have hb0 : Below n₀ w wr := hbF.mono hn
    by_cases hlt : j < body.length
    · rcases hsl.2.2 with h | ⟨kb, koff, rfl, hbn, hrow⟩
      · subst h; simp at hlt
      have hbn2 : kb < wr.heap.size := by omega
      have HD := hid (St.unkL_drop (scLk S) body j hlt)
      have hrj := hrow.below hb0 hbn
      have hq := ih _ (List.getElem_mem hlt) n₀ (wr.alloc (.cells (body[j]).cells.toArray 39)) (by simp; omega) ((hIk _ (List.getElem_mem hlt)).below (hb0.al hn _)) ((hr0.below hbw (Nat.le_refl _)).below ((Below.refl _ wr).al le_rfl' _) (Nat.le_refl _))
      obtain ⟨u, hu⟩ : ∃ u, body[j].unk (scLk S) = u := ⟨_, rfl⟩
      rw [hu] at hq HD
      clear hu
      have x0 : ∀ o, (wr.alloc o).cell? ⟨w.heap.size, 0, none⟩ = _ := fun o => (((Below.refl _ wr).al le_rfl' o).cell (p := ⟨w.heap.size, 0, none⟩) (by show w.heap.size < _; omega)).trans ((hbw.cell (p := ⟨w.heap.size, 0, none⟩) (by show w.heap.size < _; omega)).trans r0)
      have x1 : ∀ o, (wr.alloc o).cell? ⟨w.heap.size, 1, none⟩ = _ := fun o => (((Below.refl _ wr).al le_rfl' o).cell (p := ⟨w.heap.size, 1, none⟩) (by show w.heap.size < _; omega)).trans ((hbw.cell (p := ⟨w.heap.size, 1, none⟩) (by show w.heap.size < _; omega)).trans r1)
      have x2 : ∀ o, (wr.alloc o).cell? ⟨w.heap.size, 2, none⟩ = _ := fun o => (((Below.refl _ wr).al le_rfl' o).cell (p := ⟨w.heap.size, 2, none⟩) (by show w.heap.size < _; omega)).trans ((hbw.cell (p := ⟨w.heap.size, 2, none⟩) (by show w.heap.size < _; omega)).trans r2)
      rcases he' : body[j] with ⟨kind', mon', name', n', ⟨eop', emon', ename', en', ead', ecap', ekids', epos'⟩, ad', cap', blocks', pos'⟩
      obtain ⟨c0, c1, c2, c3, c4, c5, c6, c7, c8, c9, c10, c11⟩ := row12 hrj j hlt (by rw [he']; rfl)
      simp only [he', St.val, St.cells, Ex.cells, List.cons_append, List.nil_append] at hq
      clear he' ih hr0
      rcases u with _ | a
      · have hq := ErrBack.no hq rfl
        go_wp2_with (go_at_call 85; (with_reducible refine hq.mono ?_); rintro r w1 ⟨rfl, hb1⟩)
        go_roundw
        case rel => exact ⟨j + 1, by omega, by go_num, by show _ = _; rw [HQ.out, HD.out]; rfl, (hbw.al le_rfl' _).tr le_rfl' hb1⟩
        case measure => simp [intOf]; omega
      · have hq := ErrBack.yes hq rfl
        go_wp2_with (go_at_call 85; (with_reducible refine hq.mono ?_); rintro r w1 ⟨rfl, hb1⟩)
        go_ret2
        exact errBack_yes (by rw [HU.out, HQ.out, HD.out]; rfl) ((hbF.al le_rfl' _).tr le_rfl' hb1)
    · have hjd : decide ((j : Int) < (body.length : Int)) = false := by simp; omega
      go_wp2
      go_ret2
      exact errBack_no (by rw [HU.out, HQ.out, St.unkL_end _ _ _ (by omega)]) hbF
set_option maxRecDepth 100000 in
set_option maxHeartbeats 4000000 in
theorem stmt_step {sb k1 k2 b : Nat} {S : List (ByteArray × List (ByteArray × Int))} {B : List Nat} (kind : Int) (mon name : ByteArray) (n : Int) (e : Ex) (ad : Option Addr) (cap : Nat) (blocks : List Bl) (pos : Int) (ih : ∀ x ∈ blocks, BlRd sb k1 k2 b S B x) : StRd sb k1 k2 b S B (.mk kind mon name n e ad cap blocks pos) := by
  intro n₀ w hn hI hr
  have HU := hid (St.unk_mk (scLk S) kind mon name n e ad cap blocks pos)
  have hIe := hI.down.2.1
  have hIk := hI.down.2.2.2
  have hsl := hI.down.2.2.1
  have hl1 := hsl.1; have hl2 := hsl.2.1
  unfold maxLen at hl2
  have hK0 : ∀ W, Below w.heap.size w W → Calls Tryd.prog 94 #[.agg #[.func (.func 77) #[] #[.pointer (some ⟨sb, 0, none⟩)], .func (.func 76) #[] #[.pointer (some ⟨sb, 0, none⟩), .pointer (some ⟨k1, 0, none⟩)], .func (.func 76) #[] #[.pointer (some ⟨sb, 0, none⟩), .pointer (some ⟨k2, 0, none⟩)]], (St.mk kind mon name n e ad cap blocks pos).val] W fun r w' => r = .returned (.bool ((St.mk kind mon name n e ad cap blocks pos).knows (scLk S))) ∧ Below W.heap.size W w' := fun W hW => knows_any _ W (hr.below hW (Nat.le_refl _))
  have hE0 : ∀ W, Below w.heap.size w W → Calls Tryd.prog 95 #[.agg #[.func (.func 77) #[] #[.pointer (some ⟨sb, 0, none⟩)], .func (.func 76) #[] #[.pointer (some ⟨sb, 0, none⟩), .pointer (some ⟨k1, 0, none⟩)], .func (.func 76) #[] #[.pointer (some ⟨sb, 0, none⟩), .pointer (some ⟨k2, 0, none⟩)]], e.val] W fun r w' => ErrBack 61 (e.unk (scLk S)) W w' r := fun W hW => exprRd_any e n₀ W (by have := hW.size; omega) (hIe.below (hW.mono hn)) (hr.below hW (Nat.le_refl _))
  obtain ⟨kn, hkn⟩ : ∃ kn, (St.mk kind mon name n e ad cap blocks pos).knows (scLk S) = kn := ⟨_, rfl⟩
  obtain ⟨ue, hue⟩ : ∃ ue, e.unk (scLk S) = ue := ⟨_, rfl⟩
  rw [hkn] at HU
  rw [hue] at HU
  simp only [hkn] at hK0
  simp only [hue] at hE0
  clear hkn hue hIe hI
  rcases e with ⟨eop, emon, ename, en, ead, ecap, ekids, epos⟩
  simp only [St.val, St.cells, Ex.val, Ex.cells, List.cons_append, List.nil_append] at hK0 hE0 ⊢
  go_enter Tryd.func85, Tryd.ntmps85
  go_upto_region 1 with fail
  obtain ⟨bR, bX, hB, hz⟩ := two_box w #[.func (.func 77) #[] #[.pointer (some ⟨sb, 0, none⟩)], .func (.func 76) #[] #[.pointer (some ⟨sb, 0, none⟩), .pointer (some ⟨k1, 0, none⟩)], .func (.func 76) #[] #[.pointer (some ⟨sb, 0, none⟩), .pointer (some ⟨k2, 0, none⟩)]] #[.int .i64 kind, .string mon, .string name, .int .i64 n, .int .i64 eop, .string emon, .string ename, .int .i64 en, .slice ead ekids.length ecap, .int .i64 epos, .slice ad blocks.length cap, .int .i64 pos] 119 39
  obtain ⟨W0, hW0⟩ : ∃ W0, (w.alloc (.cells #[.func (.func 77) #[] #[.pointer (some ⟨sb, 0, none⟩)], .func (.func 76) #[] #[.pointer (some ⟨sb, 0, none⟩), .pointer (some ⟨k1, 0, none⟩)], .func (.func 76) #[] #[.pointer (some ⟨sb, 0, none⟩), .pointer (some ⟨k2, 0, none⟩)]] 119)).alloc (.cells #[.int .i64 kind, .string mon, .string name, .int .i64 n, .int .i64 eop, .string emon, .string ename, .int .i64 en, .slice ead ekids.length ecap, .int .i64 epos, .slice ad blocks.length cap, .int .i64 pos] 39) = W0 := ⟨_, rfl⟩
  rw [hW0] at bR bX hB hz ⊢
  clear hW0
  have hr0 := hr.below hB (Nat.le_refl _)
  have hK := hK0 W0 hB
  have r0 := cellOf bR 0
  have r1 := cellOf bR 1
  have r2 := cellOf bR 2
  have s0 := cellOf bX 0
  have s1 := cellOf bX 1
  have s2 := cellOf bX 2
  have s3 := cellOf bX 3
  have s4 := cellOf bX 4
  have s5 := cellOf bX 5
  have s6 := cellOf bX 6
  have s7 := cellOf bX 7
  have s8 := cellOf bX 8
  have s9 := cellOf bX 9
  have s10 := cellOf bX 10
  have s11 := cellOf bX 11
  simp at r0 r1 r2 s0 s1 s2 s3 s4 s5 s6 s7 s8 s9 s10 s11
  have HZ := hid hz
  clear hz bX bR hK0
  cases kn
  · rw [if_pos rfl] at HU
    clear ih hE0
    go_wp2_with (go_at_call 94; (with_reducible refine hK.mono ?_); rintro r u1 ⟨rfl, bb1⟩; have hz1 := bb1.size; have x0 := (bb1.cell (p := ⟨w.heap.size, 0, none⟩) (by show w.heap.size < _; have := HZ.out; omega)).trans r0; have x1 := (bb1.cell (p := ⟨w.heap.size, 1, none⟩) (by show w.heap.size < _; have := HZ.out; omega)).trans r1; have x2 := (bb1.cell (p := ⟨w.heap.size, 2, none⟩) (by show w.heap.size < _; have := HZ.out; omega)).trans r2; have y4 := (bb1.cell (p := ⟨w.heap.size + 1, 4, none⟩) (by show w.heap.size + 1 < _; have := HZ.out; omega)).trans s4; have y5 := (bb1.cell (p := ⟨w.heap.size + 1, 5, none⟩) (by show w.heap.size + 1 < _; have := HZ.out; omega)).trans s5; have y6 := (bb1.cell (p := ⟨w.heap.size + 1, 6, none⟩) (by show w.heap.size + 1 < _; have := HZ.out; omega)).trans s6; have y7 := (bb1.cell (p := ⟨w.heap.size + 1, 7, none⟩) (by show w.heap.size + 1 < _; have := HZ.out; omega)).trans s7; have y8 := (bb1.cell (p := ⟨w.heap.size + 1, 8, none⟩) (by show w.heap.size + 1 < _; have := HZ.out; omega)).trans s8; have y9 := (bb1.cell (p := ⟨w.heap.size + 1, 9, none⟩) (by show w.heap.size + 1 < _; have := HZ.out; omega)).trans s9; have y10 := (bb1.cell (p := ⟨w.heap.size + 1, 10, none⟩) (by show w.heap.size + 1 < _; have := HZ.out; omega)).trans s10; have y11 := (bb1.cell (p := ⟨w.heap.size + 1, 11, none⟩) (by show w.heap.size + 1 < _; have := HZ.out; omega)).trans s11)
    go_quiet (fail)
    go_wp2
    go_ret2
    have hbf := hB.tr le_rfl' bb1
    exact errBack_yes HU.out ⟨hbf.os, hbf.tape, hbf.output, hbf.size, hbf.block⟩
  · rw [if_neg (by simp)] at HU
    rcases ue with _ | a
    · go_wp2_with (first
        | (go_at_call 94; (with_reducible refine hK.mono ?_); rintro r u1 ⟨rfl, bb1⟩; have hz1 := bb1.size; have x0 := (bb1.cell (p := ⟨w.heap.size, 0, none⟩) (by show w.heap.size < _; have := HZ.out; omega)).trans r0; have x1 := (bb1.cell (p := ⟨w.heap.size, 1, none⟩) (by show w.heap.size < _; have := HZ.out; omega)).trans r1; have x2 := (bb1.cell (p := ⟨w.heap.size, 2, none⟩) (by show w.heap.size < _; have := HZ.out; omega)).trans r2; have y4 := (bb1.cell (p := ⟨w.heap.size + 1, 4, none⟩) (by show w.heap.size + 1 < _; have := HZ.out; omega)).trans s4; have y5 := (bb1.cell (p := ⟨w.heap.size + 1, 5, none⟩) (by show w.heap.size + 1 < _; have := HZ.out; omega)).trans s5; have y6 := (bb1.cell (p := ⟨w.heap.size + 1, 6, none⟩) (by show w.heap.size + 1 < _; have := HZ.out; omega)).trans s6; have y7 := (bb1.cell (p := ⟨w.heap.size + 1, 7, none⟩) (by show w.heap.size + 1 < _; have := HZ.out; omega)).trans s7; have y8 := (bb1.cell (p := ⟨w.heap.size + 1, 8, none⟩) (by show w.heap.size + 1 < _; have := HZ.out; omega)).trans s8; have y9 := (bb1.cell (p := ⟨w.heap.size + 1, 9, none⟩) (by show w.heap.size + 1 < _; have := HZ.out; omega)).trans s9; have y10 := (bb1.cell (p := ⟨w.heap.size + 1, 10, none⟩) (by show w.heap.size + 1 < _; have := HZ.out; omega)).trans s10; have y11 := (bb1.cell (p := ⟨w.heap.size + 1, 11, none⟩) (by show w.heap.size + 1 < _; have := HZ.out; omega)).trans s11; have hE := ErrBack.no (hE0 u1 (hB.tr le_rfl' bb1)) rfl; clear s0 s1 s2 s3 s4 s5 s6 s7 s8 s9 s10 s11)
        | (go_at_call 95; (with_reducible refine hE.mono ?_); rintro r u2 ⟨rfl, bb2⟩; have hz2 := bb2.size; have z10 := (bb2.cell (p := ⟨w.heap.size + 1, 10, none⟩) (by show w.heap.size + 1 < _; have := HZ.out; omega)).trans y10))
      have hBu : Below W0.heap.size W0 u2 := bb1.tr le_rfl' bb2
      clear hE hE0 y4 y5 y6 y7 y8 y9 y10 y11 x0 x1 x2
      go_loopw [32] (fun i wr => ∃ j : Nat, j ≤ blocks.length ∧ i = .int .i64 j ∧ Hid (Bl.unkL (scLk S) blocks = Bl.unkL (scLk S) (blocks.drop j)) ∧ Below W0.heap.size W0 wr)
        (fun i _ => blocks.length - (intOf i).toNat)
      case atStart => exact ⟨0, by omega, rfl, rfl, hBu⟩
      case round =>
        obtain ⟨j, hj, rfl, HQ, hbw⟩ := hrel
        have hz3 := hbw.size
        have hz0 := HZ.out
        have hbF : Below w.heap.size w wr := hB.trans (hbw.mono (by omega))
        have hb0 : Below n₀ w wr := hbF.mono hn
        by_cases hlt : j < blocks.length
        · rcases hsl.2.2 with h | ⟨kb, koff, rfl, hbn, hrow⟩
          · subst h; simp at hlt
          have hbn2 : kb < wr.heap.size := by omega
          have HD := hid (Bl.unkL_drop (scLk S) blocks j hlt)
          have hrj := hrow.below hb0 hbn
          have hq := ih _ (List.getElem_mem hlt) n₀ wr (by omega) ((hIk _ (List.getElem_mem hlt)).below hb0) (hr0.below hbw (Nat.le_refl _))
          obtain ⟨u, hu⟩ : ∃ u, blocks[j].unk (scLk S) = u := ⟨_, rfl⟩
          rw [hu] at hq HD
          clear hu
          have x0 := (hbw.cell (p := ⟨w.heap.size, 0, none⟩) (by show w.heap.size < _; omega)).trans r0
          have x1 := (hbw.cell (p := ⟨w.heap.size, 1, none⟩) (by show w.heap.size < _; omega)).trans r1
          have x2 := (hbw.cell (p := ⟨w.heap.size, 2, none⟩) (by show w.heap.size < _; omega)).trans r2
          rcases he' : blocks[j] with ⟨bad, bcap, bbody⟩
          have c0 := hrj j hlt 0 (by omega)
          simp only [he', Bl.cells, Bl.slice, Nat.mul_one, Nat.add_zero, List.getElem?_cons_zero] at hq c0
          clear he' ih hr0
          rcases u with _ | a
          · have hq := ErrBack.no hq rfl
            go_wp2_with (go_at_call 78; (with_reducible refine hq.mono ?_); rintro r w1 ⟨rfl, hb1⟩)
            go_roundw
            case rel => exact ⟨j + 1, by omega, by go_num, by show _ = _; rw [HQ.out, HD.out]; rfl, hbw.tr le_rfl' hb1⟩
            case measure => simp [intOf]; omega
          · have hq := ErrBack.yes hq rfl
            go_wp2_with (go_at_call 78; (with_reducible refine hq.mono ?_); rintro r w1 ⟨rfl, hb1⟩)
            go_ret2
            exact errBack_yes (by rw [HU.out, HQ.out, HD.out]; rfl) (hbF.tr le_rfl' hb1)
        · have hjd : decide ((j : Int) < (blocks.length : Int)) = false := by simp; omega
          go_wp2
          go_ret2
          exact errBack_no (by rw [HU.out, HQ.out, Bl.unkL_end _ _ _ (by omega)]; rfl) hbF
    · go_wp2_with (first
        | (go_at_call 94; (with_reducible refine hK.mono ?_); rintro r u1 ⟨rfl, bb1⟩; have hz1 := bb1.size; have x0 := (bb1.cell (p := ⟨w.heap.size, 0, none⟩) (by show w.heap.size < _; have := HZ.out; omega)).trans r0; have x1 := (bb1.cell (p := ⟨w.heap.size, 1, none⟩) (by show w.heap.size < _; have := HZ.out; omega)).trans r1; have x2 := (bb1.cell (p := ⟨w.heap.size, 2, none⟩) (by show w.heap.size < _; have := HZ.out; omega)).trans r2; have y4 := (bb1.cell (p := ⟨w.heap.size + 1, 4, none⟩) (by show w.heap.size + 1 < _; have := HZ.out; omega)).trans s4; have y5 := (bb1.cell (p := ⟨w.heap.size + 1, 5, none⟩) (by show w.heap.size + 1 < _; have := HZ.out; omega)).trans s5; have y6 := (bb1.cell (p := ⟨w.heap.size + 1, 6, none⟩) (by show w.heap.size + 1 < _; have := HZ.out; omega)).trans s6; have y7 := (bb1.cell (p := ⟨w.heap.size + 1, 7, none⟩) (by show w.heap.size + 1 < _; have := HZ.out; omega)).trans s7; have y8 := (bb1.cell (p := ⟨w.heap.size + 1, 8, none⟩) (by show w.heap.size + 1 < _; have := HZ.out; omega)).trans s8; have y9 := (bb1.cell (p := ⟨w.heap.size + 1, 9, none⟩) (by show w.heap.size + 1 < _; have := HZ.out; omega)).trans s9; have y10 := (bb1.cell (p := ⟨w.heap.size + 1, 10, none⟩) (by show w.heap.size + 1 < _; have := HZ.out; omega)).trans s10; have y11 := (bb1.cell (p := ⟨w.heap.size + 1, 11, none⟩) (by show w.heap.size + 1 < _; have := HZ.out; omega)).trans s11; have hE := ErrBack.yes (hE0 u1 (hB.tr le_rfl' bb1)) rfl; clear s0 s1 s2 s3 s4 s5 s6 s7 s8 s9 s10 s11)
        | (go_at_call 95; (with_reducible refine hE.mono ?_); rintro r u2 ⟨rfl, bb2⟩))
      go_ret2
      exact errBack_yes HU.out ((hB.tr le_rfl' bb1).tr le_rfl' bb2)
theorem block_any {sb k1 k2 b : Nat} {S : List (ByteArray × List (ByteArray × Int))} {B : List Nat} (x : Bl) : BlRd sb k1 k2 b S B x :=
  Bl.ind (P := StRd sb k1 k2 b S B) (Q := BlRd sb k1 k2 b S B) (fun kind mon name n e ad cap blocks pos ih => stmt_step kind mon name n e ad cap blocks pos ih) (fun ad cap body ih => block_step ad cap body ih) x
end Go.Proofs.YtfkabkbnfeiggaaDoor
