/-
  knows and expr of package names' reader: whether a statement's own names are declared; the first variable of an expression that is not.
-/
import Derived.Test.YtfkabkbnfeiggaaDoorNxC
namespace Go.Proofs.YtfkabkbnfeiggaaDoor
open Go.RowKit
theorem two_box (w : World) (a x : Array Value) (s t : TypeId) : ((w.alloc (.cells a s)).alloc (.cells x t)).heap[w.heap.size]? = some (.cells a s (0, 0)) ∧ ((w.alloc (.cells a s)).alloc (.cells x t)).heap[w.heap.size + 1]? = some (.cells x t (0, 0)) ∧ Below w.heap.size w ((w.alloc (.cells a s)).alloc (.cells x t)) ∧ ((w.alloc (.cells a s)).alloc (.cells x t)).heap.size = w.heap.size + 2 := by
  refine ⟨(Below.heap_alloc _ _ _ (by simp)).trans (heapNew w _), ?_, ((Below.refl _ w).al le_rfl' _).al le_rfl' _, by simp⟩
  have := heapNew (w.alloc (.cells a s)) (.cells x t)
  rwa [World.size_alloc] at this
/-- What is told of the first error of a kind: its place, or that there is none. -/
def ErrBack (c : Int) (o : Option Int) (w w' : World) (r : Ending) : Prop := ((o = none ∧ r = .returned (.tuple #[.int .i64 0, .int .i64 0])) ∨ (∃ a, o = some a ∧ r = .returned (.tuple #[.int .i64 c, .int .i64 a]))) ∧ Below w.heap.size w w'
theorem ErrBack.no {f : FuncId} {args : Array Value} {c : Int} {o : Option Int} {w : World} (h : Calls Tryd.prog f args w fun r w' => ErrBack c o w w' r) (ho : o = none) : Calls Tryd.prog f args w fun r w' => r = .returned (.tuple #[.int .i64 0, .int .i64 0]) ∧ Below w.heap.size w w' :=
  h.mono fun r w' hh => by
    rcases hh.1 with ⟨_, h2⟩ | ⟨a, h1, _⟩
    · exact ⟨h2, hh.2⟩
    · rw [ho] at h1; cases h1
theorem ErrBack.yes {f : FuncId} {args : Array Value} {c : Int} {o : Option Int} {w : World} (h : Calls Tryd.prog f args w fun r w' => ErrBack c o w w' r) {a : Int} (ho : o = some a) : Calls Tryd.prog f args w fun r w' => r = .returned (.tuple #[.int .i64 c, .int .i64 a]) ∧ Below w.heap.size w w' :=
  h.mono fun r w' hh => by
    rcases hh.1 with ⟨h1, _⟩ | ⟨a', h1, h2⟩
    · rw [ho] at h1; cases h1
    · rw [ho] at h1; cases h1; exact ⟨h2, hh.2⟩
theorem errBack_no {c : Int} {o : Option Int} {w w' : World} (ho : o = none) (hb : Below w.heap.size w w') : ErrBack c o w w' (.returned (.tuple #[.int .i64 0, .int .i64 0])) := ⟨.inl ⟨ho, rfl⟩, hb⟩
theorem errBack_yes {c : Int} {o : Option Int} {w w' : World} {a : Int} (ho : o = some a) (hb : Below w.heap.size w w') : ErrBack c o w w' (.returned (.tuple #[.int .i64 c, .int .i64 a])) := ⟨.inr ⟨a, ho, rfl⟩, hb⟩
set_option maxRecDepth 100000 in
set_option maxHeartbeats 4000000 in
theorem knows_any (s : St) (w : World) {sb k1 k2 b : Nat} {S : List (ByteArray × List (ByteArray × Int))} {B : List Nat} (hr : Rdr w sb k1 k2 b S B) :
    Calls Tryd.prog 94 #[.agg #[.func (.func 77) #[] #[.pointer (some ⟨sb, 0, none⟩)], .func (.func 76) #[] #[.pointer (some ⟨sb, 0, none⟩), .pointer (some ⟨k1, 0, none⟩)], .func (.func 76) #[] #[.pointer (some ⟨sb, 0, none⟩), .pointer (some ⟨k2, 0, none⟩)]], s.val] w fun e w' => e = .returned (.bool (s.knows (scLk S))) ∧ Below w.heap.size w w' := by
  rcases s with ⟨kind, mon, name, n, ⟨eop, emon, ename, en, ead, ecap, ekids, epos⟩, ad, cap, blocks, pos⟩
  have HK : Hid ((St.mk kind mon name n ⟨eop, emon, ename, en, ead, ecap, ekids, epos⟩ ad cap blocks pos).knows (scLk S) = if kind = 2 then (scLk S).V mon name else if kind = 8 then (scLk S).F mon name else if kind = 7 ∨ kind = 9 ∨ kind = 10 ∨ kind = 11 then (scLk S).M mon else true) := rfl
  simp only [St.val, St.cells, Ex.cells, List.cons_append, List.nil_append]
  go_enter Tryd.func94, Tryd.ntmps94
  go_upto_region 1 with fail
  obtain ⟨bR, bX, hB, hz⟩ := two_box w #[.func (.func 77) #[] #[.pointer (some ⟨sb, 0, none⟩)], .func (.func 76) #[] #[.pointer (some ⟨sb, 0, none⟩), .pointer (some ⟨k1, 0, none⟩)], .func (.func 76) #[] #[.pointer (some ⟨sb, 0, none⟩), .pointer (some ⟨k2, 0, none⟩)]] #[.int .i64 kind, .string mon, .string name, .int .i64 n, .int .i64 eop, .string emon, .string ename, .int .i64 en, .slice ead ekids.length ecap, .int .i64 epos, .slice ad blocks.length cap, .int .i64 pos] 119 39
  obtain ⟨W0, hW0⟩ : ∃ W0, (w.alloc (.cells #[.func (.func 77) #[] #[.pointer (some ⟨sb, 0, none⟩)], .func (.func 76) #[] #[.pointer (some ⟨sb, 0, none⟩), .pointer (some ⟨k1, 0, none⟩)], .func (.func 76) #[] #[.pointer (some ⟨sb, 0, none⟩), .pointer (some ⟨k2, 0, none⟩)]] 119)).alloc (.cells #[.int .i64 kind, .string mon, .string name, .int .i64 n, .int .i64 eop, .string emon, .string ename, .int .i64 en, .slice ead ekids.length ecap, .int .i64 epos, .slice ad blocks.length cap, .int .i64 pos] 39) = W0 := ⟨_, rfl⟩
  rw [hW0] at bR bX hB hz ⊢
  clear hW0
  have hr0 := hr.below hB (Nat.le_refl _)
  have hV := isVar_rd mon name hr0
  have hF := isMeth_rd mon name hr0
  have hM := isMon_rd mon hr0
  obtain ⟨rv, hrv⟩ : ∃ rv, (scLk S).V mon name = rv := ⟨_, rfl⟩
  obtain ⟨rf, hrf⟩ : ∃ rf, (scLk S).F mon name = rf := ⟨_, rfl⟩
  obtain ⟨rm, hrm⟩ : ∃ rm, (scLk S).M mon = rm := ⟨_, rfl⟩
  rw [hrv] at hV HK
  rw [hrf] at hF HK
  rw [hrm] at hM HK
  have r0 := cellOf bR 0
  have r1 := cellOf bR 1
  have r2 := cellOf bR 2
  have s0 := cellOf bX 0
  have s1 := cellOf bX 1
  have s2 := cellOf bX 2
  simp at r0 r1 r2 s0 s1 s2
  clear hrv hrf hrm hr hr0 bR bX hz
  by_cases e2 : kind = 2
  · subst e2
    go_wp2_with (go_at_call 76; (with_reducible refine hV.mono ?_); rintro r w' ⟨rfl, hw'⟩; have hw2 := hw'.symm; subst hw2)
    go_ret
    exact ⟨by rw [HK.out]; rfl, hB⟩
  have q2 : (kind == 2) = false := by rw [beq_eq_false_iff_ne]; exact e2
  by_cases e8 : kind = 8
  · subst e8
    go_wp2_with (go_at_call 76; (with_reducible refine hF.mono ?_); rintro r w' ⟨rfl, hw'⟩; have hw2 := hw'.symm; subst hw2)
    go_ret
    exact ⟨by rw [HK.out]; rfl, hB⟩
  have q8 : (kind == 8) = false := by rw [beq_eq_false_iff_ne]; exact e8
  by_cases e7 : kind = 7
  · subst e7
    go_wp2_with (go_at_call 77; (with_reducible refine hM.mono ?_); rintro r w' ⟨rfl, hw'⟩; have hw2 := hw'.symm; subst hw2)
    go_ret
    exact ⟨by rw [HK.out]; rfl, hB⟩
  have q7 : (kind == 7) = false := by rw [beq_eq_false_iff_ne]; exact e7
  by_cases e9 : kind = 9
  · subst e9
    go_wp2_with (go_at_call 77; (with_reducible refine hM.mono ?_); rintro r w' ⟨rfl, hw'⟩; have hw2 := hw'.symm; subst hw2)
    go_ret
    exact ⟨by rw [HK.out]; rfl, hB⟩
  have q9 : (kind == 9) = false := by rw [beq_eq_false_iff_ne]; exact e9
  by_cases e10 : kind = 10
  · subst e10
    go_wp2_with (go_at_call 77; (with_reducible refine hM.mono ?_); rintro r w' ⟨rfl, hw'⟩; have hw2 := hw'.symm; subst hw2)
    go_ret
    exact ⟨by rw [HK.out]; rfl, hB⟩
  have q10 : (kind == 10) = false := by rw [beq_eq_false_iff_ne]; exact e10
  by_cases e11 : kind = 11
  · subst e11
    go_wp2_with (go_at_call 77; (with_reducible refine hM.mono ?_); rintro r w' ⟨rfl, hw'⟩; have hw2 := hw'.symm; subst hw2)
    go_ret
    exact ⟨by rw [HK.out]; rfl, hB⟩
  have q11 : (kind == 11) = false := by rw [beq_eq_false_iff_ne]; exact e11
  rw [if_neg e2, if_neg e8, if_neg (by omega)] at HK
  clear e2 e8 e7 e9 e10 e11
  go_wp2
  go_ret
  exact ⟨by rw [HK.out]; rfl, hB⟩
set_option maxRecDepth 100000 in
set_option maxHeartbeats 4000000 in
theorem exprRd_any (e : Ex) {sb k1 k2 b : Nat} {S : List (ByteArray × List (ByteArray × Int))} {B : List Nat} : ∀ (n₀ : Nat) (w : World), n₀ ≤ w.heap.size → e.Is n₀ w → Rdr w sb k1 k2 b S B →
    Calls Tryd.prog 95 #[.agg #[.func (.func 77) #[] #[.pointer (some ⟨sb, 0, none⟩)], .func (.func 76) #[] #[.pointer (some ⟨sb, 0, none⟩), .pointer (some ⟨k1, 0, none⟩)], .func (.func 76) #[] #[.pointer (some ⟨sb, 0, none⟩), .pointer (some ⟨k2, 0, none⟩)]], e.val] w fun r w' => ErrBack 61 (e.unk (scLk S)) w w' r := by
  induction e using Ex.ind with
  | h op mon name n ad cap kids pos ih =>
  intro n₀ w hn hI hr
  have HU := hid (Ex.unk_mk (scLk S) op mon name n ad cap kids pos)
  have hIk := hI.down.2.2
  have hsl := hI.down.2.1
  have hl1 := hsl.1; have hl2 := hsl.2.1
  unfold maxLen at hl2
  simp only [Ex.val, Ex.cells]
  go_enter Tryd.func95, Tryd.ntmps95
  go_upto_region 1 with fail
  obtain ⟨bR, bX, hB, hz⟩ := two_box w #[.func (.func 77) #[] #[.pointer (some ⟨sb, 0, none⟩)], .func (.func 76) #[] #[.pointer (some ⟨sb, 0, none⟩), .pointer (some ⟨k1, 0, none⟩)], .func (.func 76) #[] #[.pointer (some ⟨sb, 0, none⟩), .pointer (some ⟨k2, 0, none⟩)]] #[.int .i64 op, .string mon, .string name, .int .i64 n, .slice ad kids.length cap, .int .i64 pos] 119 37
  obtain ⟨W0, hW0⟩ : ∃ W0, (w.alloc (.cells #[.func (.func 77) #[] #[.pointer (some ⟨sb, 0, none⟩)], .func (.func 76) #[] #[.pointer (some ⟨sb, 0, none⟩), .pointer (some ⟨k1, 0, none⟩)], .func (.func 76) #[] #[.pointer (some ⟨sb, 0, none⟩), .pointer (some ⟨k2, 0, none⟩)]] 119)).alloc (.cells #[.int .i64 op, .string mon, .string name, .int .i64 n, .slice ad kids.length cap, .int .i64 pos] 37) = W0 := ⟨_, rfl⟩
  rw [hW0] at bR bX hB hz ⊢
  clear hW0
  have hr0 := hr.below hB (Nat.le_refl _)
  have hV := isVar_rd mon name hr0
  obtain ⟨rv, hrv⟩ : ∃ rv, (scLk S).V mon name = rv := ⟨_, rfl⟩
  rw [hrv] at hV HU
  have r0 := cellOf bR 0
  have r1 := cellOf bR 1
  have r2 := cellOf bR 2
  have s0 := cellOf bX 0
  have s1 := cellOf bX 1
  have s2 := cellOf bX 2
  have s4 := cellOf bX 4
  have s5 := cellOf bX 5
  simp at r0 r1 r2 s0 s1 s2 s4 s5
  have HZ := hid hz
  clear hrv hr hz bX bR
  by_cases h4 : op = 4
  · subst h4
    cases rv
    · rw [if_pos ⟨rfl, rfl⟩] at HU
      go_wp2_with (go_at_call 76; (with_reducible refine hV.mono ?_); rintro r w' ⟨rfl, hw'⟩; have hw2 := hw'.symm; subst hw2)
      go_quiet (fail)
      go_wp2
      go_ret2
      exact errBack_yes HU.out ⟨hB.os, hB.tape, hB.output, hB.size, hB.block⟩
    · rw [if_neg (by simp)] at HU
      go_wp2_with (go_at_call 76; (with_reducible refine hV.mono ?_); rintro r w' ⟨rfl, hw'⟩; have hw2 := hw'.symm; subst hw2)
      go_loopw [28] (fun i wr => ∃ j : Nat, j ≤ kids.length ∧ i = .int .i64 j ∧ Hid (Ex.unkL (scLk S) kids = Ex.unkL (scLk S) (kids.drop j)) ∧ Below W0.heap.size W0 wr)
        (fun i _ => kids.length - (intOf i).toNat)
      case atStart => exact ⟨0, by omega, rfl, rfl, Below.refl _ _⟩
      case round =>
        obtain ⟨j, hj, rfl, HQ, hbw⟩ := hrel
        have hz1 := hbw.size
        have hz0 := HZ.out
        have hbF : Below w.heap.size w wr := hB.trans (hbw.mono (by omega))
        have hb0 : Below n₀ w wr := hbF.mono hn
        by_cases hlt : j < kids.length
        · rcases hsl.2.2 with h | ⟨kb, koff, rfl, hbn, hrow⟩
          · subst h; simp at hlt
          have hbn2 : kb < wr.heap.size := by omega
          have HD := hid (Ex.unkL_drop (scLk S) kids j hlt)
          have hrj := hrow.below hb0 hbn
          have hq := ih _ (List.getElem_mem hlt) n₀ (wr.alloc (.cells (kids[j]).cells.toArray 37)) (by simp; omega) ((hIk _ (List.getElem_mem hlt)).below (hb0.al hn _)) ((hr0.below hbw (Nat.le_refl _)).below ((Below.refl _ wr).al le_rfl' _) (Nat.le_refl _))
          obtain ⟨u, hu⟩ : ∃ u, kids[j].unk (scLk S) = u := ⟨_, rfl⟩
          rw [hu] at hq HD
          clear hu
          have x0 : ∀ o, (wr.alloc o).cell? ⟨w.heap.size, 0, none⟩ = _ := fun o => (((Below.refl _ wr).al le_rfl' o).cell (p := ⟨w.heap.size, 0, none⟩) (by show w.heap.size < _; omega)).trans ((hbw.cell (p := ⟨w.heap.size, 0, none⟩) (by show w.heap.size < _; omega)).trans r0)
          have x1 : ∀ o, (wr.alloc o).cell? ⟨w.heap.size, 1, none⟩ = _ := fun o => (((Below.refl _ wr).al le_rfl' o).cell (p := ⟨w.heap.size, 1, none⟩) (by show w.heap.size < _; omega)).trans ((hbw.cell (p := ⟨w.heap.size, 1, none⟩) (by show w.heap.size < _; omega)).trans r1)
          have x2 : ∀ o, (wr.alloc o).cell? ⟨w.heap.size, 2, none⟩ = _ := fun o => (((Below.refl _ wr).al le_rfl' o).cell (p := ⟨w.heap.size, 2, none⟩) (by show w.heap.size < _; omega)).trans ((hbw.cell (p := ⟨w.heap.size, 2, none⟩) (by show w.heap.size < _; omega)).trans r2)
          rcases he' : kids[j] with ⟨op', mon', name', n', ad', cp', kids', pos'⟩
          obtain ⟨c0, c1, c2, c3, c4, c5⟩ := row6 hrj j hlt (by rw [he']; rfl)
          simp only [he', Ex.val, Ex.cells] at hq
          clear he' ih hr0
          rcases u with _ | a
          · have hq := ErrBack.no hq rfl
            go_wp2_with (go_at_call 95; (with_reducible refine hq.mono ?_); rintro r w1 ⟨rfl, hb1⟩)
            go_roundw
            case rel => exact ⟨j + 1, by omega, by go_num, by show _ = _; rw [HQ.out, HD.out]; rfl, (hbw.al le_rfl' _).tr le_rfl' hb1⟩
            case measure => simp [intOf]; omega
          · have hq := ErrBack.yes hq rfl
            go_wp2_with (go_at_call 95; (with_reducible refine hq.mono ?_); rintro r w1 ⟨rfl, hb1⟩)
            go_ret2
            exact errBack_yes (by rw [HU.out, HQ.out, HD.out]; rfl) ((hbF.al le_rfl' _).tr le_rfl' hb1)
        · have hjd : decide ((j : Int) < (kids.length : Int)) = false := by simp; omega
          go_wp2
          go_ret2
          exact errBack_no (by rw [HU.out, HQ.out, Ex.unkL_end _ _ _ (by omega)]) hbF
  · have h4b : (op == 4) = false := by rw [beq_eq_false_iff_ne]; exact h4
    rw [if_neg (fun h => h4 h.1)] at HU
    clear h4
    go_wp2
    go_loopw [28] (fun i wr => ∃ j : Nat, j ≤ kids.length ∧ i = .int .i64 j ∧ Hid (Ex.unkL (scLk S) kids = Ex.unkL (scLk S) (kids.drop j)) ∧ Below W0.heap.size W0 wr)
      (fun i _ => kids.length - (intOf i).toNat)
    case atStart => exact ⟨0, by omega, rfl, rfl, Below.refl _ _⟩
    case round =>
      obtain ⟨j, hj, rfl, HQ, hbw⟩ := hrel
      have hz1 := hbw.size
      have hz0 := HZ.out
      have hbF : Below w.heap.size w wr := hB.trans (hbw.mono (by omega))
      have hb0 : Below n₀ w wr := hbF.mono hn
      by_cases hlt : j < kids.length
      · rcases hsl.2.2 with h | ⟨kb, koff, rfl, hbn, hrow⟩
        · subst h; simp at hlt
        have hbn2 : kb < wr.heap.size := by omega
        have HD := hid (Ex.unkL_drop (scLk S) kids j hlt)
        have hrj := hrow.below hb0 hbn
        have hq := ih _ (List.getElem_mem hlt) n₀ (wr.alloc (.cells (kids[j]).cells.toArray 37)) (by simp; omega) ((hIk _ (List.getElem_mem hlt)).below (hb0.al hn _)) ((hr0.below hbw (Nat.le_refl _)).below ((Below.refl _ wr).al le_rfl' _) (Nat.le_refl _))
        obtain ⟨u, hu⟩ : ∃ u, kids[j].unk (scLk S) = u := ⟨_, rfl⟩
        rw [hu] at hq HD
        clear hu
        have x0 : ∀ o, (wr.alloc o).cell? ⟨w.heap.size, 0, none⟩ = _ := fun o => (((Below.refl _ wr).al le_rfl' o).cell (p := ⟨w.heap.size, 0, none⟩) (by show w.heap.size < _; omega)).trans ((hbw.cell (p := ⟨w.heap.size, 0, none⟩) (by show w.heap.size < _; omega)).trans r0)
        have x1 : ∀ o, (wr.alloc o).cell? ⟨w.heap.size, 1, none⟩ = _ := fun o => (((Below.refl _ wr).al le_rfl' o).cell (p := ⟨w.heap.size, 1, none⟩) (by show w.heap.size < _; omega)).trans ((hbw.cell (p := ⟨w.heap.size, 1, none⟩) (by show w.heap.size < _; omega)).trans r1)
        have x2 : ∀ o, (wr.alloc o).cell? ⟨w.heap.size, 2, none⟩ = _ := fun o => (((Below.refl _ wr).al le_rfl' o).cell (p := ⟨w.heap.size, 2, none⟩) (by show w.heap.size < _; omega)).trans ((hbw.cell (p := ⟨w.heap.size, 2, none⟩) (by show w.heap.size < _; omega)).trans r2)
        rcases he' : kids[j] with ⟨op', mon', name', n', ad', cp', kids', pos'⟩
        obtain ⟨c0, c1, c2, c3, c4, c5⟩ := row6 hrj j hlt (by rw [he']; rfl)
        simp only [he', Ex.val, Ex.cells] at hq
        clear he' ih hr0
        rcases u with _ | a
        · have hq := ErrBack.no hq rfl
          go_wp2_with (go_at_call 95; (with_reducible refine hq.mono ?_); rintro r w1 ⟨rfl, hb1⟩)
          go_roundw
          case rel => exact ⟨j + 1, by omega, by go_num, by show _ = _; rw [HQ.out, HD.out]; rfl, (hbw.al le_rfl' _).tr le_rfl' hb1⟩
          case measure => simp [intOf]; omega
        · have hq := ErrBack.yes hq rfl
          go_wp2_with (go_at_call 95; (with_reducible refine hq.mono ?_); rintro r w1 ⟨rfl, hb1⟩)
          go_ret2
          exact errBack_yes (by rw [HU.out, HQ.out, HD.out]; rfl) ((hbF.al le_rfl' _).tr le_rfl' hb1)
      · have hjd : decide ((j : Int) < (kids.length : Int)) = false := by simp; omega
        go_wp2
        go_ret2
        exact errBack_no (by rw [HU.out, HQ.out, Ex.unkL_end _ _ _ (by omega)]) hbF
end Go.Proofs.YtfkabkbnfeiggaaDoor
