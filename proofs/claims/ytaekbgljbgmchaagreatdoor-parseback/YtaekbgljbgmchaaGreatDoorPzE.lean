/-
  operatorOf of package parse tells the operator that a token is.
-/
import Derived.Test.YtaekbgljbgmchaaGreatDoorPzD
namespace Go.Proofs.YtaekbgljbgmchaaGreatDoor
open Go.RowKit
open Lx (Out)
open Pz
/-- The cells of the table of operators. -/
def operCells : List Value := [.string ⟨#[124, 124]⟩, .int .i64 17, .int .i64 1, .int .i64 1, .int .i64 2, .string ⟨#[38, 38]⟩, .int .i64 16, .int .i64 2, .int .i64 2, .int .i64 3, .string ⟨#[61, 61]⟩, .int .i64 10, .int .i64 4, .int .i64 5, .int .i64 5, .string ⟨#[33, 61]⟩, .int .i64 11, .int .i64 4, .int .i64 5, .int .i64 5, .string ⟨#[60]⟩, .int .i64 12, .int .i64 4, .int .i64 5, .int .i64 5, .string ⟨#[60, 61]⟩, .int .i64 13, .int .i64 4, .int .i64 5, .int .i64 5, .string ⟨#[62]⟩, .int .i64 14, .int .i64 4, .int .i64 5, .int .i64 5, .string ⟨#[62, 61]⟩, .int .i64 15, .int .i64 4, .int .i64 5, .int .i64 5, .string ⟨#[43]⟩, .int .i64 8, .int .i64 5, .int .i64 5, .int .i64 6, .string ⟨#[45]⟩, .int .i64 9, .int .i64 5, .int .i64 5, .int .i64 6]
/-- The table of operators. -/
def opTab : List (ByteArray × Pz.Oper) := [(s_oror, ⟨17, 1, 1, 2⟩), (s_andand, ⟨16, 2, 2, 3⟩), (s_eqeq, ⟨10, 4, 5, 5⟩), (s_ne, ⟨11, 4, 5, 5⟩), (s_lt, ⟨12, 4, 5, 5⟩), (s_le, ⟨13, 4, 5, 5⟩), (s_gt, ⟨14, 4, 5, 5⟩), (s_ge, ⟨15, 4, 5, 5⟩), (s_plus, ⟨8, 5, 5, 6⟩), (s_minus, ⟨9, 5, 5, 6⟩)]
/-- The table of operators lies as it was laid. -/
def Opers (w : World) : Prop := (∀ i : Nat, i < 50 → w.cell? ⟨2, i, none⟩ = operCells[i]?) ∧ 2 < w.heap.size
theorem Opers.below {w w' : World} (h : Opers w) (hb : Below w.heap.size w w') : Opers w' := ⟨fun i hi => (hb.cell (p := ⟨2, i, none⟩) h.2).trans (h.1 i hi), Nat.lt_of_lt_of_le h.2 hb.size⟩
theorem Opers.kp {b : Nat} {w w' : World} (h : Opers w) (hb : Kp b w w') (hne : b ≠ 2) : Opers w' := ⟨fun i hi => (hb.cell (p := ⟨2, i, none⟩) h.2 hne.symm).trans (h.1 i hi), Nat.lt_of_lt_of_le h.2 hb.size⟩
theorem Opers.al {w : World} (h : Opers w) (o : Obj) : Opers (w.alloc o) := h.below (bel_al w o)
theorem toList_swap (a b : ByteArray) : (a.toList == b.toList) = (b.toList == a.toList) := by rw [Bool.eq_iff_iff, beq_iff_eq, beq_iff_eq]; exact eq_comm
/-- A whole array is loaded out of a variable, cell by cell. -/
theorem wpList_load_cells {P : Program} {ops : Array Go.Oper} {rest : List Go.Oper} {o : Go.Oper} {a : Act} {w : World} {Q : Exit → Act → World → Prop} (hgd : o.guard = none) (ty : TypeId) (x : Operand) (ho : o.op = .load ty x)
    (g : Nat) (hx : a.eval x = .pointer (some ⟨g, 0, none⟩)) (cs : List Value) (d : TypeDesc) (hg : ∀ i v, cs[i]? = some v → w.cell? ⟨g, i, none⟩ = some v)
    (hu : P.underlying ty = some d) (hd : (match d with | .struct _ | .array _ _ => true | _ => false) = true) (hi : (P.info? ty).map (·.size) = some cs.length)
    (h : wpList P ops Q rest (a.put o.dst (.agg cs.toArray)) w) : wpList P ops Q (o :: rest) a w := by
  have hl : (loadCells ⟨g, 0, none⟩ cs.length).run P w = .ok cs.toArray w :=
    run_loadCells_list (P := P) w ⟨g, 0, none⟩ cs (fun j v hv => by
      have hadd : (⟨g, 0, none⟩ : Addr).add j = ⟨g, j, none⟩ := by unfold Addr.add; split <;> simp_all
      rw [hadd]; exact hg j v hv)
  have hv : (loadVar ty ⟨g, 0, none⟩).run P w = .ok (.agg cs.toArray) w := by
    cases hq : P.info? ty with
    | none => simp [hq] at hi
    | some i =>
      have hs : i.size = cs.length := by simpa [hq] using hi
      have hagg : (isAgg ty).run P w = .ok true w := by
        unfold isAgg
        rw [Sem.run_bind, run_underlying hu w]
        cases d <;> simp_all
      simp [loadVar, Sem.run_bind, hagg, sizeOf, typeInfo, hq, hs, hl]
  refine wpList_plain hgd fun _ hK => ?_
  unfold Go.Oper.wp execOp
  simp only [ho, hx, Instr.loadAt, Instr.sureAddr, Sem.run_bind, Sem.run_pure, Result.andThen_ok, hv]
  exact hK _ _ h
theorem Opers.get {w : World} (h : Opers w) : ∀ i v, operCells[i]? = some v → w.cell? ⟨2, i, none⟩ = some v := fun i v hv => by
  have hi : i < 50 := (List.getElem?_eq_some_iff.1 hv).1
  rw [h.1 i hi]; exact hv
theorem idx0 (w : World) : (Instr.index 193 (.agg operCells.toArray) (.int .i64 0)).run Tryz.prog w = .ok (.agg #[.string ⟨#[124, 124]⟩, .int .i64 17, .int .i64 1, .int .i64 1, .int .i64 2]) w := by kernel_rfl
theorem idx1 (w : World) : (Instr.index 193 (.agg operCells.toArray) (.int .i64 1)).run Tryz.prog w = .ok (.agg #[.string ⟨#[38, 38]⟩, .int .i64 16, .int .i64 2, .int .i64 2, .int .i64 3]) w := by kernel_rfl
theorem idx2 (w : World) : (Instr.index 193 (.agg operCells.toArray) (.int .i64 2)).run Tryz.prog w = .ok (.agg #[.string ⟨#[61, 61]⟩, .int .i64 10, .int .i64 4, .int .i64 5, .int .i64 5]) w := by kernel_rfl
theorem idx3 (w : World) : (Instr.index 193 (.agg operCells.toArray) (.int .i64 3)).run Tryz.prog w = .ok (.agg #[.string ⟨#[33, 61]⟩, .int .i64 11, .int .i64 4, .int .i64 5, .int .i64 5]) w := by kernel_rfl
theorem idx4 (w : World) : (Instr.index 193 (.agg operCells.toArray) (.int .i64 4)).run Tryz.prog w = .ok (.agg #[.string ⟨#[60]⟩, .int .i64 12, .int .i64 4, .int .i64 5, .int .i64 5]) w := by kernel_rfl
theorem idx5 (w : World) : (Instr.index 193 (.agg operCells.toArray) (.int .i64 5)).run Tryz.prog w = .ok (.agg #[.string ⟨#[60, 61]⟩, .int .i64 13, .int .i64 4, .int .i64 5, .int .i64 5]) w := by kernel_rfl
theorem idx6 (w : World) : (Instr.index 193 (.agg operCells.toArray) (.int .i64 6)).run Tryz.prog w = .ok (.agg #[.string ⟨#[62]⟩, .int .i64 14, .int .i64 4, .int .i64 5, .int .i64 5]) w := by kernel_rfl
theorem idx7 (w : World) : (Instr.index 193 (.agg operCells.toArray) (.int .i64 7)).run Tryz.prog w = .ok (.agg #[.string ⟨#[62, 61]⟩, .int .i64 15, .int .i64 4, .int .i64 5, .int .i64 5]) w := by kernel_rfl
theorem idx8 (w : World) : (Instr.index 193 (.agg operCells.toArray) (.int .i64 8)).run Tryz.prog w = .ok (.agg #[.string ⟨#[43]⟩, .int .i64 8, .int .i64 5, .int .i64 5, .int .i64 6]) w := by kernel_rfl
theorem idx9 (w : World) : (Instr.index 193 (.agg operCells.toArray) (.int .i64 9)).run Tryz.prog w = .ok (.agg #[.string ⟨#[45]⟩, .int .i64 9, .int .i64 5, .int .i64 5, .int .i64 6]) w := by kernel_rfl
theorem idx_any (k : Nat) (h : k < opTab.length) (w : World) : (Instr.index 193 (.agg operCells.toArray) (.int .i64 (k : Int))).run Tryz.prog w = .ok (.agg #[.string opTab[k].1, .int .i64 opTab[k].2.op, .int .i64 (opTab[k].2.own : Int), .int .i64 (opTab[k].2.first : Int), .int .i64 (opTab[k].2.second : Int)]) w := by
  match k, h with
  | 0, _ => exact idx0 w
  | 1, _ => exact idx1 w
  | 2, _ => exact idx2 w
  | 3, _ => exact idx3 w
  | 4, _ => exact idx4 w
  | 5, _ => exact idx5 w
  | 6, _ => exact idx6 w
  | 7, _ => exact idx7 w
  | 8, _ => exact idx8 w
  | 9, _ => exact idx9 w
  | k + 10, h => exact absurd h (by show ¬ k + 10 < 10; omega)
/-- None of the first k signs. -/
def noOp (t : ByteArray) (k : Nat) : Bool := (opTab.take k).all fun o => !(o.1.toList == t.toList)
theorem noOp_snoc (t : ByteArray) (k : Nat) (h : k < opTab.length) : noOp t (k + 1) = (noOp t k && !(opTab[k].1.toList == t.toList)) := by
  unfold noOp
  rw [List.take_succ_eq_append_getElem h, List.all_append]
  simp
theorem operOf_hit (t : Out) (k : Nat) (h : k < opTab.length) (h1 : noOp t.text k = true) (h2 : (opTab[k].1.toList == t.text.toList) = true) : operOf t = opTab[k].2 := by
  have h' : k < 10 := h
  have : k = 0 ∨ k = 1 ∨ k = 2 ∨ k = 3 ∨ k = 4 ∨ k = 5 ∨ k = 6 ∨ k = 7 ∨ k = 8 ∨ k = 9 := by omega
  rcases this with rfl | rfl | rfl | rfl | rfl | rfl | rfl | rfl | rfl | rfl <;>
    simp only [noOp, opTab, List.take_succ_cons, List.take_zero, List.all_cons, List.all_nil, Bool.and_true, Bool.and_eq_true, Bool.not_eq_true', List.getElem_cons_zero, List.getElem_cons_succ] at h1 h2 <;>
    simp only [operOf, is, toList_swap t.text, h1, h2, opTab, List.getElem_cons_zero, List.getElem_cons_succ, Bool.false_eq_true, if_true, if_false]
theorem operOf_none (t : Out) (h1 : noOp t.text 10 = true) : operOf t = ⟨0, 0, 0, 0⟩ := by
  simp only [noOp, opTab, List.take_succ_cons, List.take_zero, List.all_cons, List.all_nil, Bool.and_true, Bool.and_eq_true, Bool.not_eq_true'] at h1
  simp only [operOf, is, toList_swap t.text, h1, Bool.false_eq_true, if_false]
set_option maxRecDepth 100000 in
set_option maxHeartbeats 2000000 in
theorem operatorOf_any (t : Out) (w : World) (h : Opers w) :
    Calls Tryz.prog 109 #[.agg #[.int .i64 t.kind, .string t.text, .int .i64 t.n, .int .i64 (t.pos : Int)]] w fun r w' => (∃ sg, r = .returned (.agg #[.string sg, .int .i64 (operOf t).op, .int .i64 ((operOf t).own : Int), .int .i64 ((operOf t).first : Int), .int .i64 ((operOf t).second : Int)])) ∧ Below w.heap.size w w' := by
  obtain ⟨tk, tt, tn, tp, te⟩ := t
  have hO := (h.al (.cells #[.int .i64 tk, .string tt, .int .i64 tn, .int .i64 (tp : Int)] 57)).al (.cells #[.string ⟨#[]⟩, .int .i64 0, .int .i64 0, .int .i64 0, .int .i64 0] 162)
  have hOg := hO.get
  clear hO
  have bT := bel_box (newB w #[.int .i64 tk, .string tt, .int .i64 tn, .int .i64 (tp : Int)] 57) (bel_al _ (.cells #[.string ⟨#[]⟩, .int .i64 0, .int .i64 0, .int .i64 0, .int .i64 0] 162))
  have bR := newB (w.alloc (.cells #[.int .i64 tk, .string tt, .int .i64 tn, .int .i64 (tp : Int)] 57)) #[.string ⟨#[]⟩, .int .i64 0, .int .i64 0, .int .i64 0, .int .i64 0] 162
  have b0 : Below w.heap.size w ((w.alloc (.cells #[.int .i64 tk, .string tt, .int .i64 tn, .int .i64 (tp : Int)] 57)).alloc (.cells #[.string ⟨#[]⟩, .int .i64 0, .int .i64 0, .int .i64 0, .int .i64 0] 162)) := ((Below.refl _ w).alloc (Nat.le_refl _) _).alloc (by simp) _
  have IX := hid idx_any
  go_enter Tryz.func109, Tryz.ntmps109
  obtain ⟨V, hV⟩ : ∃ V, Value.agg operCells.toArray = V := ⟨_, rfl⟩
  have IX2 : Hid (∀ (k : Nat) (h : k < opTab.length) (w : World), (Instr.index 193 V (.int .i64 (k : Int))).run Tryz.prog w = .ok (.agg #[.string opTab[k].1, .int .i64 opTab[k].2.op, .int .i64 (opTab[k].2.own : Int), .int .i64 (opTab[k].2.first : Int), .int .i64 (opTab[k].2.second : Int)]) w) := by
    rw [← hV]; exact IX.out
  clear IX
  go_wp2_with (refine wpList_load_cells rfl 193 _ rfl 2 rfl operCells _ hOg Tryz.underlying193 rfl (by kernel_rfl) ?_; rw [hV])
  clear hV hOg
  obtain ⟨W0, hW0⟩ : ∃ W0, (w.alloc (.cells #[.int .i64 tk, .string tt, .int .i64 tn, .int .i64 (tp : Int)] 57)).alloc (.cells #[.string ⟨#[]⟩, .int .i64 0, .int .i64 0, .int .i64 0, .int .i64 0] 162) = W0 := ⟨_, rfl⟩
  simp only [World.size_alloc] at bR
  rw [hW0] at bT bR b0 ⊢
  clear hW0
  go_loopw [6] (fun i wr => ∃ k : Nat, k ≤ 10 ∧ i = .int .i64 (k : Int) ∧ noOp tt k = true ∧ Below W0.heap.size W0 wr) (fun i _ => 10 - (intOf i).toNat)
  case atStart => exact ⟨0, by omega, rfl, rfl, Below.refl _ _⟩
  case round =>
    obtain ⟨k, hk, rfl, hno, hB⟩ := hrel
    have hz := hB.size
    have hlR := ltB bR
    have HN := hid hno
    clear hno
    have bT1 := bel_box bT hB
    have bR1 := bel_box bR hB
    obtain ⟨x0, x1, x2, x3, xf, xl⟩ := four bT1
    have y0 : wr.cell? ⟨w.heap.size + 1, 0, none⟩ = some (.string ⟨#[]⟩) := by rw [cellB bR1]; rfl
    have y1 : wr.cell? ⟨w.heap.size + 1, 1, none⟩ = some (.int .i64 0) := by rw [cellB bR1]; rfl
    have y2 : wr.cell? ⟨w.heap.size + 1, 2, none⟩ = some (.int .i64 0) := by rw [cellB bR1]; rfl
    have y3 : wr.cell? ⟨w.heap.size + 1, 3, none⟩ = some (.int .i64 0) := by rw [cellB bR1]; rfl
    have y4 : wr.cell? ⟨w.heap.size + 1, 4, none⟩ = some (.int .i64 0) := by rw [cellB bR1]; rfl
    have yf := frozB bR1
    have yl := ltB bR1
    by_cases hlt : k < 10
    · have hlt' : k < opTab.length := hlt
      have ix := IX2.out k hlt'
      have HS := hid (noOp_snoc tt k hlt')
      have HH := hid (operOf_hit ⟨tk, tt, tn, tp, te⟩ k hlt')
      obtain ⟨op, hop⟩ : ∃ op, opTab[k] = op := ⟨_, rfl⟩
      rw [hop] at ix HS HH
      obtain ⟨sg, oo, ow, of, os⟩ := op
      clear hop
      cases he : (sg.toList == tt.toList)
      · go_wp2
        go_roundw
        case rel => exact ⟨k + 1, by omega, by go_num, by rw [HS.out, HN.out, he]; rfl, hB.al (Nat.le_refl _) _⟩
        case measure => simp [intOf]; omega
      · have HR := hid (HH.out HN.out he)
        go_wp2
        refine bodyPost_ret (v := .agg #[.string sg, .int .i64 oo, .int .i64 (ow : Int), .int .i64 (of : Int), .int .i64 (os : Int)]) ?_ rfl ⟨⟨sg, ?_⟩, ?_⟩
        · simp [results, Tryz.results109, go_sem, y0, y1, y2, y3, y4, yl]
        · rw [HR.out]
        · refine b0.trans ?_
          refine Below.alloc ?_ (by simp; omega) _
          repeat (refine Below.setCell ?_ (by simp) _)
          exact hB.mono b0.size
    · have hk10 : k = 10 := by omega
      have HR : Hid (operOf ⟨tk, tt, tn, tp, te⟩ = ⟨0, 0, 0, 0⟩) := operOf_none _ (by have := HN.out; rw [hk10] at this; exact this)
      clear hk10
      go_wp2
      refine bodyPost_ret (v := .agg #[.string ⟨#[]⟩, .int .i64 0, .int .i64 0, .int .i64 0, .int .i64 0]) ?_ rfl ⟨⟨⟨#[]⟩, ?_⟩, ?_⟩
      · simp [results, Tryz.results109, go_sem, y0, y1, y2, y3, y4]
      · rw [HR.out]; rfl
      · repeat (refine Below.setCell ?_ (by simp) _)
        exact b0.trans (hB.mono b0.size)
end Go.Proofs.YtaekbgljbgmchaaGreatDoor
