/-
  The document's Scope, and OwnScopes: its walk.
-/
import Derived.Test.YtfkabkbnfeiggaaDoorWP
import Derived.Test.YtfkabkbnfeiggaaDoorNxLs
import Derived.Deep.DeepCutAuto
namespace Go.Proofs.YtfkabkbnfeiggaaDoor
open Go.RowKit
def Ex.op : Ex → Int
  | .mk op _ _ _ _ _ _ _ => op
def Ex.mn : Ex → ByteArray
  | .mk _ m _ _ _ _ _ _ => m
def Ex.at : Ex → Int
  | .mk _ _ _ _ _ _ _ pos => pos
mutual
/-- The variables of an expression, from the left. -/
def Ex.vs : Ex → List Ex
  | .mk op mon name n ad cap kids pos => (if op = 4 then [.mk op mon name n ad cap kids pos] else []) ++ Ex.vsL kids
def Ex.vsL : List Ex → List Ex
  | [] => []
  | e :: l => e.vs ++ Ex.vsL l
end
theorem Ex.vs_mk (op : Int) (mon name : ByteArray) (n : Int) (ad : Option Addr) (cap : Nat) (kids : List Ex) (pos : Int) : (Ex.mk op mon name n ad cap kids pos).vs = (if op = 4 then [.mk op mon name n ad cap kids pos] else []) ++ Ex.vsL kids := by rw [Ex.vs]
theorem Ex.vsL_eq (l : List Ex) : Ex.vsL l = l.flatMap Ex.vs := by
  induction l with
  | nil => simp [Ex.vsL]
  | cons a l ih => simp [Ex.vsL, ih]
theorem Ex.vsL_snoc (l : List Ex) (k : Nat) (h : k < l.length) : Ex.vsL (l.take (k + 1)) = Ex.vsL (l.take k) ++ l[k].vs := by
  rw [Ex.vsL_eq, Ex.vsL_eq]; exact flatMap_snoc _ l k h
mutual
theorem Ex.vs_len : ∀ e : Ex, e.vs.length ≤ e.subs.length
  | .mk op mon name n ad cap kids pos => by
    rw [Ex.vs_mk, Ex.subs_mk, List.length_append, List.length_cons]
    have := Ex.vsL_len kids
    split <;> simp <;> omega
theorem Ex.vsL_len : ∀ l : List Ex, (Ex.vsL l).length ≤ (Ex.subsL l).length
  | [] => by simp [Ex.vsL]
  | e :: l => by
    rw [Ex.vsL, Ex.subsL, List.length_append, List.length_append]
    have := Ex.vs_len e
    have := Ex.vsL_len l
    omega
end
theorem Ex.vsL_le (l : List Ex) (k : Nat) : (Ex.vsL (l.take k)).length ≤ (Ex.vsL l).length := by
  conv => rhs; rw [← List.take_append_drop k l]
  rw [Ex.vsL_eq, Ex.vsL_eq, List.flatMap_append, List.length_append]
  omega
mutual
theorem Ex.fv_vs (g : ByteArray → Bool) : ∀ e : Ex, e.fv g = (e.vs.find? (fun x => g x.mn)).map Ex.at
  | .mk op mon name n ad cap kids pos => by
    rw [Ex.fv_mk, Ex.vs_mk, List.find?_append, Ex.fvL_vs g kids]
    by_cases h4 : op = 4
    · cases hg : g mon
      · simp [h4, hg, Ex.mn]
      · simp [h4, hg, Ex.mn, Ex.at]
    · simp [h4]
theorem Ex.fvL_vs (g : ByteArray → Bool) : ∀ l : List Ex, Ex.fvL g l = ((Ex.vsL l).find? (fun x => g x.mn)).map Ex.at
  | [] => by simp [Ex.fvL, Ex.vsL]
  | e :: l => by
    rw [Ex.fvL, Ex.vsL, List.find?_append, Ex.fv_vs g e, Ex.fvL_vs g l]
    cases e.vs.find? (fun x => g x.mn) <;> rfl
end
theorem Ex.len1 (e : Ex) : e.cells.length = 6 := by rcases e with ⟨a, b, c, d, e, f, g, h⟩; rfl
theorem Ex.one1 (e : Ex) : ∀ u ∈ e.cells, u.oneCell' = true := by
  intro u hu
  rcases e with ⟨a, b, c, d, e, f, g, h⟩
  simp only [Ex.cells, List.mem_cons, List.not_mem_nil, or_false] at hu
  rcases hu with rfl | rfl | rfl | rfl | rfl | rfl <;> rfl
theorem infoEx : (Tryd.prog.info? 37).map (fun i => (i.zero, i.size, i.bytes)) = some (some (.agg #[.int .i64 0, .string ⟨#[]⟩, .string ⟨#[]⟩, .int .i64 0, .slice none 0 0, .int .i64 0]), 6, 80) := by kernel_rfl
set_option maxRecDepth 100000 in
set_option maxHeartbeats 4000000 in
theorem has_any (l : List ByteArray) (ad : Option Addr) (cap n₀ : Nat) (s : ByteArray) (w : World) (hn : n₀ ≤ w.heap.size) (hsl : SlAt 1 ncells n₀ w ad cap l) :
    Calls Tryd.prog 27 #[.slice ad l.length cap, .string s] w fun r w' => r = .returned (.bool (ownF l s)) ∧ w' = w := by
  have hl1 := hsl.1; have hl2 := hsl.2.1
  unfold maxLen at hl2
  obtain ⟨ro, hro⟩ : ∃ ro, ownF l s = ro := ⟨_, rfl⟩
  rw [hro]
  have HRO := hid hro
  clear hro
  go_enter Tryd.func27, Tryd.ntmps27
  go_wp2
  go_loopw [5] (fun i wr => ∃ j : Nat, j ≤ l.length ∧ i = .int .i64 j ∧ Hid (ownF (l.take j) s = false) ∧ Hid (wr = w))
    (fun i _ => l.length - (intOf i).toNat)
  case atStart => exact ⟨0, by omega, rfl, rfl, rfl⟩
  case round =>
    obtain ⟨j, hj, rfl, HJ, HW⟩ := hrel
    obtain rfl : w = wr := HW.out.symm
    by_cases hlt : j < l.length
    · rcases hsl.2.2 with h | ⟨kb, koff, rfl, hbn, hrow⟩
      · subst h; simp at hlt
      have hkb : kb < w.heap.size := by omega
      have c0 := hrow j hlt 0 (by omega)
      have hsn : ownF (l.take (j + 1)) s = decide (l[j] = s) := by
        rw [List.take_succ_eq_append_getElem hlt, ownF_append, HJ.out]
        simp [ownF]
      have hin : l[j] = s → ownF l s = true := fun e => ownF_iff.2 (by rw [← e]; exact List.getElem_mem hlt)
      obtain ⟨y, hy⟩ : ∃ y, l[j] = y := ⟨_, rfl⟩
      simp only [ncells, hy, Nat.mul_one, Nat.add_zero, List.getElem?_cons_zero] at c0
      rw [hy] at hsn hin
      have HSN := hid hsn
      have HIN := hid hin
      clear hy hsn hin
      by_cases he : y = s
      · subst he
        have hrt : ro = true := HRO.out.symm.trans (HIN.out rfl)
        subst hrt
        clear HIN HSN
        go_wp2
        go_ret
        exact ⟨rfl, rfl⟩
      · have q1 := toList_ne he
        have q2 : (y.toList == s.toList) = false := by rw [beq_eq_false_iff_ne]; exact q1
        have HS2 : Hid (ownF (l.take (j + 1)) s = false) := by
          show _ = _
          rw [HSN.out]; simp [he]
        clear he HIN HSN
        go_wp2
        go_roundw
        case rel => exact ⟨j + 1, by omega, by go_num, HS2, by show True; trivial⟩
        case measure => simp [intOf]; omega
    · have hjd : decide ((j : Int) < (l.length : Int)) = false := by simp; omega
      have hje : l.take j = l := List.take_of_length_le (by omega)
      rw [hje] at HJ
      have hrt : ro = false := HRO.out.symm.trans HJ.out
      subst hrt
      go_wp2
      go_ret
      exact ⟨rfl, rfl⟩
def VarsBack (l : List Ex) (w : World) (r : Ending) (w' : World) : Prop := ∃ ad cap, r = .returned (.slice ad l.length cap) ∧ SlAt 6 Ex.cells w'.heap.size w' ad cap l ∧ Below w.heap.size w w'
theorem sl_ex (w : World) (e : Ex) : SlAt 6 Ex.cells (w.alloc (.cells e.cells.toArray 37)).heap.size (w.alloc (.cells e.cells.toArray 37)) (some ⟨w.heap.size, 0, none⟩) 1 [e] := by
  refine ⟨by simp, by unfold maxLen; omega, .inr ⟨w.heap.size, 0, rfl, by simp, fun j hj i hi => ?_⟩⟩
  obtain rfl : j = 0 := by simpa using hj
  rw [cellOf (heapNew w _)]
  simp
set_option maxRecDepth 100000 in
set_option maxHeartbeats 8000000 in
theorem vars_any (e : Ex) : ∀ (n₀ : Nat) (w : World), n₀ ≤ w.heap.size → e.Is n₀ w → e.subs.length ≤ 1000000 → Calls Tryd.prog 28 #[e.val] w fun r w' => VarsBack e.vs w r w' := by
  obtain ⟨i0, hi0, iz0, iz1, iz2⟩ := info_parts infoEx
  induction e using Ex.ind with
  | h op mon name n ad cap kids pos ih =>
  intro n₀ w hn hI hsz
  have HV := hid (Ex.vs_mk op mon name n ad cap kids pos)
  have hvl := Ex.vs_len (.mk op mon name n ad cap kids pos)
  have hsub : ∀ (j : Nat) (h : j < kids.length), kids[j].subs.length ≤ 1000000 := fun j h => by
    have := subs_at Ex.subs kids j h
    rw [Ex.subs_mk, List.length_cons, Ex.subsL_eq] at hsz
    omega
  have hIk := hI.down.2.2
  have hsl := hI.down.2.1
  have hl1 := hsl.1; have hl2 := hsl.2.1
  unfold maxLen at hl2
  rw [HV.out, List.length_append] at hvl
  have HSE := hid (fun (W : World) => sl_ex W (.mk op mon name n ad cap kids pos))
  simp only [Ex.val, Ex.cells] at HSE ⊢
  go_enter Tryd.func28, Tryd.ntmps28
  go_upto_region 2 with fail
  obtain ⟨bX, hB, hz⟩ := one_box w #[.int .i64 op, .string mon, .string name, .int .i64 n, .slice ad kids.length cap, .int .i64 pos] 37
  obtain ⟨W0, hW0⟩ : ∃ W0, w.alloc (.cells #[.int .i64 op, .string mon, .string name, .int .i64 n, .slice ad kids.length cap, .int .i64 pos] 37) = W0 := ⟨_, rfl⟩
  rw [hW0] at bX hB hz ⊢
  clear hW0
  have HZ := hid hz
  have s0 := cellOf bX 0
  have s1 := cellOf bX 1
  have s2 := cellOf bX 2
  have s3 := cellOf bX 3
  have s4 := cellOf bX 4
  have s5 := cellOf bX 5
  simp at s0 s1 s2 s3 s4 s5
  clear hz
  by_cases h4 : op = 4
  · subst h4
    rw [if_pos rfl] at HV hvl
    simp only [List.length_cons, List.length_nil] at hvl
    go_upto_region 3 with fail
    obtain ⟨v0, hv0⟩ : ∃ v0, Value.slice none 0 0 = v0 := ⟨_, rfl⟩
    have hown0 : (W0.alloc (.cells #[.int .i64 4, .string mon, .string name, .int .i64 n, .slice ad kids.length cap, .int .i64 pos] 37)).ownsRow W0.heap.size 37 6 v0 ([] : List Ex).length (([] : List Ex).flatMap Ex.cells) := by rw [← hv0]; exact World.ownsRow_nil _ _ _ _
    rw [hv0]
    clear hv0
    have hBa : Below W0.heap.size W0 (W0.alloc (.cells #[.int .i64 4, .string mon, .string name, .int .i64 n, .slice ad kids.length cap, .int .i64 pos] 37)) := (Below.refl _ _).al le_rfl' _
    go_upto_region 4 with (at_builtin; refine wpList_append_sl (cells := Ex.cells) rfl _ _ 35 rfl W0.heap.size 37 i0 _ 6 80 Tryd.underlying35 hi0 iz0 iz1 iz2 rfl (by decide) Ex.len1 Ex.one1 _ [] rfl hown0 (some ⟨W0.heap.size, 0, none⟩) 1 [.mk 4 mon name n ad cap kids pos] _ rfl (HSE.out W0) (by unfold maxLen; simp) (by simp) hBa.size ?_; intro v1 w1 hown1 hg1 hnn1)
    rw [List.nil_append] at hown1
    have K1 := owns_grown_below hBa hown0 hg1 hBa.size
    have bX1 := (K1.block w.heap.size (by have := HZ.out; omega)).trans bX
    clear s0 s1 s2 s3 s4 s5 hg1 hnn1 hown0 bX
    obtain ⟨E0, hE0⟩ : ∃ E0, [Ex.mk 4 mon name n ad cap kids pos] = E0 := ⟨_, rfl⟩
    have hE1 : E0.length = 1 := by rw [← hE0]; rfl
    rw [hE0] at HV hown1
    clear hE0 HSE
    go_wp2
    go_loopw [3, 4] (fun v i wr => ∃ j : Nat, j ≤ kids.length ∧ i = .int .i64 j ∧ wr.ownsRow W0.heap.size 37 6 v (E0 ++ Ex.vsL (kids.take j)).length ((E0 ++ Ex.vsL (kids.take j)).flatMap Ex.cells) ∧ Below W0.heap.size W0 wr)
      (fun _ i _ => kids.length - (intOf i).toNat)
    case atStart => exact ⟨0, by omega, rfl, by simpa [Ex.vsL] using hown1, K1⟩
    case round =>
      obtain ⟨j, hj, rfl, hown, hbw⟩ := hrel
      have hz1 := hbw.size
      have hbF : Below w.heap.size w wr := hB.trans (hbw.mono (by have := HZ.out; omega))
      have hzw := hbF.size
      have hb0 : Below n₀ w wr := hbF.mono hn
      have bXr := (hbw.block w.heap.size (by have := HZ.out; omega)).trans ((K1.block w.heap.size (by have := HZ.out; omega)).symm.trans bX1)
      have t4 := cellOf bXr 4
      simp at t4
      by_cases hlt : j < kids.length
      · rcases hsl.2.2 with h | ⟨kb, koff, rfl, hbn, hrow⟩
        · subst h; simp at hlt
        have hbn2 : kb < wr.heap.size := by omega
        have HS := hid (Ex.vsL_snoc kids j hlt)
        have hle := Ex.vsL_le kids (j + 1)
        rw [HS.out, List.length_append] at hle
        have hrj := hrow.below hb0 hbn
        have hq := ih _ (List.getElem_mem hlt) n₀ wr (by omega) ((hIk _ (List.getElem_mem hlt)).below hb0) (hsub j hlt)
        obtain ⟨u, hu⟩ : ∃ u, kids[j].vs = u := ⟨_, rfl⟩
        rw [hu] at hq HS hle
        rcases he' : kids[j] with ⟨op', mon', name', n', ad', cp', kids', pos'⟩
        obtain ⟨c0, c1, c2, c3, c4, c5⟩ := row6 hrj j hlt (by rw [he']; rfl)
        simp only [he', Ex.val, Ex.cells, VarsBack] at hq
        obtain ⟨L0, hL0⟩ : ∃ L0, E0 ++ Ex.vsL (kids.take j) = L0 := ⟨_, rfl⟩
        have HL : Hid (E0 ++ Ex.vsL (kids.take (j + 1)) = L0 ++ u) := by show _ = _; rw [HS.out, ← List.append_assoc, hL0]
        have hLl : L0.length + u.length ≤ 1000000 := by rw [← hL0, List.length_append]; omega
        rw [hL0] at hown
        clear hu he' ih hL0 HS hsub
        go_wp2_with (first
          | (go_at_call 28; (with_reducible refine hq.mono ?_); rintro r w2 ⟨vad, vcap, rfl, hvs, bb2⟩; have hown2 := ownsRow_below hown bb2)
          | (at_builtin; refine wpList_append_sl (cells := Ex.cells) rfl _ _ 35 rfl W0.heap.size 37 i0 _ 6 80 Tryd.underlying35 hi0 iz0 iz1 iz2 rfl (by decide) Ex.len1 Ex.one1 _ L0 rfl hown2 vad vcap u _ rfl hvs (by unfold maxLen; omega) (by omega) (by have := bb2.size; omega) ?_; intro v3 w3 hown3 hg3 hnn3))
        go_roundw
        case rel => exact ⟨j + 1, by omega, by go_num, by rw [HL.out]; exact hown3, owns_grown_below (hbw.tr le_rfl' bb2) hown2 hg3 (by have := bb2.size; omega)⟩
        case measure => simp [intOf]; omega
      · have hjd : decide ((j : Int) < (kids.length : Int)) = false := by simp; omega
        have hje : kids.take j = kids := List.take_of_length_le (by omega)
        rw [hje] at hown
        obtain ⟨rad, rcap, rfl, hslr⟩ := slOwn Ex.len1 hown
        go_wp2
        go_ret
        refine ⟨rad, rcap, by rw [HV.out]; rfl, by rw [HV.out]; exact hslr, hbF⟩
  · have h4b : (op == 4) = false := by rw [beq_eq_false_iff_ne]; exact h4
    rw [if_neg h4, List.nil_append] at HV
    rw [if_neg h4] at hvl
    simp only [List.length_nil] at hvl
    clear h4
    go_upto_region 4 with fail
    have K1 : Below W0.heap.size W0 W0 := Below.refl _ _
    have bX1 := bX
    have hown1 : W0.ownsRow W0.heap.size 37 6 (.slice none 0 0) ([] : List Ex).length (([] : List Ex).flatMap Ex.cells) := World.ownsRow_nil _ _ _ _
    clear s0 s1 s2 s3 s4 s5 bX
    go_wp2
    go_loopw [3, 4] (fun v i wr => ∃ j : Nat, j ≤ kids.length ∧ i = .int .i64 j ∧ wr.ownsRow W0.heap.size 37 6 v (Ex.vsL (kids.take j)).length ((Ex.vsL (kids.take j)).flatMap Ex.cells) ∧ Below W0.heap.size W0 wr)
      (fun _ i _ => kids.length - (intOf i).toNat)
    case atStart => exact ⟨0, by omega, rfl, by simpa [Ex.vsL] using hown1, K1⟩
    case round =>
      obtain ⟨j, hj, rfl, hown, hbw⟩ := hrel
      have hz1 := hbw.size
      have hbF : Below w.heap.size w wr := hB.trans (hbw.mono (by have := HZ.out; omega))
      have hzw := hbF.size
      have hb0 : Below n₀ w wr := hbF.mono hn
      have bXr := (hbw.block w.heap.size (by have := HZ.out; omega)).trans ((K1.block w.heap.size (by have := HZ.out; omega)).symm.trans bX1)
      have t4 := cellOf bXr 4
      simp at t4
      by_cases hlt : j < kids.length
      · rcases hsl.2.2 with h | ⟨kb, koff, rfl, hbn, hrow⟩
        · subst h; simp at hlt
        have hbn2 : kb < wr.heap.size := by omega
        have HS := hid (Ex.vsL_snoc kids j hlt)
        have hle := Ex.vsL_le kids (j + 1)
        rw [HS.out, List.length_append] at hle
        have hrj := hrow.below hb0 hbn
        have hq := ih _ (List.getElem_mem hlt) n₀ wr (by omega) ((hIk _ (List.getElem_mem hlt)).below hb0) (hsub j hlt)
        obtain ⟨u, hu⟩ : ∃ u, kids[j].vs = u := ⟨_, rfl⟩
        rw [hu] at hq HS hle
        rcases he' : kids[j] with ⟨op', mon', name', n', ad', cp', kids', pos'⟩
        obtain ⟨c0, c1, c2, c3, c4, c5⟩ := row6 hrj j hlt (by rw [he']; rfl)
        simp only [he', Ex.val, Ex.cells, VarsBack] at hq
        obtain ⟨L0, hL0⟩ : ∃ L0, Ex.vsL (kids.take j) = L0 := ⟨_, rfl⟩
        have HL : Hid (Ex.vsL (kids.take (j + 1)) = L0 ++ u) := by show _ = _; rw [HS.out, hL0]
        have hLl : L0.length + u.length ≤ 1000000 := by rw [← hL0]; omega
        rw [hL0] at hown
        clear hu he' ih hL0 HS hsub
        go_wp2_with (first
          | (go_at_call 28; (with_reducible refine hq.mono ?_); rintro r w2 ⟨vad, vcap, rfl, hvs, bb2⟩; have hown2 := ownsRow_below hown bb2)
          | (at_builtin; refine wpList_append_sl (cells := Ex.cells) rfl _ _ 35 rfl W0.heap.size 37 i0 _ 6 80 Tryd.underlying35 hi0 iz0 iz1 iz2 rfl (by decide) Ex.len1 Ex.one1 _ L0 rfl hown2 vad vcap u _ rfl hvs (by unfold maxLen; omega) (by omega) (by have := bb2.size; omega) ?_; intro v3 w3 hown3 hg3 hnn3))
        go_roundw
        case rel => exact ⟨j + 1, by omega, by go_num, by rw [HL.out]; exact hown3, owns_grown_below (hbw.tr le_rfl' bb2) hown2 hg3 (by have := bb2.size; omega)⟩
        case measure => simp [intOf]; omega
      · have hjd : decide ((j : Int) < (kids.length : Int)) = false := by simp; omega
        have hje : kids.take j = kids := List.take_of_length_le (by omega)
        rw [hje] at hown
        obtain ⟨rad, rcap, rfl, hslr⟩ := slOwn Ex.len1 hown
        go_wp2
        go_ret
        refine ⟨rad, rcap, by rw [HV.out]; rfl, by rw [HV.out]; exact hslr, hbF⟩
end Go.Proofs.YtfkabkbnfeiggaaDoor
namespace Go.Proofs.YtfkabkbnfeiggaaDoor
open Go.RowKit
theorem find_snoc {α : Type} (p : α → Bool) (l : List α) (j : Nat) (h : j < l.length) (h0 : (l.take j).find? p = none) (h1 : p l[j] = false) : (l.take (j + 1)).find? p = none := by
  rw [List.take_succ_eq_append_getElem h, List.find?_append, h0]
  simp [h1]
theorem find_cut {α : Type} (p : α → Bool) (l : List α) (j : Nat) (h : j < l.length) (h0 : (l.take j).find? p = none) (h1 : p l[j] = true) : l.find? p = some l[j] := by
  have h2 : l = l.take (j + 1) ++ l.drop (j + 1) := (List.take_append_drop _ _).symm
  conv => lhs; rw [h2]
  rw [List.find?_append, List.take_succ_eq_append_getElem h, List.find?_append, h0]
  simp [h1]
theorem wts_has (l : List St) (j : Nat) (h : j < l.length) (h9 : l[j].kd = 9) : l[j].mn ∈ wts l := by
  unfold wts
  exact List.mem_map.2 ⟨l[j], List.mem_filter.2 ⟨List.getElem_mem h, by simp [h9]⟩, rfl⟩
set_option maxRecDepth 100000 in
set_option maxHeartbeats 40000000 in
theorem one_any (kind : Int) (mon name : ByteArray) (n : Int) (e : Ex) (ad : Option Addr) (cap : Nat) (blocks : List Bl) (pos : Int) (l : List ByteArray) (oad : Option Addr) (ocap n₀ n₁ : Nat) (w : World) (hn : n₀ ≤ w.heap.size) (hn1' : n₁ ≤ w.heap.size) (hI : (St.mk kind mon name n e ad cap blocks pos).Is n₀ w) (hl : SlAt 1 ncells n₁ w oad ocap l) (hsz : e.subs.length ≤ 1000000) :
    Calls Tryd.prog 19 #[(St.mk kind mon name n e ad cap blocks pos).val, .slice oad l.length ocap] w fun r w' => ScBack (oneE (ownF l) kind mon e blocks pos) w r w' := by
  have HO : Hid (oneE (ownF l) kind mon e blocks pos = if needs kind = true ∧ ownF l mon = false then ((90 : Int), pos) else match e.fv (fun m => !ownF l m) with
      | some k => ((90 : Int), k)
      | none => match imp kind e blocks with
        | some k => ((91 : Int), k)
        | none => ((0 : Int), (0 : Int))) := rfl
  have HF1 := hid (Ex.fv_vs (fun m => !ownF l m) e)
  have HI2 : Hid (imp kind e blocks = if kind = 3 ∨ kind = 4 then (e.vs.find? (fun x => (wtsL blocks).any (dif x.mn))).map Ex.at else none) := by
    show _ = _
    rw [imp, Ex.fv_vs]; rfl
  have hh := fun (s : ByteArray) (W : World) (hW : Below w.heap.size w W) => has_any l oad ocap n₁ s W (by have := hW.size; omega) (hl.below (hW.mono hn1'))
  have hv0 := fun (W : World) (hW : Below w.heap.size w W) => vars_any e n₀ W (by have := hW.size; omega) (hI.down.2.1.below (hW.mono hn)) hsz
  have hIk := hI.down.2.2.2
  have hsl := hI.down.2.2.1
  have hl1 := hsl.1; have hl2 := hsl.2.1
  unfold maxLen at hl2
  obtain ⟨vs, hvsE⟩ : ∃ vs, e.vs = vs := ⟨_, rfl⟩
  obtain ⟨fm, hfm⟩ : ∃ fm, ownF l mon = fm := ⟨_, rfl⟩
  have hmm := fun (W : World) (hW : Below w.heap.size w W) => hh mon W hW
  obtain ⟨p1, hp1⟩ : ∃ p1 : Ex → Bool, (fun x : Ex => !ownF l x.mn) = p1 := ⟨_, rfl⟩
  obtain ⟨p2, hp2⟩ : ∃ p2 : Ex → Bool, (fun x : Ex => (wtsL blocks).any (dif x.mn)) = p2 := ⟨_, rfl⟩
  have HP1 : Hid (∀ x, p1 x = !ownF l x.mn) := fun x => by rw [← hp1]
  have HP2 : Hid (∀ x, p2 x = (wtsL blocks).any (dif x.mn)) := fun x => by rw [← hp2]
  have HF1 : Hid (e.fv (fun m => !ownF l m) = (e.vs.find? p1).map Ex.at) := by show _ = _; rw [← hp1]; exact HF1.out
  rw [hp2] at HI2
  clear hp1 hp2
  rw [hvsE] at HF1 HI2
  simp only [hvsE, VarsBack] at hv0
  rw [hfm] at HO
  rcases e with ⟨eop, emon, ename, en, ead, ecap, ekids, epos⟩
  simp only [St.val, St.cells, Ex.val, Ex.cells, List.cons_append, List.nil_append] at hv0 ⊢
  have hhm : ∀ W, Below w.heap.size w W → Calls Tryd.prog 27 #[.slice oad l.length ocap, .string mon] W fun r w' => r = .returned (.bool fm) ∧ w' = W := fun W hW => by rw [← hfm]; exact hh mon W hW
  clear hvsE hfm hmm hI hsz
  by_cases e2 : kind = 2
  · subst e2
    rw [show needs 2 = true from rfl] at HO
    rw [if_neg (by decide)] at HI2
    go_enter Tryd.func19, Tryd.ntmps19
    go_upto_region 1 with fail
    obtain ⟨bS, hB, hz⟩ := one_box w #[.int .i64 2, .string mon, .string name, .int .i64 n, .int .i64 eop, .string emon, .string ename, .int .i64 en, .slice ead ekids.length ecap, .int .i64 epos, .slice ad blocks.length cap, .int .i64 pos] 39
    obtain ⟨W0, hW0⟩ : ∃ W0, w.alloc (.cells #[.int .i64 2, .string mon, .string name, .int .i64 n, .int .i64 eop, .string emon, .string ename, .int .i64 en, .slice ead ekids.length ecap, .int .i64 epos, .slice ad blocks.length cap, .int .i64 pos] 39) = W0 := ⟨_, rfl⟩
    rw [hW0] at bS hB hz ⊢
    clear hW0
    have HZ := hid hz
    obtain ⟨s0, s1, s2, s3, s4, s5, s6, s7, s8, s9, s10, s11⟩ := cells12 bS
    have hv := hv0 W0 hB
    have hn1 := hhm W0 hB
    clear hz hv0
    cases fm
    · rw [if_pos ⟨rfl, rfl⟩] at HO
      go_wp2_with (go_at_call 27; (with_reducible refine hn1.mono ?_); rintro rr ww ⟨rfl, hw'⟩; have hw2 := hw'.symm; subst hw2)
      go_quiet (fail)
      go_wp2
      go_ret2
      exact ⟨by rw [HO.out]; rfl, below_drewN hB _⟩
    · rw [if_neg (by simp)] at HO
      go_upto_region 4 with (first
        | (go_at_call 28; (with_reducible refine hv.mono ?_); rintro r u1 ⟨vad, vcap, rfl, hvs, bb1⟩)
        | (go_at_call 27; (with_reducible refine hn1.mono ?_); rintro rr ww ⟨rfl, hw'⟩; have hw2 := hw'.symm; subst hw2))
      have Bu := hB.tr le_rfl' bb1
      have bS1 := (bb1.block w.heap.size (by have := HZ.out; omega)).trans bS
      have hvl1 := hvs.1; have hvl2 := hvs.2.1
      unfold maxLen at hvl2
      clear s0 s1 s2 s3 s4 s5 s6 s7 s8 s9 s10 s11 hv
      go_wp2
      go_loopw [7] (fun i wr => ∃ j : Nat, j ≤ vs.length ∧ i = .int .i64 j ∧ Hid ((vs.take j).find? p1 = none) ∧ Below u1.heap.size u1 wr)
        (fun i _ => vs.length - (intOf i).toNat)
      case atStart => exact ⟨0, by omega, rfl, rfl, Below.refl _ _⟩
      case round =>
        obtain ⟨j, hj, rfl, HJ, hbw⟩ := hrel
        have Bw := Bu.tr le_rfl' hbw
        by_cases hlt : j < vs.length
        · rcases hvs.2.2 with h | ⟨vb, voff, rfl, hvn, hvrow⟩
          · rw [h] at hlt; simp at hlt
          have hvw : vb < wr.heap.size := by have := hbw.size; omega
          have hrj := hvrow.below hbw hvn
          have HS := hid (find_snoc p1 vs j hlt HJ.out)
          have HC := hid (find_cut p1 vs j hlt HJ.out)
          rcases he' : vs[j] with ⟨op', mon', name', n', ad', cp', kids', pos'⟩
          obtain ⟨c0, c1, c2, c3, c4, c5⟩ := row6 hrj j hlt (by rw [he']; rfl)
          have hp : p1 (Ex.mk op' mon' name' n' ad' cp' kids' pos') = !ownF l mon' := HP1.out _
          rw [he', hp] at HS HC
          clear he' c0 c2 c3 c4 hp
          have hq := hh mon' wr Bw
          obtain ⟨fo, hfo⟩ : ∃ fo, ownF l mon' = fo := ⟨_, rfl⟩
          rw [hfo] at hq HS HC
          clear hfo
          cases fo
          · go_wp2_with (go_at_call 27; (with_reducible refine hq.mono ?_); rintro rr ww ⟨rfl, hw'⟩; have hw2 := hw'.symm; subst hw2)
            go_quiet (fail)
            go_wp2
            go_ret2
            exact ⟨by rw [HO.out, HF1.out, HC.out (by trivial)]; rfl, below_drewN Bw _⟩
          · go_wp2_with (go_at_call 27; (with_reducible refine hq.mono ?_); rintro rr ww ⟨rfl, hw'⟩; have hw2 := hw'.symm; subst hw2)
            go_roundw
            case rel => exact ⟨j + 1, by omega, by go_num, HS.out (by trivial), hbw⟩
            case measure => simp [intOf]; omega
        · have hjd : decide ((j : Int) < (vs.length : Int)) = false := by simp; omega
          have hje : vs.take j = vs := List.take_of_length_le (by omega)
          rw [hje] at HJ
          have bSw := (hbw.block w.heap.size (by have := HZ.out; have := bb1.size; omega)).trans bS1
          have z0 := cellOf bSw 0
          simp at z0
          go_wp2
          go_ret2
          exact ⟨by rw [HO.out, HF1.out, HJ.out, HI2.out]; rfl, Bw⟩
  have q2 : (kind == 2) = false := by rw [beq_eq_false_iff_ne]; exact e2
  by_cases e9 : kind = 9
  · subst e9
    rw [show needs 9 = true from rfl] at HO
    rw [if_neg (by decide)] at HI2
    go_enter Tryd.func19, Tryd.ntmps19
    go_upto_region 1 with fail
    obtain ⟨bS, hB, hz⟩ := one_box w #[.int .i64 9, .string mon, .string name, .int .i64 n, .int .i64 eop, .string emon, .string ename, .int .i64 en, .slice ead ekids.length ecap, .int .i64 epos, .slice ad blocks.length cap, .int .i64 pos] 39
    obtain ⟨W0, hW0⟩ : ∃ W0, w.alloc (.cells #[.int .i64 9, .string mon, .string name, .int .i64 n, .int .i64 eop, .string emon, .string ename, .int .i64 en, .slice ead ekids.length ecap, .int .i64 epos, .slice ad blocks.length cap, .int .i64 pos] 39) = W0 := ⟨_, rfl⟩
    rw [hW0] at bS hB hz ⊢
    clear hW0
    have HZ := hid hz
    obtain ⟨s0, s1, s2, s3, s4, s5, s6, s7, s8, s9, s10, s11⟩ := cells12 bS
    have hv := hv0 W0 hB
    have hn1 := hhm W0 hB
    clear hz hv0
    cases fm
    · rw [if_pos ⟨rfl, rfl⟩] at HO
      go_wp2_with (go_at_call 27; (with_reducible refine hn1.mono ?_); rintro rr ww ⟨rfl, hw'⟩; have hw2 := hw'.symm; subst hw2)
      go_quiet (fail)
      go_wp2
      go_ret2
      exact ⟨by rw [HO.out]; rfl, below_drewN hB _⟩
    · rw [if_neg (by simp)] at HO
      go_upto_region 4 with (first
        | (go_at_call 28; (with_reducible refine hv.mono ?_); rintro r u1 ⟨vad, vcap, rfl, hvs, bb1⟩)
        | (go_at_call 27; (with_reducible refine hn1.mono ?_); rintro rr ww ⟨rfl, hw'⟩; have hw2 := hw'.symm; subst hw2))
      have Bu := hB.tr le_rfl' bb1
      have bS1 := (bb1.block w.heap.size (by have := HZ.out; omega)).trans bS
      have hvl1 := hvs.1; have hvl2 := hvs.2.1
      unfold maxLen at hvl2
      clear s0 s1 s2 s3 s4 s5 s6 s7 s8 s9 s10 s11 hv
      go_wp2
      go_loopw [7] (fun i wr => ∃ j : Nat, j ≤ vs.length ∧ i = .int .i64 j ∧ Hid ((vs.take j).find? p1 = none) ∧ Below u1.heap.size u1 wr)
        (fun i _ => vs.length - (intOf i).toNat)
      case atStart => exact ⟨0, by omega, rfl, rfl, Below.refl _ _⟩
      case round =>
        obtain ⟨j, hj, rfl, HJ, hbw⟩ := hrel
        have Bw := Bu.tr le_rfl' hbw
        by_cases hlt : j < vs.length
        · rcases hvs.2.2 with h | ⟨vb, voff, rfl, hvn, hvrow⟩
          · rw [h] at hlt; simp at hlt
          have hvw : vb < wr.heap.size := by have := hbw.size; omega
          have hrj := hvrow.below hbw hvn
          have HS := hid (find_snoc p1 vs j hlt HJ.out)
          have HC := hid (find_cut p1 vs j hlt HJ.out)
          rcases he' : vs[j] with ⟨op', mon', name', n', ad', cp', kids', pos'⟩
          obtain ⟨c0, c1, c2, c3, c4, c5⟩ := row6 hrj j hlt (by rw [he']; rfl)
          have hp : p1 (Ex.mk op' mon' name' n' ad' cp' kids' pos') = !ownF l mon' := HP1.out _
          rw [he', hp] at HS HC
          clear he' c0 c2 c3 c4 hp
          have hq := hh mon' wr Bw
          obtain ⟨fo, hfo⟩ : ∃ fo, ownF l mon' = fo := ⟨_, rfl⟩
          rw [hfo] at hq HS HC
          clear hfo
          cases fo
          · go_wp2_with (go_at_call 27; (with_reducible refine hq.mono ?_); rintro rr ww ⟨rfl, hw'⟩; have hw2 := hw'.symm; subst hw2)
            go_quiet (fail)
            go_wp2
            go_ret2
            exact ⟨by rw [HO.out, HF1.out, HC.out (by trivial)]; rfl, below_drewN Bw _⟩
          · go_wp2_with (go_at_call 27; (with_reducible refine hq.mono ?_); rintro rr ww ⟨rfl, hw'⟩; have hw2 := hw'.symm; subst hw2)
            go_roundw
            case rel => exact ⟨j + 1, by omega, by go_num, HS.out (by trivial), hbw⟩
            case measure => simp [intOf]; omega
        · have hjd : decide ((j : Int) < (vs.length : Int)) = false := by simp; omega
          have hje : vs.take j = vs := List.take_of_length_le (by omega)
          rw [hje] at HJ
          have bSw := (hbw.block w.heap.size (by have := HZ.out; have := bb1.size; omega)).trans bS1
          have z0 := cellOf bSw 0
          simp at z0
          go_wp2
          go_ret2
          exact ⟨by rw [HO.out, HF1.out, HJ.out, HI2.out]; rfl, Bw⟩
  have q9 : (kind == 9) = false := by rw [beq_eq_false_iff_ne]; exact e9
  by_cases e10 : kind = 10
  · subst e10
    rw [show needs 10 = true from rfl] at HO
    rw [if_neg (by decide)] at HI2
    go_enter Tryd.func19, Tryd.ntmps19
    go_upto_region 1 with fail
    obtain ⟨bS, hB, hz⟩ := one_box w #[.int .i64 10, .string mon, .string name, .int .i64 n, .int .i64 eop, .string emon, .string ename, .int .i64 en, .slice ead ekids.length ecap, .int .i64 epos, .slice ad blocks.length cap, .int .i64 pos] 39
    obtain ⟨W0, hW0⟩ : ∃ W0, w.alloc (.cells #[.int .i64 10, .string mon, .string name, .int .i64 n, .int .i64 eop, .string emon, .string ename, .int .i64 en, .slice ead ekids.length ecap, .int .i64 epos, .slice ad blocks.length cap, .int .i64 pos] 39) = W0 := ⟨_, rfl⟩
    rw [hW0] at bS hB hz ⊢
    clear hW0
    have HZ := hid hz
    obtain ⟨s0, s1, s2, s3, s4, s5, s6, s7, s8, s9, s10, s11⟩ := cells12 bS
    have hv := hv0 W0 hB
    have hn1 := hhm W0 hB
    clear hz hv0
    cases fm
    · rw [if_pos ⟨rfl, rfl⟩] at HO
      go_wp2_with (go_at_call 27; (with_reducible refine hn1.mono ?_); rintro rr ww ⟨rfl, hw'⟩; have hw2 := hw'.symm; subst hw2)
      go_quiet (fail)
      go_wp2
      go_ret2
      exact ⟨by rw [HO.out]; rfl, below_drewN hB _⟩
    · rw [if_neg (by simp)] at HO
      go_upto_region 4 with (first
        | (go_at_call 28; (with_reducible refine hv.mono ?_); rintro r u1 ⟨vad, vcap, rfl, hvs, bb1⟩)
        | (go_at_call 27; (with_reducible refine hn1.mono ?_); rintro rr ww ⟨rfl, hw'⟩; have hw2 := hw'.symm; subst hw2))
      have Bu := hB.tr le_rfl' bb1
      have bS1 := (bb1.block w.heap.size (by have := HZ.out; omega)).trans bS
      have hvl1 := hvs.1; have hvl2 := hvs.2.1
      unfold maxLen at hvl2
      clear s0 s1 s2 s3 s4 s5 s6 s7 s8 s9 s10 s11 hv
      go_wp2
      go_loopw [7] (fun i wr => ∃ j : Nat, j ≤ vs.length ∧ i = .int .i64 j ∧ Hid ((vs.take j).find? p1 = none) ∧ Below u1.heap.size u1 wr)
        (fun i _ => vs.length - (intOf i).toNat)
      case atStart => exact ⟨0, by omega, rfl, rfl, Below.refl _ _⟩
      case round =>
        obtain ⟨j, hj, rfl, HJ, hbw⟩ := hrel
        have Bw := Bu.tr le_rfl' hbw
        by_cases hlt : j < vs.length
        · rcases hvs.2.2 with h | ⟨vb, voff, rfl, hvn, hvrow⟩
          · rw [h] at hlt; simp at hlt
          have hvw : vb < wr.heap.size := by have := hbw.size; omega
          have hrj := hvrow.below hbw hvn
          have HS := hid (find_snoc p1 vs j hlt HJ.out)
          have HC := hid (find_cut p1 vs j hlt HJ.out)
          rcases he' : vs[j] with ⟨op', mon', name', n', ad', cp', kids', pos'⟩
          obtain ⟨c0, c1, c2, c3, c4, c5⟩ := row6 hrj j hlt (by rw [he']; rfl)
          have hp : p1 (Ex.mk op' mon' name' n' ad' cp' kids' pos') = !ownF l mon' := HP1.out _
          rw [he', hp] at HS HC
          clear he' c0 c2 c3 c4 hp
          have hq := hh mon' wr Bw
          obtain ⟨fo, hfo⟩ : ∃ fo, ownF l mon' = fo := ⟨_, rfl⟩
          rw [hfo] at hq HS HC
          clear hfo
          cases fo
          · go_wp2_with (go_at_call 27; (with_reducible refine hq.mono ?_); rintro rr ww ⟨rfl, hw'⟩; have hw2 := hw'.symm; subst hw2)
            go_quiet (fail)
            go_wp2
            go_ret2
            exact ⟨by rw [HO.out, HF1.out, HC.out (by trivial)]; rfl, below_drewN Bw _⟩
          · go_wp2_with (go_at_call 27; (with_reducible refine hq.mono ?_); rintro rr ww ⟨rfl, hw'⟩; have hw2 := hw'.symm; subst hw2)
            go_roundw
            case rel => exact ⟨j + 1, by omega, by go_num, HS.out (by trivial), hbw⟩
            case measure => simp [intOf]; omega
        · have hjd : decide ((j : Int) < (vs.length : Int)) = false := by simp; omega
          have hje : vs.take j = vs := List.take_of_length_le (by omega)
          rw [hje] at HJ
          have bSw := (hbw.block w.heap.size (by have := HZ.out; have := bb1.size; omega)).trans bS1
          have z0 := cellOf bSw 0
          simp at z0
          go_wp2
          go_ret2
          exact ⟨by rw [HO.out, HF1.out, HJ.out, HI2.out]; rfl, Bw⟩
  have q10 : (kind == 10) = false := by rw [beq_eq_false_iff_ne]; exact e10
  by_cases e11 : kind = 11
  · subst e11
    rw [show needs 11 = true from rfl] at HO
    rw [if_neg (by decide)] at HI2
    go_enter Tryd.func19, Tryd.ntmps19
    go_upto_region 1 with fail
    obtain ⟨bS, hB, hz⟩ := one_box w #[.int .i64 11, .string mon, .string name, .int .i64 n, .int .i64 eop, .string emon, .string ename, .int .i64 en, .slice ead ekids.length ecap, .int .i64 epos, .slice ad blocks.length cap, .int .i64 pos] 39
    obtain ⟨W0, hW0⟩ : ∃ W0, w.alloc (.cells #[.int .i64 11, .string mon, .string name, .int .i64 n, .int .i64 eop, .string emon, .string ename, .int .i64 en, .slice ead ekids.length ecap, .int .i64 epos, .slice ad blocks.length cap, .int .i64 pos] 39) = W0 := ⟨_, rfl⟩
    rw [hW0] at bS hB hz ⊢
    clear hW0
    have HZ := hid hz
    obtain ⟨s0, s1, s2, s3, s4, s5, s6, s7, s8, s9, s10, s11⟩ := cells12 bS
    have hv := hv0 W0 hB
    have hn1 := hhm W0 hB
    clear hz hv0
    cases fm
    · rw [if_pos ⟨rfl, rfl⟩] at HO
      go_wp2_with (go_at_call 27; (with_reducible refine hn1.mono ?_); rintro rr ww ⟨rfl, hw'⟩; have hw2 := hw'.symm; subst hw2)
      go_quiet (fail)
      go_wp2
      go_ret2
      exact ⟨by rw [HO.out]; rfl, below_drewN hB _⟩
    · rw [if_neg (by simp)] at HO
      go_upto_region 4 with (first
        | (go_at_call 28; (with_reducible refine hv.mono ?_); rintro r u1 ⟨vad, vcap, rfl, hvs, bb1⟩)
        | (go_at_call 27; (with_reducible refine hn1.mono ?_); rintro rr ww ⟨rfl, hw'⟩; have hw2 := hw'.symm; subst hw2))
      have Bu := hB.tr le_rfl' bb1
      have bS1 := (bb1.block w.heap.size (by have := HZ.out; omega)).trans bS
      have hvl1 := hvs.1; have hvl2 := hvs.2.1
      unfold maxLen at hvl2
      clear s0 s1 s2 s3 s4 s5 s6 s7 s8 s9 s10 s11 hv
      go_wp2
      go_loopw [7] (fun i wr => ∃ j : Nat, j ≤ vs.length ∧ i = .int .i64 j ∧ Hid ((vs.take j).find? p1 = none) ∧ Below u1.heap.size u1 wr)
        (fun i _ => vs.length - (intOf i).toNat)
      case atStart => exact ⟨0, by omega, rfl, rfl, Below.refl _ _⟩
      case round =>
        obtain ⟨j, hj, rfl, HJ, hbw⟩ := hrel
        have Bw := Bu.tr le_rfl' hbw
        by_cases hlt : j < vs.length
        · rcases hvs.2.2 with h | ⟨vb, voff, rfl, hvn, hvrow⟩
          · rw [h] at hlt; simp at hlt
          have hvw : vb < wr.heap.size := by have := hbw.size; omega
          have hrj := hvrow.below hbw hvn
          have HS := hid (find_snoc p1 vs j hlt HJ.out)
          have HC := hid (find_cut p1 vs j hlt HJ.out)
          rcases he' : vs[j] with ⟨op', mon', name', n', ad', cp', kids', pos'⟩
          obtain ⟨c0, c1, c2, c3, c4, c5⟩ := row6 hrj j hlt (by rw [he']; rfl)
          have hp : p1 (Ex.mk op' mon' name' n' ad' cp' kids' pos') = !ownF l mon' := HP1.out _
          rw [he', hp] at HS HC
          clear he' c0 c2 c3 c4 hp
          have hq := hh mon' wr Bw
          obtain ⟨fo, hfo⟩ : ∃ fo, ownF l mon' = fo := ⟨_, rfl⟩
          rw [hfo] at hq HS HC
          clear hfo
          cases fo
          · go_wp2_with (go_at_call 27; (with_reducible refine hq.mono ?_); rintro rr ww ⟨rfl, hw'⟩; have hw2 := hw'.symm; subst hw2)
            go_quiet (fail)
            go_wp2
            go_ret2
            exact ⟨by rw [HO.out, HF1.out, HC.out (by trivial)]; rfl, below_drewN Bw _⟩
          · go_wp2_with (go_at_call 27; (with_reducible refine hq.mono ?_); rintro rr ww ⟨rfl, hw'⟩; have hw2 := hw'.symm; subst hw2)
            go_roundw
            case rel => exact ⟨j + 1, by omega, by go_num, HS.out (by trivial), hbw⟩
            case measure => simp [intOf]; omega
        · have hjd : decide ((j : Int) < (vs.length : Int)) = false := by simp; omega
          have hje : vs.take j = vs := List.take_of_length_le (by omega)
          rw [hje] at HJ
          have bSw := (hbw.block w.heap.size (by have := HZ.out; have := bb1.size; omega)).trans bS1
          have z0 := cellOf bSw 0
          simp at z0
          go_wp2
          go_ret2
          exact ⟨by rw [HO.out, HF1.out, HJ.out, HI2.out]; rfl, Bw⟩
  have q11 : (kind == 11) = false := by rw [beq_eq_false_iff_ne]; exact e11
  have hnd : needs kind = false := by rw [needs, q2, q9, q10, q11]; rfl
  rw [hnd, if_neg (by simp)] at HO
  clear hnd
  by_cases e3 : kind = 3
  · subst e3
    rw [if_pos (by decide)] at HI2
    clear e2 e9 e10 e11
    go_enter Tryd.func19, Tryd.ntmps19
    go_upto_region 1 with fail
    obtain ⟨bS, hB, hz⟩ := one_box w #[.int .i64 3, .string mon, .string name, .int .i64 n, .int .i64 eop, .string emon, .string ename, .int .i64 en, .slice ead ekids.length ecap, .int .i64 epos, .slice ad blocks.length cap, .int .i64 pos] 39
    obtain ⟨W0, hW0⟩ : ∃ W0, w.alloc (.cells #[.int .i64 3, .string mon, .string name, .int .i64 n, .int .i64 eop, .string emon, .string ename, .int .i64 en, .slice ead ekids.length ecap, .int .i64 epos, .slice ad blocks.length cap, .int .i64 pos] 39) = W0 := ⟨_, rfl⟩
    rw [hW0] at bS hB hz ⊢
    clear hW0
    have HZ := hid hz
    obtain ⟨s0, s1, s2, s3, s4, s5, s6, s7, s8, s9, s10, s11⟩ := cells12 bS
    have hv := hv0 W0 hB
    have hn1 := hhm W0 hB
    clear hz hv0
    go_upto_region 4 with (first
      | (go_at_call 28; (with_reducible refine hv.mono ?_); rintro r u1 ⟨vad, vcap, rfl, hvs, bb1⟩))
    have Bu := hB.tr le_rfl' bb1
    have bS1 := (bb1.block w.heap.size (by have := HZ.out; omega)).trans bS
    have hvl1 := hvs.1; have hvl2 := hvs.2.1
    unfold maxLen at hvl2
    clear s0 s1 s2 s3 s4 s5 s6 s7 s8 s9 s10 s11 hv
    go_wp2
    go_loopw [7] (fun i wr => ∃ j : Nat, j ≤ vs.length ∧ i = .int .i64 j ∧ Hid ((vs.take j).find? p1 = none) ∧ Below u1.heap.size u1 wr)
      (fun i _ => vs.length - (intOf i).toNat)
    case atStart => exact ⟨0, by omega, rfl, rfl, Below.refl _ _⟩
    case round =>
      obtain ⟨j, hj, rfl, HJ, hbw⟩ := hrel
      have Bw := Bu.tr le_rfl' hbw
      by_cases hlt : j < vs.length
      · rcases hvs.2.2 with h | ⟨vb, voff, rfl, hvn, hvrow⟩
        · rw [h] at hlt; simp at hlt
        have hvw : vb < wr.heap.size := by have := hbw.size; omega
        have hrj := hvrow.below hbw hvn
        have HS := hid (find_snoc p1 vs j hlt HJ.out)
        have HC := hid (find_cut p1 vs j hlt HJ.out)
        rcases he' : vs[j] with ⟨op', mon', name', n', ad', cp', kids', pos'⟩
        obtain ⟨c0, c1, c2, c3, c4, c5⟩ := row6 hrj j hlt (by rw [he']; rfl)
        have hp : p1 (Ex.mk op' mon' name' n' ad' cp' kids' pos') = !ownF l mon' := HP1.out _
        rw [he', hp] at HS HC
        clear he' c0 c2 c3 c4 hp
        have hq := hh mon' wr Bw
        obtain ⟨fo, hfo⟩ : ∃ fo, ownF l mon' = fo := ⟨_, rfl⟩
        rw [hfo] at hq HS HC
        clear hfo
        cases fo
        · go_wp2_with (go_at_call 27; (with_reducible refine hq.mono ?_); rintro rr ww ⟨rfl, hw'⟩; have hw2 := hw'.symm; subst hw2)
          go_quiet (fail)
          go_wp2
          go_ret2
          exact ⟨by rw [HO.out, HF1.out, HC.out (by trivial)]; rfl, below_drewN Bw _⟩
        · go_wp2_with (go_at_call 27; (with_reducible refine hq.mono ?_); rintro rr ww ⟨rfl, hw'⟩; have hw2 := hw'.symm; subst hw2)
          go_roundw
          case rel => exact ⟨j + 1, by omega, by go_num, HS.out (by trivial), hbw⟩
          case measure => simp [intOf]; omega
      · have hjd : decide ((j : Int) < (vs.length : Int)) = false := by simp; omega
        have hje : vs.take j = vs := List.take_of_length_le (by omega)
        rw [hje] at HJ
        have bSw := (hbw.block w.heap.size (by have := HZ.out; have := bb1.size; omega)).trans bS1
        have z0 := cellOf bSw 0
        simp at z0
        obtain ⟨wq, hwq⟩ : ∃ wq : World, wq = wr := ⟨_, rfl⟩
        subst hwq
        go_wp2
        clear z0
        have HBX : Hid (∀ W, Below u1.heap.size u1 W → W.cell? ⟨w.heap.size, 10, none⟩ = some (.slice ad blocks.length cap)) := fun W hW => by
          have hb := (hW.block w.heap.size (by have := HZ.out; have := bb1.size; omega)).trans bS1
          rw [cellOf hb]; rfl
        go_loopw [8] (fun i wr => ∃ j : Nat, j ≤ vs.length ∧ i = .int .i64 j ∧ Hid ((vs.take j).find? p2 = none) ∧ Below u1.heap.size u1 wr)
          (fun i _ => vs.length - (intOf i).toNat)
        case atStart => exact ⟨0, by omega, rfl, rfl, hbw⟩
        case round =>
          obtain ⟨i, hi, rfl, HI, hb2⟩ := hrel
          by_cases hlt2 : i < vs.length
          · rcases hvs.2.2 with h | ⟨vb, voff, rfl, hvn, hvrow⟩
            · rw [h] at hlt2; simp at hlt2
            have HS := hid (find_snoc p2 vs i hlt2 HI.out)
            have HC := hid (find_cut p2 vs i hlt2 HI.out)
            rcases he' : vs[i] with ⟨op', mi, name', n', ad', cp', kids', pi⟩
            obtain ⟨-, c1, -, -, -, c5⟩ := row6 hvrow i hlt2 (by rw [he']; rfl)
            have hp : p2 (Ex.mk op' mi name' n' ad' cp' kids' pi) = (wtsL blocks).any (dif mi) := HP2.out _
            rw [he', hp] at HS HC
            clear he' hp
            have HX : Hid (∀ W, Below u1.heap.size u1 W → vb < W.heap.size ∧ W.cell? ⟨vb, voff + i * 6 + 1, none⟩ = some (.string mi) ∧ W.cell? ⟨vb, voff + i * 6 + 5, none⟩ = some (.int .i64 pi)) := fun W hW => ⟨by have := hW.size; omega, (hW.cell (p := ⟨vb, _, none⟩) hvn).trans c1, (hW.cell (p := ⟨vb, _, none⟩) hvn).trans c5⟩
            clear c1 c5
            obtain ⟨wp, hwp⟩ : ∃ wp : World, wp = wr := ⟨_, rfl⟩
            subst hwp
            go_wp2
            go_loopw [9] (fun i wr => ∃ k : Nat, k ≤ blocks.length ∧ i = .int .i64 k ∧ Hid ((wtsL (blocks.take k)).any (dif mi) = false) ∧ Below u1.heap.size u1 wr)
              (fun i _ => blocks.length - (intOf i).toNat)
            case atStart => exact ⟨0, by omega, rfl, rfl, hb2⟩
            case round =>
              obtain ⟨k, hk, rfl, HK, hb3⟩ := hrel
              have Bw3 := Bu.tr le_rfl' hb3
              have y10 := HBX.out wr hb3
              by_cases hlk : k < blocks.length
              · rcases hsl.2.2 with h | ⟨bb, boff, rfl, hbn, hbrow⟩
                · rw [h] at hlk; simp at hlk
                have HKS : Hid (wtsL (blocks.take (k + 1)) = wtsL (blocks.take k) ++ wts blocks[k].body) := wtsL_snoc blocks k hlk
                have HKM : Hid (∀ x, x ∈ wts blocks[k].body → x ∈ wtsL blocks) := fun x hx => List.mem_flatMap.2 ⟨blocks[k], List.getElem_mem hlk, hx⟩
                have hIb := hIk _ (List.getElem_mem hlk)
                have e0 := hbrow k hlk 0 (by omega)
                rcases he2 : blocks[k] with ⟨bad, bcap, bbody⟩
                rw [he2] at hIb HKS HKM
                simp only [he2, Bl.cells, Bl.slice, Nat.mul_one, Nat.add_zero, List.getElem?_cons_zero] at e0
                simp only [Bl.body] at HKS HKM
                have hsb := hIb.down.1
                have hsb1 := hsb.1; have hsb2 := hsb.2.1
                unfold maxLen at hsb2
                have HE : Hid (∀ W, Below w.heap.size w W → bb < W.heap.size ∧ W.cell? ⟨bb, boff + k, none⟩ = some (.slice bad bbody.length bcap)) := fun W hW => ⟨by have := hW.size; omega, ((hW.mono hn).cell (p := ⟨bb, _, none⟩) hbn).trans e0⟩
                clear he2 e0 hIb
                obtain ⟨wo, hwo⟩ : ∃ wo : World, wo = wr := ⟨_, rfl⟩
                subst hwo
                go_wp2
                clear y10
                go_loopw [10] (fun i wr => ∃ m : Nat, m ≤ bbody.length ∧ i = .int .i64 m ∧ Hid ((wts (bbody.take m)).any (dif mi) = false) ∧ Below u1.heap.size u1 wr)
                  (fun i _ => bbody.length - (intOf i).toNat)
                case atStart => exact ⟨0, by omega, rfl, rfl, hb3⟩
                case round =>
                  obtain ⟨m, hm, rfl, HM, hb4⟩ := hrel
                  have Bw4 := Bu.tr le_rfl' hb4
                  have y10 := HBX.out wr hb4
                  obtain ⟨x0, x1, x5⟩ := HX.out wr hb4
                  obtain ⟨e1, e0⟩ := HE.out wr Bw4
                  by_cases hlm : m < bbody.length
                  · rcases hsb.2.2 with h | ⟨qb, qoff, rfl, hqn, hqrow⟩
                    · rw [h] at hlm; simp at hlm
                    have hqw : qb < wr.heap.size := by have := Bw4.size; omega
                    have HMM : Hid (bbody[m].kd = 9 → bbody[m].mn ∈ wtsL blocks) := fun h9 => HKM.out _ (wts_has bbody m hlm h9)
                    have hrj := hqrow.below (Bw4.mono hn) hqn
                    rcases he3 : bbody[m] with ⟨kind', mon', name', n', ⟨eop', emon', ename', en', ead', ecap', ekids', epos'⟩, sad', scap', blocks', pos'⟩
                    obtain ⟨d0, d1, -, -, -, -, -, -, -, -, -, -⟩ := row12 hrj m hlm (by rw [he3]; rfl)
                    have HMS : Hid (wts (bbody.take (m + 1)) = wts (bbody.take m) ++ if kind' = 9 then [mon'] else []) := by show _ = _; rw [wts_snoc bbody m hlm, he3]; rfl
                    rw [he3] at HMM
                    simp only [St.kd, St.mn] at HMM
                    clear he3 hrj
                    by_cases h9 : kind' = 9
                    · subst h9
                      by_cases hme : mon' = mi
                      · subst hme
                        have HM2 : Hid ((wts (bbody.take (m + 1))).any (dif mon') = false) := by
                          show _ = _
                          rw [HMS.out, if_pos rfl, List.any_append, HM.out]; simp [dif]
                        clear HMM HMS
                        go_wp2_with fail
                        go_quiet (fail)
                        go_wp2
                        go_roundw
                        case rel => exact ⟨m + 1, by omega, by go_num, HM2, below_drewN hb4 _⟩
                        case measure => simp [intOf]; omega
                      · have q1 := toList_ne hme
                        have q2 : (mon'.toList == mi.toList) = false := by rw [beq_eq_false_iff_ne]; exact q1
                        have q3 : (mon'.toList != mi.toList) = true := by rw [bne, q2]; rfl
                        have HHIT : Hid ((wtsL blocks).any (dif mi) = true) := List.any_eq_true.2 ⟨mon', HMM.out rfl, by simp [dif, hme]⟩
                        clear HMM HMS hme
                        go_wp2_with fail
                        go_quiet (fail)
                        go_wp2_with fail
                        go_quiet (fail)
                        go_wp2
                        go_ret2
                        exact ⟨by rw [HO.out, HF1.out, HJ.out, HI2.out, HC.out HHIT.out]; rfl, below_drewN (below_drewN Bw4 _) _⟩
                    · have h9b : (kind' == 9) = false := by rw [beq_eq_false_iff_ne]; exact h9
                      have HM2 : Hid ((wts (bbody.take (m + 1))).any (dif mi) = false) := by
                        show _ = _
                        rw [HMS.out, if_neg h9, List.append_nil]; exact HM.out
                      clear HMM HMS h9
                      go_wp2_with fail
                      go_quiet (fail)
                      go_wp2
                      go_roundw
                      case rel => exact ⟨m + 1, by omega, by go_num, HM2, below_drewN hb4 _⟩
                      case measure => simp [intOf]; omega
                  · have hmd : decide ((m : Int) < (bbody.length : Int)) = false := by simp; omega
                    have hme : bbody.take m = bbody := List.take_of_length_le (by omega)
                    rw [hme] at HM
                    have HK2 : Hid ((wtsL (blocks.take (k + 1))).any (dif mi) = false) := by
                      show _ = _
                      rw [HKS.out, List.any_append, HK.out, HM.out]; rfl
                    go_wp2
                    go_roundw
                    case rel => exact ⟨k + 1, by omega, by go_num, HK2, hb4⟩
                    case measure => simp [intOf]; omega
              · have hkd : decide ((k : Int) < (blocks.length : Int)) = false := by simp; omega
                have hke : blocks.take k = blocks := List.take_of_length_le (by omega)
                rw [hke] at HK
                go_wp2
                go_roundw
                case rel => exact ⟨i + 1, by omega, by go_num, HS.out HK.out, hb3⟩
                case measure => simp [intOf]; omega
          · have hid' : decide ((i : Int) < (vs.length : Int)) = false := by simp; omega
            have hie : vs.take i = vs := List.take_of_length_le (by omega)
            rw [hie] at HI
            go_wp2
            go_ret2
            exact ⟨by rw [HO.out, HF1.out, HJ.out, HI2.out, HI.out]; rfl, Bu.tr le_rfl' hb2⟩
  have q3 : (kind == 3) = false := by rw [beq_eq_false_iff_ne]; exact e3
  have q3b : (kind != 3) = true := by rw [bne, q3]; rfl
  by_cases e4 : kind = 4
  · subst e4
    rw [if_pos (by decide)] at HI2
    clear e2 e9 e10 e11
    go_enter Tryd.func19, Tryd.ntmps19
    go_upto_region 1 with fail
    obtain ⟨bS, hB, hz⟩ := one_box w #[.int .i64 4, .string mon, .string name, .int .i64 n, .int .i64 eop, .string emon, .string ename, .int .i64 en, .slice ead ekids.length ecap, .int .i64 epos, .slice ad blocks.length cap, .int .i64 pos] 39
    obtain ⟨W0, hW0⟩ : ∃ W0, w.alloc (.cells #[.int .i64 4, .string mon, .string name, .int .i64 n, .int .i64 eop, .string emon, .string ename, .int .i64 en, .slice ead ekids.length ecap, .int .i64 epos, .slice ad blocks.length cap, .int .i64 pos] 39) = W0 := ⟨_, rfl⟩
    rw [hW0] at bS hB hz ⊢
    clear hW0
    have HZ := hid hz
    obtain ⟨s0, s1, s2, s3, s4, s5, s6, s7, s8, s9, s10, s11⟩ := cells12 bS
    have hv := hv0 W0 hB
    have hn1 := hhm W0 hB
    clear hz hv0
    go_upto_region 4 with (first
      | (go_at_call 28; (with_reducible refine hv.mono ?_); rintro r u1 ⟨vad, vcap, rfl, hvs, bb1⟩))
    have Bu := hB.tr le_rfl' bb1
    have bS1 := (bb1.block w.heap.size (by have := HZ.out; omega)).trans bS
    have hvl1 := hvs.1; have hvl2 := hvs.2.1
    unfold maxLen at hvl2
    clear s0 s1 s2 s3 s4 s5 s6 s7 s8 s9 s10 s11 hv
    go_wp2
    go_loopw [7] (fun i wr => ∃ j : Nat, j ≤ vs.length ∧ i = .int .i64 j ∧ Hid ((vs.take j).find? p1 = none) ∧ Below u1.heap.size u1 wr)
      (fun i _ => vs.length - (intOf i).toNat)
    case atStart => exact ⟨0, by omega, rfl, rfl, Below.refl _ _⟩
    case round =>
      obtain ⟨j, hj, rfl, HJ, hbw⟩ := hrel
      have Bw := Bu.tr le_rfl' hbw
      by_cases hlt : j < vs.length
      · rcases hvs.2.2 with h | ⟨vb, voff, rfl, hvn, hvrow⟩
        · rw [h] at hlt; simp at hlt
        have hvw : vb < wr.heap.size := by have := hbw.size; omega
        have hrj := hvrow.below hbw hvn
        have HS := hid (find_snoc p1 vs j hlt HJ.out)
        have HC := hid (find_cut p1 vs j hlt HJ.out)
        rcases he' : vs[j] with ⟨op', mon', name', n', ad', cp', kids', pos'⟩
        obtain ⟨c0, c1, c2, c3, c4, c5⟩ := row6 hrj j hlt (by rw [he']; rfl)
        have hp : p1 (Ex.mk op' mon' name' n' ad' cp' kids' pos') = !ownF l mon' := HP1.out _
        rw [he', hp] at HS HC
        clear he' c0 c2 c3 c4 hp
        have hq := hh mon' wr Bw
        obtain ⟨fo, hfo⟩ : ∃ fo, ownF l mon' = fo := ⟨_, rfl⟩
        rw [hfo] at hq HS HC
        clear hfo
        cases fo
        · go_wp2_with (go_at_call 27; (with_reducible refine hq.mono ?_); rintro rr ww ⟨rfl, hw'⟩; have hw2 := hw'.symm; subst hw2)
          go_quiet (fail)
          go_wp2
          go_ret2
          exact ⟨by rw [HO.out, HF1.out, HC.out (by trivial)]; rfl, below_drewN Bw _⟩
        · go_wp2_with (go_at_call 27; (with_reducible refine hq.mono ?_); rintro rr ww ⟨rfl, hw'⟩; have hw2 := hw'.symm; subst hw2)
          go_roundw
          case rel => exact ⟨j + 1, by omega, by go_num, HS.out (by trivial), hbw⟩
          case measure => simp [intOf]; omega
      · have hjd : decide ((j : Int) < (vs.length : Int)) = false := by simp; omega
        have hje : vs.take j = vs := List.take_of_length_le (by omega)
        rw [hje] at HJ
        have bSw := (hbw.block w.heap.size (by have := HZ.out; have := bb1.size; omega)).trans bS1
        have z0 := cellOf bSw 0
        simp at z0
        obtain ⟨wq, hwq⟩ : ∃ wq : World, wq = wr := ⟨_, rfl⟩
        subst hwq
        go_wp2
        clear z0
        have HBX : Hid (∀ W, Below u1.heap.size u1 W → W.cell? ⟨w.heap.size, 10, none⟩ = some (.slice ad blocks.length cap)) := fun W hW => by
          have hb := (hW.block w.heap.size (by have := HZ.out; have := bb1.size; omega)).trans bS1
          rw [cellOf hb]; rfl
        go_loopw [8] (fun i wr => ∃ j : Nat, j ≤ vs.length ∧ i = .int .i64 j ∧ Hid ((vs.take j).find? p2 = none) ∧ Below u1.heap.size u1 wr)
          (fun i _ => vs.length - (intOf i).toNat)
        case atStart => exact ⟨0, by omega, rfl, rfl, hbw⟩
        case round =>
          obtain ⟨i, hi, rfl, HI, hb2⟩ := hrel
          by_cases hlt2 : i < vs.length
          · rcases hvs.2.2 with h | ⟨vb, voff, rfl, hvn, hvrow⟩
            · rw [h] at hlt2; simp at hlt2
            have HS := hid (find_snoc p2 vs i hlt2 HI.out)
            have HC := hid (find_cut p2 vs i hlt2 HI.out)
            rcases he' : vs[i] with ⟨op', mi, name', n', ad', cp', kids', pi⟩
            obtain ⟨-, c1, -, -, -, c5⟩ := row6 hvrow i hlt2 (by rw [he']; rfl)
            have hp : p2 (Ex.mk op' mi name' n' ad' cp' kids' pi) = (wtsL blocks).any (dif mi) := HP2.out _
            rw [he', hp] at HS HC
            clear he' hp
            have HX : Hid (∀ W, Below u1.heap.size u1 W → vb < W.heap.size ∧ W.cell? ⟨vb, voff + i * 6 + 1, none⟩ = some (.string mi) ∧ W.cell? ⟨vb, voff + i * 6 + 5, none⟩ = some (.int .i64 pi)) := fun W hW => ⟨by have := hW.size; omega, (hW.cell (p := ⟨vb, _, none⟩) hvn).trans c1, (hW.cell (p := ⟨vb, _, none⟩) hvn).trans c5⟩
            clear c1 c5
            obtain ⟨wp, hwp⟩ : ∃ wp : World, wp = wr := ⟨_, rfl⟩
            subst hwp
            go_wp2
            go_loopw [9] (fun i wr => ∃ k : Nat, k ≤ blocks.length ∧ i = .int .i64 k ∧ Hid ((wtsL (blocks.take k)).any (dif mi) = false) ∧ Below u1.heap.size u1 wr)
              (fun i _ => blocks.length - (intOf i).toNat)
            case atStart => exact ⟨0, by omega, rfl, rfl, hb2⟩
            case round =>
              obtain ⟨k, hk, rfl, HK, hb3⟩ := hrel
              have Bw3 := Bu.tr le_rfl' hb3
              have y10 := HBX.out wr hb3
              by_cases hlk : k < blocks.length
              · rcases hsl.2.2 with h | ⟨bb, boff, rfl, hbn, hbrow⟩
                · rw [h] at hlk; simp at hlk
                have HKS : Hid (wtsL (blocks.take (k + 1)) = wtsL (blocks.take k) ++ wts blocks[k].body) := wtsL_snoc blocks k hlk
                have HKM : Hid (∀ x, x ∈ wts blocks[k].body → x ∈ wtsL blocks) := fun x hx => List.mem_flatMap.2 ⟨blocks[k], List.getElem_mem hlk, hx⟩
                have hIb := hIk _ (List.getElem_mem hlk)
                have e0 := hbrow k hlk 0 (by omega)
                rcases he2 : blocks[k] with ⟨bad, bcap, bbody⟩
                rw [he2] at hIb HKS HKM
                simp only [he2, Bl.cells, Bl.slice, Nat.mul_one, Nat.add_zero, List.getElem?_cons_zero] at e0
                simp only [Bl.body] at HKS HKM
                have hsb := hIb.down.1
                have hsb1 := hsb.1; have hsb2 := hsb.2.1
                unfold maxLen at hsb2
                have HE : Hid (∀ W, Below w.heap.size w W → bb < W.heap.size ∧ W.cell? ⟨bb, boff + k, none⟩ = some (.slice bad bbody.length bcap)) := fun W hW => ⟨by have := hW.size; omega, ((hW.mono hn).cell (p := ⟨bb, _, none⟩) hbn).trans e0⟩
                clear he2 e0 hIb
                obtain ⟨wo, hwo⟩ : ∃ wo : World, wo = wr := ⟨_, rfl⟩
                subst hwo
                go_wp2
                clear y10
                go_loopw [10] (fun i wr => ∃ m : Nat, m ≤ bbody.length ∧ i = .int .i64 m ∧ Hid ((wts (bbody.take m)).any (dif mi) = false) ∧ Below u1.heap.size u1 wr)
                  (fun i _ => bbody.length - (intOf i).toNat)
                case atStart => exact ⟨0, by omega, rfl, rfl, hb3⟩
                case round =>
                  obtain ⟨m, hm, rfl, HM, hb4⟩ := hrel
                  have Bw4 := Bu.tr le_rfl' hb4
                  have y10 := HBX.out wr hb4
                  obtain ⟨x0, x1, x5⟩ := HX.out wr hb4
                  obtain ⟨e1, e0⟩ := HE.out wr Bw4
                  by_cases hlm : m < bbody.length
                  · rcases hsb.2.2 with h | ⟨qb, qoff, rfl, hqn, hqrow⟩
                    · rw [h] at hlm; simp at hlm
                    have hqw : qb < wr.heap.size := by have := Bw4.size; omega
                    have HMM : Hid (bbody[m].kd = 9 → bbody[m].mn ∈ wtsL blocks) := fun h9 => HKM.out _ (wts_has bbody m hlm h9)
                    have hrj := hqrow.below (Bw4.mono hn) hqn
                    rcases he3 : bbody[m] with ⟨kind', mon', name', n', ⟨eop', emon', ename', en', ead', ecap', ekids', epos'⟩, sad', scap', blocks', pos'⟩
                    obtain ⟨d0, d1, -, -, -, -, -, -, -, -, -, -⟩ := row12 hrj m hlm (by rw [he3]; rfl)
                    have HMS : Hid (wts (bbody.take (m + 1)) = wts (bbody.take m) ++ if kind' = 9 then [mon'] else []) := by show _ = _; rw [wts_snoc bbody m hlm, he3]; rfl
                    rw [he3] at HMM
                    simp only [St.kd, St.mn] at HMM
                    clear he3 hrj
                    by_cases h9 : kind' = 9
                    · subst h9
                      by_cases hme : mon' = mi
                      · subst hme
                        have HM2 : Hid ((wts (bbody.take (m + 1))).any (dif mon') = false) := by
                          show _ = _
                          rw [HMS.out, if_pos rfl, List.any_append, HM.out]; simp [dif]
                        clear HMM HMS
                        go_wp2_with fail
                        go_quiet (fail)
                        go_wp2
                        go_roundw
                        case rel => exact ⟨m + 1, by omega, by go_num, HM2, below_drewN hb4 _⟩
                        case measure => simp [intOf]; omega
                      · have q1 := toList_ne hme
                        have q2 : (mon'.toList == mi.toList) = false := by rw [beq_eq_false_iff_ne]; exact q1
                        have q3 : (mon'.toList != mi.toList) = true := by rw [bne, q2]; rfl
                        have HHIT : Hid ((wtsL blocks).any (dif mi) = true) := List.any_eq_true.2 ⟨mon', HMM.out rfl, by simp [dif, hme]⟩
                        clear HMM HMS hme
                        go_wp2_with fail
                        go_quiet (fail)
                        go_wp2_with fail
                        go_quiet (fail)
                        go_wp2
                        go_ret2
                        exact ⟨by rw [HO.out, HF1.out, HJ.out, HI2.out, HC.out HHIT.out]; rfl, below_drewN (below_drewN Bw4 _) _⟩
                    · have h9b : (kind' == 9) = false := by rw [beq_eq_false_iff_ne]; exact h9
                      have HM2 : Hid ((wts (bbody.take (m + 1))).any (dif mi) = false) := by
                        show _ = _
                        rw [HMS.out, if_neg h9, List.append_nil]; exact HM.out
                      clear HMM HMS h9
                      go_wp2_with fail
                      go_quiet (fail)
                      go_wp2
                      go_roundw
                      case rel => exact ⟨m + 1, by omega, by go_num, HM2, below_drewN hb4 _⟩
                      case measure => simp [intOf]; omega
                  · have hmd : decide ((m : Int) < (bbody.length : Int)) = false := by simp; omega
                    have hme : bbody.take m = bbody := List.take_of_length_le (by omega)
                    rw [hme] at HM
                    have HK2 : Hid ((wtsL (blocks.take (k + 1))).any (dif mi) = false) := by
                      show _ = _
                      rw [HKS.out, List.any_append, HK.out, HM.out]; rfl
                    go_wp2
                    go_roundw
                    case rel => exact ⟨k + 1, by omega, by go_num, HK2, hb4⟩
                    case measure => simp [intOf]; omega
              · have hkd : decide ((k : Int) < (blocks.length : Int)) = false := by simp; omega
                have hke : blocks.take k = blocks := List.take_of_length_le (by omega)
                rw [hke] at HK
                go_wp2
                go_roundw
                case rel => exact ⟨i + 1, by omega, by go_num, HS.out HK.out, hb3⟩
                case measure => simp [intOf]; omega
          · have hid' : decide ((i : Int) < (vs.length : Int)) = false := by simp; omega
            have hie : vs.take i = vs := List.take_of_length_le (by omega)
            rw [hie] at HI
            go_wp2
            go_ret2
            exact ⟨by rw [HO.out, HF1.out, HJ.out, HI2.out, HI.out]; rfl, Bu.tr le_rfl' hb2⟩
  have q4 : (kind == 4) = false := by rw [beq_eq_false_iff_ne]; exact e4
  have q4b : (kind != 4) = true := by rw [bne, q4]; rfl
  rw [if_neg (by omega)] at HI2
  clear e2 e9 e10 e11 e3 e4
  go_enter Tryd.func19, Tryd.ntmps19
  go_upto_region 1 with fail
  obtain ⟨bS, hB, hz⟩ := one_box w #[.int .i64 kind, .string mon, .string name, .int .i64 n, .int .i64 eop, .string emon, .string ename, .int .i64 en, .slice ead ekids.length ecap, .int .i64 epos, .slice ad blocks.length cap, .int .i64 pos] 39
  obtain ⟨W0, hW0⟩ : ∃ W0, w.alloc (.cells #[.int .i64 kind, .string mon, .string name, .int .i64 n, .int .i64 eop, .string emon, .string ename, .int .i64 en, .slice ead ekids.length ecap, .int .i64 epos, .slice ad blocks.length cap, .int .i64 pos] 39) = W0 := ⟨_, rfl⟩
  rw [hW0] at bS hB hz ⊢
  clear hW0
  have HZ := hid hz
  obtain ⟨s0, s1, s2, s3, s4, s5, s6, s7, s8, s9, s10, s11⟩ := cells12 bS
  have hv := hv0 W0 hB
  have hn1 := hhm W0 hB
  clear hz hv0
  go_upto_region 4 with (first
    | (go_at_call 28; (with_reducible refine hv.mono ?_); rintro r u1 ⟨vad, vcap, rfl, hvs, bb1⟩))
  have Bu := hB.tr le_rfl' bb1
  have bS1 := (bb1.block w.heap.size (by have := HZ.out; omega)).trans bS
  have hvl1 := hvs.1; have hvl2 := hvs.2.1
  unfold maxLen at hvl2
  clear s0 s1 s2 s3 s4 s5 s6 s7 s8 s9 s10 s11 hv
  go_wp2
  go_loopw [7] (fun i wr => ∃ j : Nat, j ≤ vs.length ∧ i = .int .i64 j ∧ Hid ((vs.take j).find? p1 = none) ∧ Below u1.heap.size u1 wr)
    (fun i _ => vs.length - (intOf i).toNat)
  case atStart => exact ⟨0, by omega, rfl, rfl, Below.refl _ _⟩
  case round =>
    obtain ⟨j, hj, rfl, HJ, hbw⟩ := hrel
    have Bw := Bu.tr le_rfl' hbw
    by_cases hlt : j < vs.length
    · rcases hvs.2.2 with h | ⟨vb, voff, rfl, hvn, hvrow⟩
      · rw [h] at hlt; simp at hlt
      have hvw : vb < wr.heap.size := by have := hbw.size; omega
      have hrj := hvrow.below hbw hvn
      have HS := hid (find_snoc p1 vs j hlt HJ.out)
      have HC := hid (find_cut p1 vs j hlt HJ.out)
      rcases he' : vs[j] with ⟨op', mon', name', n', ad', cp', kids', pos'⟩
      obtain ⟨c0, c1, c2, c3, c4, c5⟩ := row6 hrj j hlt (by rw [he']; rfl)
      have hp : p1 (Ex.mk op' mon' name' n' ad' cp' kids' pos') = !ownF l mon' := HP1.out _
      rw [he', hp] at HS HC
      clear he' c0 c2 c3 c4 hp
      have hq := hh mon' wr Bw
      obtain ⟨fo, hfo⟩ : ∃ fo, ownF l mon' = fo := ⟨_, rfl⟩
      rw [hfo] at hq HS HC
      clear hfo
      cases fo
      · go_wp2_with (go_at_call 27; (with_reducible refine hq.mono ?_); rintro rr ww ⟨rfl, hw'⟩; have hw2 := hw'.symm; subst hw2)
        go_quiet (fail)
        go_wp2
        go_ret2
        exact ⟨by rw [HO.out, HF1.out, HC.out (by trivial)]; rfl, below_drewN Bw _⟩
      · go_wp2_with (go_at_call 27; (with_reducible refine hq.mono ?_); rintro rr ww ⟨rfl, hw'⟩; have hw2 := hw'.symm; subst hw2)
        go_roundw
        case rel => exact ⟨j + 1, by omega, by go_num, HS.out (by trivial), hbw⟩
        case measure => simp [intOf]; omega
    · have hjd : decide ((j : Int) < (vs.length : Int)) = false := by simp; omega
      have hje : vs.take j = vs := List.take_of_length_le (by omega)
      rw [hje] at HJ
      have bSw := (hbw.block w.heap.size (by have := HZ.out; have := bb1.size; omega)).trans bS1
      have z0 := cellOf bSw 0
      simp at z0
      go_wp2
      go_ret2
      exact ⟨by rw [HO.out, HF1.out, HJ.out, HI2.out]; rfl, Bw⟩
end Go.Proofs.YtfkabkbnfeiggaaDoor
namespace Go.Proofs.YtfkabkbnfeiggaaDoor
open Go.RowKit
theorem sl_at_one {W : World} {b : Nat} {s : ByteArray} {T : TypeId} {z : Nat × Nat} (h : W.heap[b]? = some (.cells #[.string s] T z)) : SlAt 1 ncells (b + 1) W (some ⟨b, 0, none⟩) 1 [s] := by
  refine ⟨by simp, by unfold maxLen; omega, .inr ⟨b, 0, rfl, by omega, fun j hj i hi => ?_⟩⟩
  obtain rfl : j = 0 := by simpa using hj
  obtain rfl : i = 0 := by omega
  rw [cellOf h]; rfl
theorem heapAtN {W : World} {p : Nat} (o : Obj) (hp : W.heap.size = p) : (W.alloc o).heap[p]? = some o := by subst hp; exact heapNew W o
def RSc (x : Bl) : Prop := ∀ (n₀ n₁ : Nat) (w : World) (l : List ByteArray) (oad : Option Addr) (ocap : Nat), n₀ ≤ w.heap.size → n₁ ≤ w.heap.size → x.Is n₀ w → SlAt 1 ncells n₁ w oad ocap l → l.length + x.subs.length ≤ 1000000 → (∀ s ∈ x.subs, s.e.subs.length ≤ 1000000) →
  Calls Tryd.prog 11 #[x.slice, .slice oad l.length ocap] w fun r w' => ScBack (x.sco (ownF l)) w r w'
set_option maxRecDepth 100000 in
set_option maxHeartbeats 40000000 in
theorem refScope_step (ad : Option Addr) (cap : Nat) (body : List St) (ih : ∀ s ∈ body, ∀ b ∈ s.blocks, RSc b) : RSc (.mk ad cap body) := by
  intro n₀ n₁ w l oad ocap hn hn1 hI hl hsz hex
  obtain ⟨i0, hi0, iz0, iz1, iz2⟩ := info_parts infoStr
  have HU : Hid ((Bl.mk ad cap body).sco (ownF l) = St.scoL (ownF l) body) := by show _ = _; rw [Bl.sco]
  rw [Bl.subs_mk] at hsz hex
  have hIk := hI.down.2
  have hsl := hI.down.1
  have hl1 := hsl.1; have hl2 := hsl.2.1
  unfold maxLen at hl2
  simp only [Bl.slice]
  go_enter Tryd.func11, Tryd.ntmps11
  go_wp2
  go_loopw [6] (fun i wr => ∃ j : Nat, j ≤ body.length ∧ i = .int .i64 j ∧ Hid (St.scoL (ownF l) body = St.scoL (ownF l) (body.drop j)) ∧ Below w.heap.size w wr)
    (fun i _ => body.length - (intOf i).toNat)
  case atStart => exact ⟨0, by omega, rfl, rfl, Below.refl _ _⟩
  case round =>
    obtain ⟨j, hj, rfl, HQ, hbF⟩ := hrel
    have hz0 := hbF.size
    have hb0 : Below n₀ w wr := hbF.mono hn
    by_cases hlt : j < body.length
    · rcases hsl.2.2 with h | ⟨kb, koff, rfl, hbn, hrow⟩
      · subst h; simp at hlt
      have hbn2 : kb < wr.heap.size := by omega
      have HD := hid (St.scoL_drop (ownF l) body j hlt)
      have hrj := hrow.below hb0 hbn
      have hss := subs_at St.subs body j hlt
      have hIj := hIk _ (List.getElem_mem hlt)
      have hexj : ∀ s ∈ body[j].subs, s.e.subs.length ≤ 1000000 := fun s hs => hex s (List.mem_flatMap.2 ⟨body[j], List.getElem_mem hlt, hs⟩)
      rcases he0 : body[j] with ⟨kind', mon', name', n', ⟨eop', emon', ename', en', ead', ecap', ekids', epos'⟩, ad', cap', blocks', pos'⟩
      obtain ⟨c0, c1, c2, c3, c4, c5, c6, c7, c8, c9, c10, c11⟩ := row12 hrj j hlt (by rw [he0]; rfl)
      rw [he0] at HD hss hIj hexj
      have HS : Hid ((St.mk kind' mon' name' n' (Ex.mk eop' emon' ename' en' ead' ecap' ekids' epos') ad' cap' blocks' pos').sco (ownF l) = fstE (oneE (ownF l) kind' mon' (Ex.mk eop' emon' ename' en' ead' ecap' ekids' epos') blocks' pos') (Bl.scoL (andMon (ownF l) kind' mon') blocks')) := by show _ = _; rw [St.sco]
      rw [St.subs_mk] at hss hexj
      simp only [List.length_cons] at hss
      have hmem : ∀ b ∈ blocks', ∀ s ∈ b.subs, s ∈ body.flatMap St.subs := fun b hb s hs => List.mem_flatMap.2 ⟨body[j], List.getElem_mem hlt, by rw [he0, St.subs_mk]; exact List.mem_cons_of_mem _ (List.mem_flatMap.2 ⟨b, hb, hs⟩)⟩
      have hIk2 := hIj.down.2.2.2
      have hsl' := hIj.down.2.2.1
      have hl3 := hsl'.1; have hl4 := hsl'.2.1
      unfold maxLen at hl4
      obtain ⟨bS, hBX, hzX⟩ := one_box wr #[.int .i64 kind', .string mon', .string name', .int .i64 n', .int .i64 eop', .string emon', .string ename', .int .i64 en', .slice ead' ekids'.length ecap', .int .i64 epos', .slice ad' blocks'.length cap', .int .i64 pos'] 39
      have hq := one_any kind' mon' name' n' (Ex.mk eop' emon' ename' en' ead' ecap' ekids' epos') ad' cap' blocks' pos' l oad ocap n₀ n₁ (wr.alloc (.cells #[.int .i64 kind', .string mon', .string name', .int .i64 n', .int .i64 eop', .string emon', .string ename', .int .i64 en', .slice ead' ekids'.length ecap', .int .i64 epos', .slice ad' blocks'.length cap', .int .i64 pos'] 39)) (by simp; omega) (by simp; omega) (hIj.below ((hbF.tr le_rfl' hBX).mono hn)) (hl.below ((hbF.tr le_rfl' hBX).mono hn1)) (hexj _ List.mem_cons_self)
      obtain ⟨o, ho⟩ : ∃ o, oneE (ownF l) kind' mon' (Ex.mk eop' emon' ename' en' ead' ecap' ekids' epos') blocks' pos' = o := ⟨_, rfl⟩
      have ho0 := oneE_zero (f := ownF l) (kind := kind') (mon := mon') (e := Ex.mk eop' emon' ename' en' ead' ecap' ekids' epos') (bs := blocks') (pos := pos')
      rw [ho] at hq HS ho0
      clear ho hexj
      obtain ⟨oe, oa⟩ := o
      simp only [ScBack, St.val, St.cells, Ex.cells, List.cons_append, List.nil_append] at hq
      by_cases hoe : oe = 0
      · subst hoe
        have hoa := ho0 rfl
        have hob : oa = 0 := congrArg Prod.snd hoa
        subst hob
        rw [fstE_zero] at HS
        clear ho0
        by_cases e7 : kind' = 7
        · subst e7
          go_upto_region 10 with (go_at_call 19; (with_reducible refine hq.mono ?_); rintro r u1 ⟨rfl, bb1⟩; have bS1 := (bb1.block wr.heap.size (by simp)).trans bS; have t0 := cellOf bS1 0; simp only [List.getElem?_toArray, List.getElem?_cons_zero] at t0)
          have t1 := cellOf bS1 1
          simp at t1
          have B := Below.refl u1.heap.size u1
          have hown0 := World.ownsRow_made (base := u1.heap.size) (e := 9) (size := 1) u1 #[] 0 (Nat.le_refl _) (by unfold maxLen; omega) rfl
          have hownC := World.ownsRow_made (base := u1.heap.size) (e := 9) (size := 1) (u1.alloc (.cells #[.string mon'] 9)) #[] 0 (by simp) (by unfold maxLen; omega) rfl
          rw [World.size_alloc] at hownC
          have hmB : ((u1.alloc (.cells #[] 9)).alloc (.cells #[.string mon'] 9)).heap[u1.heap.size + 1]? = some (.cells #[.string mon'] 9 (0, 0)) := heapAtN _ (by simp)
          have hmC : ((u1.alloc (.cells #[.string mon'] 9)).alloc (.cells #[] 9)).heap[u1.heap.size]? = some (.cells #[.string mon'] 9 (0, 0)) := (Below.heap_alloc _ _ _ (by simp)).trans (heapNew u1 _)
          have HSS : Hid (∀ W, Below u1.heap.size u1 W → W.cell? ⟨wr.heap.size, 1, none⟩ = some (.string mon')) := fun W hW => (hW.cell (p := ⟨wr.heap.size, 1, none⟩) (by show wr.heap.size < _; have := bb1.size; simp at this; omega)).trans t1
          have hzu := bb1.size
          simp only [World.size_alloc] at hzu
          have HQQ := hid hq
          clear hq t0
          go_cut [10] (fun s10 wx => ∃ zad zcap, s10 = .slice zad (l.length + 1) zcap ∧ SlAt 1 ncells wx.heap.size wx zad zcap (l ++ [mon']) ∧ Below u1.heap.size u1 wx)
          case first =>
            go_region_held3 (fun W => W.cell? ⟨wr.heap.size, 1, none⟩ = some (.string mon')) (exact HSS.out _ (by repeat (first | exact B | with_reducible refine below_drewN ?_ _ | with_reducible refine below_drewV ?_ | with_reducible refine Below.al ?_ le_rfl' _))) (first | (refine step_append_slB (cells := ncells) (by rfl) _ _ 23 (by rfl) u1.heap.size 9 i0 _ 1 16 Tryd.underlying23 hi0 iz0 iz1 iz2 rfl (by decide) ncells_len ncells_one _ [] (by rfl) ?_ oad ocap l n₁ (by rfl) ?_ (by unfold maxLen; simp; omega) (by simp; omega) ?_ u1 ?_ ?_; (first | exact hown0 | exact hown0.alloc _ | exact hownC); exact hl.below (((hbF.tr le_rfl' hBX).tr le_rfl' bb1).tr le_rfl' (by repeat (first | exact B | with_reducible refine below_drewN ?_ _ | with_reducible refine below_drewV ?_ | with_reducible refine Below.al ?_ le_rfl' _)) |>.mono hn1); exact (show Below u1.heap.size u1 _ from (by repeat (first | exact B | with_reducible refine below_drewN ?_ _ | with_reducible refine below_drewV ?_ | with_reducible refine Below.al ?_ le_rfl' _))).size; exact (by repeat (first | exact B | with_reducible refine below_drewN ?_ _ | with_reducible refine below_drewV ?_ | with_reducible refine Below.al ?_ le_rfl' _)); intro v1 w1 hown1 hg1 hnn1 B; rw [List.nil_append] at hown1) | (refine step_append_slB (cells := ncells) (by rfl) _ _ 23 (by rfl) u1.heap.size 9 i0 _ 1 16 Tryd.underlying23 hi0 iz0 iz1 iz2 rfl (by decide) ncells_len ncells_one v1 l (by rfl) ?_ (some ⟨w1.heap.size, 0, none⟩) 1 [mon'] (w1.heap.size + 1) (by rfl) ?_ (by unfold maxLen; simp; omega) (by simp; omega) ?_ u1 ?_ ?_; (first | exact hown1 | exact hown1.alloc _); exact sl_at_one (heapNew _ _); exact (show Below u1.heap.size u1 _ from (by repeat (first | exact B | with_reducible refine below_drewN ?_ _ | with_reducible refine below_drewV ?_ | with_reducible refine Below.al ?_ le_rfl' _))).size; exact (by repeat (first | exact B | with_reducible refine below_drewN ?_ _ | with_reducible refine below_drewV ?_ | with_reducible refine Below.al ?_ le_rfl' _)); intro v2 w2 hown2 hg2 hnn2 B; obtain ⟨ad2, cp2, rfl, hsl3⟩ := slOwn ncells_len hown2) | (refine step_append_slB (cells := ncells) (by rfl) _ _ 23 (by rfl) u1.heap.size 9 i0 _ 1 16 Tryd.underlying23 hi0 iz0 iz1 iz2 rfl (by decide) ncells_len ncells_one v1 l (by rfl) ?_ (some ⟨u1.heap.size + 1, 0, none⟩) 1 [mon'] (u1.heap.size + 1 + 1) (by rfl) ?_ (by unfold maxLen; simp; omega) (by simp; omega) ?_ u1 ?_ ?_; (first | exact hown1 | exact hown1.alloc _); exact sl_at_one ((hg1.block _ (by simp <;> omega) (show ¬ (some (u1.heap.size + 1) = some u1.heap.size) by simp)).trans hmB); exact (show Below u1.heap.size u1 _ from (by repeat (first | exact B | with_reducible refine below_drewN ?_ _ | with_reducible refine below_drewV ?_ | with_reducible refine Below.al ?_ le_rfl' _))).size; exact (by repeat (first | exact B | with_reducible refine below_drewN ?_ _ | with_reducible refine below_drewV ?_ | with_reducible refine Below.al ?_ le_rfl' _)); intro v2 w2 hown2 hg2 hnn2 B; obtain ⟨ad2, cp2, rfl, hsl3⟩ := slOwn ncells_len hown2) | (refine step_append_slB (cells := ncells) (by rfl) _ _ 23 (by rfl) u1.heap.size 9 i0 _ 1 16 Tryd.underlying23 hi0 iz0 iz1 iz2 rfl (by decide) ncells_len ncells_one v1 l (by rfl) ?_ (some ⟨u1.heap.size, 0, none⟩) 1 [mon'] (u1.heap.size + 1) (by rfl) ?_ (by unfold maxLen; simp; omega) (by simp; omega) ?_ u1 ?_ ?_; (first | exact hown1 | exact hown1.alloc _); exact sl_at_one ((hg1.block _ (by simp <;> omega) (show ¬ (some u1.heap.size = some (u1.heap.size + 1)) by simp)).trans hmC); exact (show Below u1.heap.size u1 _ from (by repeat (first | exact B | with_reducible refine below_drewN ?_ _ | with_reducible refine below_drewV ?_ | with_reducible refine Below.al ?_ le_rfl' _))).size; exact (by repeat (first | exact B | with_reducible refine below_drewN ?_ _ | with_reducible refine below_drewV ?_ | with_reducible refine Below.al ?_ le_rfl' _)); intro v2 w2 hown2 hg2 hnn2 B; obtain ⟨ad2, cp2, rfl, hsl3⟩ := slOwn ncells_len hown2))
            all_goals go_wp2
            all_goals go_meet
            all_goals exact ⟨ad2, cp2, rfl, hsl3, B⟩
          case rest =>
            obtain ⟨pad, pcap, rfl, hPsl, bz⟩ := hcut
            obtain ⟨P, hP⟩ : ∃ P, l ++ [mon'] = P := ⟨_, rfl⟩
            have hPl : P.length = l.length + 1 := by rw [← hP]; simp
            have HS2 : Hid ((St.mk 7 mon' name' n' (Ex.mk eop' emon' ename' en' ead' ecap' ekids' epos') ad' cap' blocks' pos').sco (ownF l) = Bl.scoL (ownF P) blocks') := by
              show _ = _
              rw [HS.out, andMon, if_pos rfl, ← own_snoc, hP]
            rw [hP] at hPsl
            clear hP HS hown0 hownC hmB hmC HSS B HQQ t1
            have bSc := (bz.block wr.heap.size (by have := bb1.size; omega)).trans bS1
            obtain ⟨wo, hwo⟩ : ∃ wo : World, wo = wr := ⟨_, rfl⟩
            subst hwo
            have HBL : Hid (∀ W, Below wc.heap.size wc W → W.cell? ⟨wo.heap.size, 10, none⟩ = some (.slice ad' blocks'.length cap')) := fun W hW => by
              have hb := (hW.block wo.heap.size (by have := bz.size; have := bb1.size; omega)).trans bSc
              rw [cellOf hb]; rfl
            have Bc : Below w.heap.size w wc := ((hbF.tr le_rfl' hBX).tr le_rfl' bb1).tr le_rfl' bz
            go_wp2
            go_loopw [11] (fun i wr => ∃ m : Nat, m ≤ blocks'.length ∧ i = .int .i64 m ∧ Hid (Bl.scoL (ownF P) blocks' = Bl.scoL (ownF P) (blocks'.drop m)) ∧ Below wc.heap.size wc wr)
              (fun i _ => blocks'.length - (intOf i).toNat)
            case atStart => exact ⟨0, by omega, rfl, rfl, Below.refl _ _⟩
            case round =>
              obtain ⟨m, hm, rfl, HQ2, hb2⟩ := hrel
              have Bw := Bc.tr le_rfl' hb2
              have y10 := HBL.out wr hb2
              by_cases hlm : m < blocks'.length
              · rcases hsl'.2.2 with h | ⟨kb2, koff2, rfl, hbn', hrow'⟩
                · subst h; simp at hlm
                have hkb2 : kb2 < wr.heap.size := by have := Bw.size; omega
                have HD2 := hid (Bl.scoL_drop (ownF P) blocks' m hlm)
                have hss2 := subs_at Bl.subs blocks' m hlm
                have hz2 := hb2.size
                have hq2 := ih _ (List.getElem_mem hlt) blocks'[m] (by rw [he0]; exact List.getElem_mem hlm) n₀ wc.heap.size wr P pad pcap (by have := Bw.size; omega) hz2 ((hIk2 _ (List.getElem_mem hlm)).below (Bw.mono hn)) (hPsl.below hb2) (by omega) (fun s hs => hex s (hmem blocks'[m] (List.getElem_mem hlm) s hs))
                have c0 := (hrow'.below (Bw.mono hn) hbn') m hlm 0 (by omega)
                obtain ⟨u, hu⟩ : ∃ u, blocks'[m].sco (ownF P) = u := ⟨_, rfl⟩
                have hu0 := Bl.sco_zero (f := ownF P) blocks'[m]
                rw [hu] at hq2 HD2 hu0
                clear hu
                rcases he2 : blocks'[m] with ⟨bad, bcap, bbody⟩
                simp only [he2, Bl.cells, Bl.slice, Nat.mul_one, Nat.add_zero, List.getElem?_cons_zero] at hq2 c0
                clear he2 hss2
                rw [hPl] at hq2
                obtain ⟨ue, ua⟩ := u
                simp only [ScBack] at hq2
                by_cases hue : ue = 0
                · subst hue
                  have hua := hu0 rfl
                  have hub : ua = 0 := congrArg Prod.snd hua
                  subst hub
                  rw [fstE_zero] at HD2
                  go_wp2_with (go_at_call 11; (with_reducible refine hq2.mono ?_); rintro r w3 ⟨rfl, bb3⟩)
                  go_roundw
                  case rel => exact ⟨m + 1, by omega, by go_num, by show _ = _; rw [HQ2.out, HD2.out], hb2.tr le_rfl' bb3⟩
                  case measure => simp [intOf]; omega
                · rw [fstE_err (by exact hue)] at HD2
                  have hueb : (ue == 0) = false := by rw [beq_eq_false_iff_ne]; exact hue
                  have hueb2 : (ue != 0) = true := by rw [bne, hueb]; rfl
                  go_wp2_with (go_at_call 11; (with_reducible refine hq2.mono ?_); rintro r w3 ⟨rfl, bb3⟩)
                  go_ret2
                  exact ⟨by rw [HU.out, HQ.out, HD.out, HS2.out, HQ2.out, HD2.out, fstE_err (by exact hue)]; rfl, Bw.tr le_rfl' bb3⟩
              · have hmd : decide ((m : Int) < (blocks'.length : Int)) = false := by simp; omega
                have HE : Hid (St.scoL (ownF l) body = St.scoL (ownF l) (body.drop (j + 1))) := by
                  show _ = _
                  rw [HQ.out, HD.out, HS2.out, HQ2.out, Bl.scoL_end _ _ _ (by omega), fstE_zero]
                go_wp2
                go_roundw
                case rel => exact ⟨j + 1, by omega, by go_num, HE, Bw⟩
                case measure => simp [intOf]; omega
        · have q7 : (kind' == 7) = false := by rw [beq_eq_false_iff_ne]; exact e7
          go_upto_region 11 with (go_at_call 19; (with_reducible refine hq.mono ?_); rintro r u1 ⟨rfl, bb1⟩; have bS1 := (bb1.block wr.heap.size (by simp)).trans bS; have t0 := cellOf bS1 0; simp only [List.getElem?_toArray, List.getElem?_cons_zero] at t0)
          have hzu := bb1.size
          simp only [World.size_alloc] at hzu
          have bz := Below.refl u1.heap.size u1
          have HS2 : Hid ((St.mk kind' mon' name' n' (Ex.mk eop' emon' ename' en' ead' ecap' ekids' epos') ad' cap' blocks' pos').sco (ownF l) = Bl.scoL (ownF l) blocks') := by
            show _ = _
            rw [HS.out, andMon, if_neg e7]
          have hPsl : SlAt 1 ncells u1.heap.size u1 oad ocap l := (hl.below (((hbF.tr le_rfl' hBX).tr le_rfl' bb1).mono hn1)).mono (by omega)
          clear HS hq t0 e7
          have bSc := (bz.block wr.heap.size (by have := bb1.size; omega)).trans bS1
          obtain ⟨wo, hwo⟩ : ∃ wo : World, wo = wr := ⟨_, rfl⟩
          subst hwo
          have HBL : Hid (∀ W, Below u1.heap.size u1 W → W.cell? ⟨wo.heap.size, 10, none⟩ = some (.slice ad' blocks'.length cap')) := fun W hW => by
            have hb := (hW.block wo.heap.size (by have := bz.size; have := bb1.size; omega)).trans bSc
            rw [cellOf hb]; rfl
          have Bc : Below w.heap.size w u1 := ((hbF.tr le_rfl' hBX).tr le_rfl' bb1).tr le_rfl' bz
          go_wp2
          go_loopw [11] (fun i wr => ∃ m : Nat, m ≤ blocks'.length ∧ i = .int .i64 m ∧ Hid (Bl.scoL (ownF l) blocks' = Bl.scoL (ownF l) (blocks'.drop m)) ∧ Below u1.heap.size u1 wr)
            (fun i _ => blocks'.length - (intOf i).toNat)
          case atStart => exact ⟨0, by omega, rfl, rfl, Below.refl _ _⟩
          case round =>
            obtain ⟨m, hm, rfl, HQ2, hb2⟩ := hrel
            have Bw := Bc.tr le_rfl' hb2
            have y10 := HBL.out wr hb2
            by_cases hlm : m < blocks'.length
            · rcases hsl'.2.2 with h | ⟨kb2, koff2, rfl, hbn', hrow'⟩
              · subst h; simp at hlm
              have hkb2 : kb2 < wr.heap.size := by have := Bw.size; omega
              have HD2 := hid (Bl.scoL_drop (ownF l) blocks' m hlm)
              have hss2 := subs_at Bl.subs blocks' m hlm
              have hz2 := hb2.size
              have hq2 := ih _ (List.getElem_mem hlt) blocks'[m] (by rw [he0]; exact List.getElem_mem hlm) n₀ u1.heap.size wr l oad ocap (by have := Bw.size; omega) hz2 ((hIk2 _ (List.getElem_mem hlm)).below (Bw.mono hn)) (hPsl.below hb2) (by omega) (fun s hs => hex s (hmem blocks'[m] (List.getElem_mem hlm) s hs))
              have c0 := (hrow'.below (Bw.mono hn) hbn') m hlm 0 (by omega)
              obtain ⟨u, hu⟩ : ∃ u, blocks'[m].sco (ownF l) = u := ⟨_, rfl⟩
              have hu0 := Bl.sco_zero (f := ownF l) blocks'[m]
              rw [hu] at hq2 HD2 hu0
              clear hu
              rcases he2 : blocks'[m] with ⟨bad, bcap, bbody⟩
              simp only [he2, Bl.cells, Bl.slice, Nat.mul_one, Nat.add_zero, List.getElem?_cons_zero] at hq2 c0
              clear he2 hss2
              obtain ⟨ue, ua⟩ := u
              simp only [ScBack] at hq2
              by_cases hue : ue = 0
              · subst hue
                have hua := hu0 rfl
                have hub : ua = 0 := congrArg Prod.snd hua
                subst hub
                rw [fstE_zero] at HD2
                go_wp2_with (go_at_call 11; (with_reducible refine hq2.mono ?_); rintro r w3 ⟨rfl, bb3⟩)
                go_roundw
                case rel => exact ⟨m + 1, by omega, by go_num, by show _ = _; rw [HQ2.out, HD2.out], hb2.tr le_rfl' bb3⟩
                case measure => simp [intOf]; omega
              · rw [fstE_err (by exact hue)] at HD2
                have hueb : (ue == 0) = false := by rw [beq_eq_false_iff_ne]; exact hue
                have hueb2 : (ue != 0) = true := by rw [bne, hueb]; rfl
                go_wp2_with (go_at_call 11; (with_reducible refine hq2.mono ?_); rintro r w3 ⟨rfl, bb3⟩)
                go_ret2
                exact ⟨by rw [HU.out, HQ.out, HD.out, HS2.out, HQ2.out, HD2.out, fstE_err (by exact hue)]; rfl, Bw.tr le_rfl' bb3⟩
            · have hmd : decide ((m : Int) < (blocks'.length : Int)) = false := by simp; omega
              have HE : Hid (St.scoL (ownF l) body = St.scoL (ownF l) (body.drop (j + 1))) := by
                show _ = _
                rw [HQ.out, HD.out, HS2.out, HQ2.out, Bl.scoL_end _ _ _ (by omega), fstE_zero]
              go_wp2
              go_roundw
              case rel => exact ⟨j + 1, by omega, by go_num, HE, Bw⟩
              case measure => simp [intOf]; omega
      · rw [fstE_err (by exact hoe)] at HS
        have hoeb : (oe == 0) = false := by rw [beq_eq_false_iff_ne]; exact hoe
        have hoeb2 : (oe != 0) = true := by rw [bne, hoeb]; rfl
        go_wp2_with (go_at_call 19; (with_reducible refine hq.mono ?_); rintro r u1 ⟨rfl, bb1⟩)
        go_ret2
        exact ⟨by rw [HU.out, HQ.out, HD.out, HS.out, fstE_err (by exact hoe)]; rfl, (hbF.tr le_rfl' hBX).tr le_rfl' bb1⟩
    · have hjd : decide ((j : Int) < (body.length : Int)) = false := by simp; omega
      go_wp2
      go_ret2
      exact ⟨by rw [HU.out, HQ.out, St.scoL_end _ _ _ (by omega)]; rfl, hbF⟩
theorem refScope_any (x : Bl) : RSc x :=
  Bl.ind (P := fun s => ∀ b ∈ s.blocks, RSc b) (Q := RSc) (fun _ _ _ _ _ _ _ _ _ ih b hb => ih b hb) (fun ad cap body ih => refScope_step ad cap body ih) x
theorem ex_none {e : Ex} (h : e.none = true) : e.subs.length = 1 := by
  rcases e with ⟨op, mon, name, n, ad, cap, kids, pos⟩
  have hk : kids = [] := by
    unfold Ex.none at h
    cases kids with
    | nil => rfl
    | cons a l => simp [Ex.same, Ex.sameL] at h
  rw [Ex.subs_mk, hk]; simp [Ex.subsL]
theorem sz_ex (x : Bl) : ∀ s ∈ x.subs, s.e.subs.length ≤ x.sz := by
  intro s hs
  have h1 : s.sz ≤ x.sz := by
    unfold Bl.sz
    obtain ⟨a, b, hab⟩ := List.append_of_mem hs
    rw [hab]; simp; omega
  have h2 : s.e.subs.length ≤ s.sz := by
    unfold St.sz
    split
    · rename_i h; rw [ex_none h]; omega
    · omega
  omega
set_option maxRecDepth 100000 in
set_option maxHeartbeats 16000000 in
theorem scopes_walk (x : Bl) (l : List ByteArray) (oad : Option Addr) (ocap : Nat) (w : World) (hS : Shapes w) (hx : x.Is w.heap.size w) (hl : SlAt 1 ncells w.heap.size w oad ocap l) : Calls Tryd.prog 3 #[x.slice, .slice oad l.length ocap] w fun r w' => r = .returned (.bool true) ∧ Below w.heap.size w w' := by
  obtain ⟨i0, hi0, iz0, iz1, iz2⟩ := info_parts infoStr
  have hS3 := hS.size
  have hrx := fun (W : World) (hW : Below w.heap.size w W) => rest_any w.heap.size x 300 W (by omega) (by omega) hW.size (hx.below hW)
  have hsh := fun (W : World) (hW : Below w.heap.size w W) => short_any l oad ocap w.heap.size W hW.size (hl.below hW)
  have hli := fun (W : World) (hW : Below w.heap.size w W) => live_own W (hS.below hW hS3) (by have := hW.size; omega)
  have hnum := num_own
  have hzx := sz_subs x
  have hze := sz_ex x
  have HSM := hid (fun (h : l.length + x.subs.length ≤ 1000) (ad : Option Addr) (c n : Nat) (W : World) (hn : n ≤ W.heap.size) (hwn : w.heap.size ≤ n) (hW : Below w.heap.size w W) (hs : SlAt 1 ncells n W ad c l) => scope_any x l ad c n W hn ((hx.below hW).mono hwn) hs (by omega))
  have HRF := hid (fun (h : l.length + x.subs.length ≤ 1000) (he : ∀ s ∈ x.subs, s.e.subs.length ≤ 1000) (W : World) (hW : Below w.heap.size w W) => refScope_any x w.heap.size w.heap.size W l oad ocap hW.size hW.size (hx.below hW) (hl.below hW) (by omega) (fun s hs => by have := he s hs; omega))
  obtain ⟨s, hsE⟩ : ∃ s, x.sco (ownF l) = s := ⟨_, rfl⟩
  simp only [hsE] at HSM HRF
  obtain ⟨ex, ax⟩ := s
  simp only [ScBack] at HSM HRF
  have hsz0 := hid (And.intro hzx hze)
  clear hzx hze hx hsE
  rcases x with ⟨xad, xcap, xbody⟩
  simp only [Bl.slice] at hrx HSM HRF ⊢
  have B0 := Below.refl w.heap.size w
  go_enter Tryd.func3, Tryd.ntmps3
  go_upto_if 16 with (first
    | (go_at_call 8; (with_reducible refine (hsh _ Ba).mono ?_); rintro r wc ⟨c, rfl, hc, hw'⟩; have hw2 := hw'.symm; subst hw2; cases c)
    | (go_at_call 7; (with_reducible refine (hrx _ B0).mono ?_); rintro r wa ⟨c2, rfl, hc1, hc2, Hc3, ba⟩; have Ba := B0.tr le_rfl' ba; rcases Int.lt_or_le c2 0 with hc0 | hc0))
  · go_wp2_with (go_at_call 9; (with_reducible refine (hli _ Ba).mono ?_); rintro r wz ⟨rfl, bz⟩)
    go_ret
    exact ⟨rfl, Ba.tr le_rfl' bz⟩
  · go_wp2_with (go_at_call 9; (with_reducible refine (hli _ Ba).mono ?_); rintro r wz ⟨rfl, bz⟩)
    go_ret
    exact ⟨rfl, Ba.tr le_rfl' bz⟩
  · have hl20 : l.length ≤ 20 := hc trivial
    have hxz : ((Bl.mk xad xcap xbody).sz : Int) ≤ 300 := by have := Hc3.out hc0; omega
    have hxs : l.length + (Bl.mk xad xcap xbody).subs.length ≤ 1000 := by have := hsz0.out.1; omega
    replace HSM := hid (HSM.out hxs)
    have hrf := HRF.out hxs (fun s hs => by have := hsz0.out.2 s hs; omega)
    have hnc : ¬ c2 < 0 := by omega
    have hown0 := World.ownsRow_made (base := wa.heap.size) (e := 9) (size := 1) wa #[] 0 (Nat.le_refl _) (by unfold maxLen; omega) rfl
    have Ke : Below wa.heap.size wa (wa.alloc (.cells #[] 9)) := (Below.refl _ _).al le_rfl' _
    have hzwe := Ba.size
    clear hrx hsh Hc3 hc hsz0 HRF hxz hxs
    go_upto_region 4 with (first
      | (at_builtin; refine wpList_append_sl (cells := ncells) rfl _ _ 23 rfl wa.heap.size 9 i0 _ 1 16 Tryd.underlying23 hi0 iz0 iz1 iz2 rfl (by decide) ncells_len ncells_one _ [] rfl hown0 oad ocap l w.heap.size rfl (hl.below (Ba.trans (Ke.mono hzwe))) (by unfold maxLen; simp; omega) (by simp; omega) Ke.size ?_; intro v1 w1 hown1 hg1 hnn1; rw [List.nil_append] at hown1; have K1 := owns_grown_below Ke hown0 hg1 Ke.size; obtain ⟨ad2, cp2, rfl, hsl3⟩ := slOwn ncells_len hown1; have hcal := HSM.out ad2 cp2 w1.heap.size w1 (Nat.le_refl _) (Nat.le_trans hzwe K1.size) (Ba.trans (K1.mono hzwe)) hsl3)
      | (go_at_call 10; (with_reducible refine hcal.mono ?_); rintro r wf ⟨rfl, bf⟩))
    have Bf := (Ba.trans (K1.mono hzwe)).tr le_rfl' bf
    have hrf2 := hrf wf Bf
    clear hown0 hown1 hg1 hnn1 hcal hsl3 HSM hrf Ke
    go_wp2_with (first
      | (go_at_call 11; (with_reducible refine hrf2.mono ?_); rintro r wg ⟨rfl, bg⟩; have Bg := Bf.tr le_rfl' bg)
      | (go_at_call 12; (with_reducible refine (hnum _ _).mono ?_); rintro rr ww ⟨rfl, hw'⟩; have hw2 := hw'.symm; subst hw2)
      | (go_at_call 9; (with_reducible refine (hli _ Bg).mono ?_); rintro r wz ⟨rfl, bz⟩))
    go_ret
    exact ⟨rfl, Bg.tr le_rfl' bz⟩
end Go.Proofs.YtfkabkbnfeiggaaDoor
