/-
  The statement TypesClosed: its walk.
-/
import Derived.Test.YtgfdegogknoknaaDoorEqC
import Derived.Test.YtgfdegogknoknaaDoorJP
import Derived.Test.YtgfdegogknoknaaDoorSmA
import Derived.Deep.RegionHeld3
import Derived.Test.YtgfdegogknoknaaDoorJT
namespace Go.Proofs.YtgfdegogknoknaaDoor
open Go.RowKit
end Go.Proofs.YtgfdegogknoknaaDoor
namespace Go.Proofs.YtgfdegogknoknaaDoor
open Go.RowKit
theorem all2_refl {α : Type} (f : α → α → Bool) (l : List α) (h : ∀ x ∈ l, f x x = true) : all2 f l l = true := by
  induction l with
  | nil => rfl
  | cons x r ih => rw [all2, h x (List.mem_cons_self ..), ih (fun y hy => h y (List.mem_cons_of_mem _ hy))]; rfl
theorem exSame_refl (e : Ex) : e.same e = true := by
  induction e using Ex.ind with
  | h op mon name n ad cap kids pos ih =>
    rw [Ex.same, Ex.sameL_eq, all2_refl _ _ ih]
    simp
theorem stSame_refl (s : St) : s.same s = true :=
  St.ind (P := fun s => s.same s = true) (Q := fun b => b.same b = true)
    (fun kind mon name n e ad cap blocks pos ih => by rw [St.same, Bl.sameL_eq, all2_refl _ _ ih, exSame_refl]; simp)
    (fun ad cap body ih => by rw [Bl.same, St.sameL_eq, all2_refl _ _ ih]) s
theorem blSame_body (ad ad' : Option Addr) (cap cap' : Nat) (body : List St) : (Bl.mk ad cap body).same (.mk ad' cap' body) = true := by
  rw [Bl.same, St.sameL_eq]
  exact all2_refl _ _ fun s _ => stSame_refl s
/-- A place and whether there is one, in one form. -/
def fbI : Option Nat → Int
  | some i => (i : Int)
  | none => 0
theorem firstUni {f : FuncId} {args : Array Value} {o : Option Nat} {w : World} (h : Calls Tryd.prog f args w fun r w' => FirstBack o w w' r) : Calls Tryd.prog f args w fun r w' => r = .returned (.tuple #[.int .i64 (fbI o), .bool o.isSome]) ∧ Below w.heap.size w w' :=
  h.mono fun r w' hh => by
    rcases hh.1 with ⟨rfl, h2⟩ | ⟨a, rfl, h2⟩
    · exact ⟨h2, hh.2⟩
    · exact ⟨h2, hh.2⟩
def mNm : Option Me → ByteArray
  | some m => m.name
  | none => ⟨#[]⟩
def mPs : Option Me → Int
  | some m => m.pos
  | none => 0
def mBd : Option Me → List St
  | some m => m.body.body
  | none => []
theorem methUni {f : FuncId} {args : Array Value} {o : Option Me} {w : World} (h : Calls Tryd.prog f args w fun r w' => MethBack o w w' r) : Calls Tryd.prog f args w fun r w' => ∃ ad cap, r = .returned (.tuple #[.agg #[.string (mNm o), .slice ad (mBd o).length cap, .int .i64 (mPs o)], .bool o.isSome]) ∧ (Bl.mk ad cap (mBd o)).Is w'.heap.size w' ∧ Below w.heap.size w w' :=
  h.mono fun r w' hh => by
    rcases hh.1 with ⟨rfl, h2⟩ | ⟨m, ad, cap, rfl, h2, h3⟩
    · exact ⟨none, 0, h2, Bl.Is.up ⟨⟨Nat.le_refl _, Nat.zero_le _, .inl rfl⟩, fun s hs => by cases hs⟩, hh.2⟩
    · exact ⟨ad, cap, h2, h3, hh.2⟩
theorem slotsUni {f : FuncId} {args : Array Value} {l : List Mo} {w : World} (h : Calls Tryd.prog f args w fun r w' => SlotsBack l w w' r) : Calls Tryd.prog f args w fun r w' => ∃ ad cap, r = .returned (.slice ad (allV l).length cap) ∧ SlAt 6 Va.cells w'.heap.size w' ad cap (allV l) ∧ Below w.heap.size w w' :=
  h.mono fun r w' ⟨v, h1, h2, h3⟩ => by
    obtain ⟨ad, cp, rfl, h4⟩ := slOwn Va.len h2
    exact ⟨ad, cp, h1, h4, h3⟩
theorem vsum_small (l : List Mo) (h1 : l.length ≤ 20) (h2 : ∀ m ∈ l, m.vars.length ≤ 40) : vsum l ≤ 1000000 := by
  have h : vsum l ≤ 40 * l.length := by
    clear h1
    induction l with
    | nil => exact Nat.le_refl _
    | cons m r ih =>
      have h3 := ih (fun x hx => h2 x (List.mem_cons_of_mem _ hx))
      have h4 := h2 m (List.mem_cons_self ..)
      rw [vsum, List.map_cons, List.sum_cons, List.length_cons]
      rw [vsum] at h3
      omega
  omega
theorem sum_mem {α : Type} (f : α → Nat) (l : List α) (x : α) (h : x ∈ l) : f x ≤ (l.map f).sum := by
  induction l with
  | nil => cases h
  | cons y r ih =>
    rw [List.map_cons, List.sum_cons]
    rcases List.mem_cons.1 h with rfl | h
    · omega
    · have := ih h; omega
theorem len_sum {α : Type} (f : α → Nat) (l : List α) (h : ∀ x ∈ l, 1 ≤ f x) : l.length ≤ (l.map f).sum := by
  induction l with
  | nil => exact Nat.le_refl _
  | cons y r ih =>
    rw [List.map_cons, List.sum_cons, List.length_cons]
    have h1 := ih (fun x hx => h x (List.mem_cons_of_mem _ hx))
    have h2 := h y (List.mem_cons_self ..)
    omega
theorem bl_len (b : Bl) : b.body.length ≤ b.sz := by
  rcases b with ⟨ad, cap, body⟩
  rw [Bl.sz_mk]
  refine len_sum St.tot body fun s _ => ?_
  rcases s with ⟨kind, mon, name, n, e, ad, cap, blocks, pos⟩
  rw [St.tot_mk]
  omega
theorem body_small (p : Pr) (h : p.size ≤ 400) : ∀ m ∈ p.mons, ∀ f ∈ m.meths, f.body.body.length ≤ 1000000 := by
  intro m hm f hf
  rw [pr_size] at h
  have h1 := sum_mem Mo.msz p.mons m hm
  have h2 := sum_mem Me.bsz m.meths f hf
  have h3 : f.body.body.length ≤ f.body.sz := bl_len f.body
  have e1 : m.msz = (m.meths.map Me.bsz).sum := rfl
  have e2 : f.bsz = f.body.sz := rfl
  omega
end Go.Proofs.YtgfdegogknoknaaDoor
namespace Go.Proofs.YtgfdegogknoknaaDoor
open Go.RowKit
theorem monAt_ix (l : List Mo) (mon : ByteArray) : monAt l mon = match monIx l mon with | some i => l[i]? | none => none := by
  induction l with
  | nil => rfl
  | cons m r ih =>
    rw [monAt, List.find?_cons, monIx, List.findIdx?_cons]
    by_cases h : m.name = mon
    · simp [h]
    · simp only [h, decide_false, Bool.false_eq_true, if_false]
      rw [monAt, monIx] at ih
      rw [ih]
      cases r.findIdx? (fun m => decide (m.name = mon)) with
      | none => rfl
      | some i => rfl
theorem mon_lk (p : Pr) (mon : ByteArray) : (monIx p.mons mon).isSome = p.lk.M mon := by
  show _ = (monAt p.mons mon).isSome
  rw [monAt_ix]
  cases h : monIx p.mons mon with
  | none => rfl
  | some i => simp [List.getElem?_eq_getElem (fidx_lt h)]
theorem slot_lk (p : Pr) (mon name : ByteArray) : (slotIx p.mons mon name).isSome = p.lk.V mon name := by
  simp only [Pr.lk]
  rw [monAt_ix]
  cases h : monIx p.mons mon with
  | none => rw [slotIx_no h]; rfl
  | some i =>
    rw [slotIx_at h (fidx_lt h)]
    simp only [List.getElem?_eq_getElem (fidx_lt h), Option.isSome_map, List.findIdx?_isSome]
theorem meth_lk (p : Pr) (mon name : ByteArray) : (methIx p.mons mon name).isSome = p.lk.F mon name := by
  simp only [Pr.lk]
  rw [monAt_ix]
  cases h : monIx p.mons mon with
  | none => rw [methIx_no h]; rfl
  | some i =>
    have hi := fidx_lt h
    simp only [List.getElem?_eq_getElem hi]
    cases h2 : p.mons[i].meths.findIdx? (fun v => decide (v.name = name)) with
    | none =>
      rw [methIx_no2 h hi h2, ← List.findIdx?_isSome, h2]; rfl
    | some k =>
      rw [methIx_at h hi h2 (fidx_lt h2), ← List.findIdx?_isSome, h2]; rfl
theorem below_drewV {B : Nat} {w w' : World} (h : Below B w w') : Below B w w'.drew := ⟨h.os, h.tape, h.output, h.size, h.block⟩
set_option maxRecDepth 100000 in
set_option maxHeartbeats 8000000 in
theorem refExpr_any (p : Pr) (hvs : vsum p.mons ≤ 1000000) (e : Ex) : ∀ (n₀ : Nat) (w : World), n₀ ≤ w.heap.size → p.Is n₀ w → e.Is n₀ w →
    Calls Tryd.prog 70 #[p.val, e.val] w fun r w' => ErrBack 61 (e.unk p.lk) w w' r := by
  induction e using Ex.ind with
  | h op mon name n ad cap kids pos ih =>
  intro n₀ w hn hp hI
  have HU := hid (Ex.unk_mk p.lk op mon name n ad cap kids pos)
  have hIk := hI.down.2.2
  have hsl := hI.down.2.1
  have hl1 := hsl.1; have hl2 := hsl.2.1
  unfold maxLen at hl2
  have h15 : ∀ W, Below w.heap.size w W → Calls Tryd.prog 38 #[p.val, .string mon, .string name] W fun r w' => r = .returned (.tuple #[.int .i64 (fbI (slotIx p.mons mon name)), .bool (slotIx p.mons mon name).isSome]) ∧ Below W.heap.size W w' := fun W hW => firstUni (refSlot_any p mon name n₀ W (by have := hW.size; omega) (hp.below (hW.mono hn)) hvs)
  rw [slot_lk] at h15
  obtain ⟨rv, hrv⟩ : ∃ rv, p.lk.V mon name = rv := ⟨_, rfl⟩
  obtain ⟨fi, hfi⟩ : ∃ fi, fbI (slotIx p.mons mon name) = fi := ⟨_, rfl⟩
  rw [hrv] at HU
  rw [hrv, hfi] at h15
  clear hrv hfi
  obtain ⟨mad, mcap, mons, rad, rcap, roles, HPP⟩ : ∃ mad mcap mons rad rcap roles, Hid (p = ⟨mad, mcap, mons, rad, rcap, roles⟩) := ⟨_, _, _, _, _, _, rfl⟩
  have e1 : p.val = .agg #[.slice mad mons.length mcap, .slice rad roles.length rcap] := by rw [HPP.out]; rfl
  rw [e1] at h15
  simp only [Ex.val, Ex.cells]
  rw [e1]
  have HE1 := hid e1
  clear e1
  go_enter Tryd.func70, Tryd.ntmps70
  go_upto_region 1 with fail
  obtain ⟨bR, bX, hB, hz⟩ := two_box w #[.slice mad mons.length mcap, .slice rad roles.length rcap] #[.int .i64 op, .string mon, .string name, .int .i64 n, .slice ad kids.length cap, .int .i64 pos] 25 28
  obtain ⟨W0, hW0⟩ : ∃ W0, (w.alloc (.cells #[.slice mad mons.length mcap, .slice rad roles.length rcap] 25)).alloc (.cells #[.int .i64 op, .string mon, .string name, .int .i64 n, .slice ad kids.length cap, .int .i64 pos] 28) = W0 := ⟨_, rfl⟩
  rw [hW0] at bR bX hB hz ⊢
  clear hW0
  have hq15 := h15 W0 hB
  clear h15
  have r0 := cellOf bR 0
  have r1 := cellOf bR 1
  have s0 := cellOf bX 0
  have s1 := cellOf bX 1
  have s2 := cellOf bX 2
  have s4 := cellOf bX 4
  have s5 := cellOf bX 5
  simp at r0 r1 s0 s1 s2 s4 s5
  have HZ := hid hz
  clear hz bX bR
  by_cases h4 : op = 4
  · subst h4
    cases rv
    · rw [if_pos ⟨rfl, rfl⟩] at HU
      go_wp2_with (go_at_call 38; (with_reducible refine hq15.mono ?_); rintro r u1 ⟨rfl, bb1⟩; have y5 := (bb1.cell (p := ⟨w.heap.size + 1, 5, none⟩) (by show w.heap.size + 1 < _; have := HZ.out; omega)).trans s5)
      go_quiet (fail)
      go_wp2
      go_ret2
      exact errBack_yes HU.out (below_drewN (hB.tr le_rfl' bb1) _)
    · rw [if_neg (by simp)] at HU
      go_wp2_with (go_at_call 38; (with_reducible refine hq15.mono ?_); rintro r u1 ⟨rfl, bb1⟩)
      clear hq15
      go_loopw [8] (fun i wr => ∃ j : Nat, j ≤ kids.length ∧ i = .int .i64 j ∧ Hid (Ex.unkL p.lk kids = Ex.unkL p.lk (kids.drop j)) ∧ Below W0.heap.size W0 wr)
        (fun i _ => kids.length - (intOf i).toNat)
      case atStart => exact ⟨0, by omega, rfl, rfl, bb1⟩
      case round =>
        obtain ⟨j, hj, rfl, HQ, hbw⟩ := hrel
        have hz1 := hbw.size
        have hz0 := HZ.out
        have hbF : Below w.heap.size w wr := hB.trans (hbw.mono (by omega))
        have hb0 : Below n₀ w wr := hbF.mono hn
        have y4 := (hbw.cell (p := ⟨w.heap.size + 1, 4, none⟩) (by show w.heap.size + 1 < _; omega)).trans s4
        by_cases hlt : j < kids.length
        · rcases hsl.2.2 with h | ⟨kb, koff, rfl, hbn, hrow⟩
          · subst h; simp at hlt
          have hji : (j : Int) < (kids.length : Int) := by omega
          have hbn2 : kb < wr.heap.size := by omega
          have HD := hid (Ex.unkL_drop p.lk kids j hlt)
          have hrj := hrow.below hb0 hbn
          have hq : ∀ W, Below wr.heap.size wr W → Calls Tryd.prog 70 #[p.val, kids[j].val] W fun r w' => ErrBack 61 (kids[j].unk p.lk) W w' r := fun W hW => ih _ (List.getElem_mem hlt) n₀ W (by have := hW.size; omega) ((hp.below hb0).below (hW.mono (by omega))) ((hIk _ (List.getElem_mem hlt)).below (hb0.trans (hW.mono (by omega))))
          obtain ⟨u, hu⟩ : ∃ u, kids[j].unk p.lk = u := ⟨_, rfl⟩
          simp only [hu, HE1.out] at hq
          rw [hu] at HD
          clear hu
          have x0 := (hbw.cell (p := ⟨w.heap.size, 0, none⟩) (by show w.heap.size < _; omega)).trans r0
          have x1 := (hbw.cell (p := ⟨w.heap.size, 1, none⟩) (by show w.heap.size < _; omega)).trans r1
          rcases he' : kids[j] with ⟨op', mon', name', n', ad', cp', kids', pos'⟩
          obtain ⟨c0, c1, c2, c3, c4, c5⟩ := row6 hrj j hlt (by rw [he']; rfl)
          simp only [he', Ex.val, Ex.cells] at hq
          clear he' ih
          have HK : Hid (∀ W, Below wr.heap.size wr W → W.cell? ⟨w.heap.size, 0, none⟩ = some (.slice mad mons.length mcap) ∧ W.cell? ⟨w.heap.size, 1, none⟩ = some (.slice rad roles.length rcap) ∧ W.cell? ⟨w.heap.size + 1, 4, none⟩ = some (.slice (some ⟨kb, koff, none⟩) kids.length cap) ∧ W.cell? ⟨kb, koff + j * 6, none⟩ = some (.int .i64 op') ∧ W.cell? ⟨kb, koff + j * 6 + 1, none⟩ = some (.string mon') ∧ W.cell? ⟨kb, koff + j * 6 + 2, none⟩ = some (.string name') ∧ W.cell? ⟨kb, koff + j * 6 + 3, none⟩ = some (.int .i64 n') ∧ W.cell? ⟨kb, koff + j * 6 + 4, none⟩ = some (.slice ad' kids'.length cp') ∧ W.cell? ⟨kb, koff + j * 6 + 5, none⟩ = some (.int .i64 pos')) := fun W hW => ⟨(hW.cell (p := ⟨w.heap.size, 0, none⟩) (by show w.heap.size < _; omega)).trans x0, (hW.cell (p := ⟨w.heap.size, 1, none⟩) (by show w.heap.size < _; omega)).trans x1, (hW.cell (p := ⟨w.heap.size + 1, 4, none⟩) (by show w.heap.size + 1 < _; omega)).trans y4, (hW.cell (p := ⟨kb, _, none⟩) hbn2).trans c0, (hW.cell (p := ⟨kb, _, none⟩) hbn2).trans c1, (hW.cell (p := ⟨kb, _, none⟩) hbn2).trans c2, (hW.cell (p := ⟨kb, _, none⟩) hbn2).trans c3, (hW.cell (p := ⟨kb, _, none⟩) hbn2).trans c4, (hW.cell (p := ⟨kb, _, none⟩) hbn2).trans c5⟩
          have B := below_drewV (Below.refl wr.heap.size wr)
          clear c0 c1 c2 c3 c4 c5 x0 x1
          rcases u with _ | a
          · have hq := fun W hW => ErrBack.no (hq W hW) rfl
            go_wp2
            go_region_held3 (fun W => W.cell? ⟨w.heap.size, 0, none⟩ = some (.slice mad mons.length mcap) ∧ W.cell? ⟨w.heap.size, 1, none⟩ = some (.slice rad roles.length rcap) ∧ W.cell? ⟨w.heap.size + 1, 4, none⟩ = some (.slice (some ⟨kb, koff, none⟩) kids.length cap) ∧ W.cell? ⟨kb, koff + j * 6, none⟩ = some (.int .i64 op') ∧ W.cell? ⟨kb, koff + j * 6 + 1, none⟩ = some (.string mon') ∧ W.cell? ⟨kb, koff + j * 6 + 2, none⟩ = some (.string name') ∧ W.cell? ⟨kb, koff + j * 6 + 3, none⟩ = some (.int .i64 n') ∧ W.cell? ⟨kb, koff + j * 6 + 4, none⟩ = some (.slice ad' kids'.length cp') ∧ W.cell? ⟨kb, koff + j * 6 + 5, none⟩ = some (.int .i64 pos')) (exact HK.out _ B) (first | (go_at_call 70; (with_reducible refine (hq _ B).mono ?_); rintro r w1 ⟨rfl, bb⟩; have B := B.tr le_rfl' bb))
            all_goals go_wp2
            all_goals go_roundw
            case rel => exact ⟨j + 1, by omega, by go_num, by show _ = _; rw [HQ.out, HD.out]; rfl, hbw.tr le_rfl' B⟩
            case measure => simp [intOf]; omega
          · have hq := fun W hW => ErrBack.yes (hq W hW) rfl
            go_wp2
            go_region_held3 (fun W => W.cell? ⟨w.heap.size, 0, none⟩ = some (.slice mad mons.length mcap) ∧ W.cell? ⟨w.heap.size, 1, none⟩ = some (.slice rad roles.length rcap) ∧ W.cell? ⟨w.heap.size + 1, 4, none⟩ = some (.slice (some ⟨kb, koff, none⟩) kids.length cap) ∧ W.cell? ⟨kb, koff + j * 6, none⟩ = some (.int .i64 op') ∧ W.cell? ⟨kb, koff + j * 6 + 1, none⟩ = some (.string mon') ∧ W.cell? ⟨kb, koff + j * 6 + 2, none⟩ = some (.string name') ∧ W.cell? ⟨kb, koff + j * 6 + 3, none⟩ = some (.int .i64 n') ∧ W.cell? ⟨kb, koff + j * 6 + 4, none⟩ = some (.slice ad' kids'.length cp') ∧ W.cell? ⟨kb, koff + j * 6 + 5, none⟩ = some (.int .i64 pos')) (exact HK.out _ B) (first | (go_at_call 70; (with_reducible refine (hq _ B).mono ?_); rintro r w1 ⟨rfl, bb⟩; have B := B.tr le_rfl' bb))
            all_goals go_wp2
            all_goals go_ret2
            all_goals exact errBack_yes (by rw [HU.out, HQ.out, HD.out]; rfl) (hbF.tr le_rfl' B)
        · have hjd : decide ((j : Int) < (kids.length : Int)) = false := by simp; omega
          go_wp2
          go_ret2
          exact errBack_no (by rw [HU.out, HQ.out, Ex.unkL_end _ _ _ (by omega)]) hbF
  · have h4b : (op == 4) = false := by rw [beq_eq_false_iff_ne]; exact h4
    rw [if_neg (fun h => h4 h.1)] at HU
    clear h4 hq15
    go_wp2
    go_loopw [8] (fun i wr => ∃ j : Nat, j ≤ kids.length ∧ i = .int .i64 j ∧ Hid (Ex.unkL p.lk kids = Ex.unkL p.lk (kids.drop j)) ∧ Below W0.heap.size W0 wr)
      (fun i _ => kids.length - (intOf i).toNat)
    case atStart => exact ⟨0, by omega, rfl, rfl, Below.refl _ _⟩
    case round =>
      obtain ⟨j, hj, rfl, HQ, hbw⟩ := hrel
      have hz1 := hbw.size
      have hz0 := HZ.out
      have hbF : Below w.heap.size w wr := hB.trans (hbw.mono (by omega))
      have hb0 : Below n₀ w wr := hbF.mono hn
      have y4 := (hbw.cell (p := ⟨w.heap.size + 1, 4, none⟩) (by show w.heap.size + 1 < _; omega)).trans s4
      by_cases hlt : j < kids.length
      · rcases hsl.2.2 with h | ⟨kb, koff, rfl, hbn, hrow⟩
        · subst h; simp at hlt
        have hji : (j : Int) < (kids.length : Int) := by omega
        have hbn2 : kb < wr.heap.size := by omega
        have HD := hid (Ex.unkL_drop p.lk kids j hlt)
        have hrj := hrow.below hb0 hbn
        have hq : ∀ W, Below wr.heap.size wr W → Calls Tryd.prog 70 #[p.val, kids[j].val] W fun r w' => ErrBack 61 (kids[j].unk p.lk) W w' r := fun W hW => ih _ (List.getElem_mem hlt) n₀ W (by have := hW.size; omega) ((hp.below hb0).below (hW.mono (by omega))) ((hIk _ (List.getElem_mem hlt)).below (hb0.trans (hW.mono (by omega))))
        obtain ⟨u, hu⟩ : ∃ u, kids[j].unk p.lk = u := ⟨_, rfl⟩
        simp only [hu, HE1.out] at hq
        rw [hu] at HD
        clear hu
        have x0 := (hbw.cell (p := ⟨w.heap.size, 0, none⟩) (by show w.heap.size < _; omega)).trans r0
        have x1 := (hbw.cell (p := ⟨w.heap.size, 1, none⟩) (by show w.heap.size < _; omega)).trans r1
        rcases he' : kids[j] with ⟨op', mon', name', n', ad', cp', kids', pos'⟩
        obtain ⟨c0, c1, c2, c3, c4, c5⟩ := row6 hrj j hlt (by rw [he']; rfl)
        simp only [he', Ex.val, Ex.cells] at hq
        clear he' ih
        have HK : Hid (∀ W, Below wr.heap.size wr W → W.cell? ⟨w.heap.size, 0, none⟩ = some (.slice mad mons.length mcap) ∧ W.cell? ⟨w.heap.size, 1, none⟩ = some (.slice rad roles.length rcap) ∧ W.cell? ⟨w.heap.size + 1, 4, none⟩ = some (.slice (some ⟨kb, koff, none⟩) kids.length cap) ∧ W.cell? ⟨kb, koff + j * 6, none⟩ = some (.int .i64 op') ∧ W.cell? ⟨kb, koff + j * 6 + 1, none⟩ = some (.string mon') ∧ W.cell? ⟨kb, koff + j * 6 + 2, none⟩ = some (.string name') ∧ W.cell? ⟨kb, koff + j * 6 + 3, none⟩ = some (.int .i64 n') ∧ W.cell? ⟨kb, koff + j * 6 + 4, none⟩ = some (.slice ad' kids'.length cp') ∧ W.cell? ⟨kb, koff + j * 6 + 5, none⟩ = some (.int .i64 pos')) := fun W hW => ⟨(hW.cell (p := ⟨w.heap.size, 0, none⟩) (by show w.heap.size < _; omega)).trans x0, (hW.cell (p := ⟨w.heap.size, 1, none⟩) (by show w.heap.size < _; omega)).trans x1, (hW.cell (p := ⟨w.heap.size + 1, 4, none⟩) (by show w.heap.size + 1 < _; omega)).trans y4, (hW.cell (p := ⟨kb, _, none⟩) hbn2).trans c0, (hW.cell (p := ⟨kb, _, none⟩) hbn2).trans c1, (hW.cell (p := ⟨kb, _, none⟩) hbn2).trans c2, (hW.cell (p := ⟨kb, _, none⟩) hbn2).trans c3, (hW.cell (p := ⟨kb, _, none⟩) hbn2).trans c4, (hW.cell (p := ⟨kb, _, none⟩) hbn2).trans c5⟩
        have B := below_drewV (Below.refl wr.heap.size wr)
        clear c0 c1 c2 c3 c4 c5 x0 x1
        rcases u with _ | a
        · have hq := fun W hW => ErrBack.no (hq W hW) rfl
          go_wp2
          go_region_held3 (fun W => W.cell? ⟨w.heap.size, 0, none⟩ = some (.slice mad mons.length mcap) ∧ W.cell? ⟨w.heap.size, 1, none⟩ = some (.slice rad roles.length rcap) ∧ W.cell? ⟨w.heap.size + 1, 4, none⟩ = some (.slice (some ⟨kb, koff, none⟩) kids.length cap) ∧ W.cell? ⟨kb, koff + j * 6, none⟩ = some (.int .i64 op') ∧ W.cell? ⟨kb, koff + j * 6 + 1, none⟩ = some (.string mon') ∧ W.cell? ⟨kb, koff + j * 6 + 2, none⟩ = some (.string name') ∧ W.cell? ⟨kb, koff + j * 6 + 3, none⟩ = some (.int .i64 n') ∧ W.cell? ⟨kb, koff + j * 6 + 4, none⟩ = some (.slice ad' kids'.length cp') ∧ W.cell? ⟨kb, koff + j * 6 + 5, none⟩ = some (.int .i64 pos')) (exact HK.out _ B) (first | (go_at_call 70; (with_reducible refine (hq _ B).mono ?_); rintro r w1 ⟨rfl, bb⟩; have B := B.tr le_rfl' bb))
          all_goals go_wp2
          all_goals go_roundw
          case rel => exact ⟨j + 1, by omega, by go_num, by show _ = _; rw [HQ.out, HD.out]; rfl, hbw.tr le_rfl' B⟩
          case measure => simp [intOf]; omega
        · have hq := fun W hW => ErrBack.yes (hq W hW) rfl
          go_wp2
          go_region_held3 (fun W => W.cell? ⟨w.heap.size, 0, none⟩ = some (.slice mad mons.length mcap) ∧ W.cell? ⟨w.heap.size, 1, none⟩ = some (.slice rad roles.length rcap) ∧ W.cell? ⟨w.heap.size + 1, 4, none⟩ = some (.slice (some ⟨kb, koff, none⟩) kids.length cap) ∧ W.cell? ⟨kb, koff + j * 6, none⟩ = some (.int .i64 op') ∧ W.cell? ⟨kb, koff + j * 6 + 1, none⟩ = some (.string mon') ∧ W.cell? ⟨kb, koff + j * 6 + 2, none⟩ = some (.string name') ∧ W.cell? ⟨kb, koff + j * 6 + 3, none⟩ = some (.int .i64 n') ∧ W.cell? ⟨kb, koff + j * 6 + 4, none⟩ = some (.slice ad' kids'.length cp') ∧ W.cell? ⟨kb, koff + j * 6 + 5, none⟩ = some (.int .i64 pos')) (exact HK.out _ B) (first | (go_at_call 70; (with_reducible refine (hq _ B).mono ?_); rintro r w1 ⟨rfl, bb⟩; have B := B.tr le_rfl' bb))
          all_goals go_wp2
          all_goals go_ret2
          all_goals exact errBack_yes (by rw [HU.out, HQ.out, HD.out]; rfl) (hbF.tr le_rfl' B)
      · have hjd : decide ((j : Int) < (kids.length : Int)) = false := by simp; omega
        go_wp2
        go_ret2
        exact errBack_no (by rw [HU.out, HQ.out, Ex.unkL_end _ _ _ (by omega)]) hbF
end Go.Proofs.YtgfdegogknoknaaDoor
namespace Go.Proofs.YtgfdegogknoknaaDoor
open Go.RowKit
theorem St.tycL_none (l : List Mo) (b : List St) : St.tycL l b = none ↔ ∀ s ∈ b, s.tyc l = none := by
  induction b with
  | nil => simp [St.tycL]
  | cons s r ih => rw [St.tycL, Option.or_eq_none_iff, ih]; simp
theorem Bl.tycL_none (l : List Mo) (b : List Bl) : Bl.tycL l b = none ↔ ∀ s ∈ b, s.tyc l = none := by
  induction b with
  | nil => simp [Bl.tycL]
  | cons s r ih => rw [Bl.tycL, Option.or_eq_none_iff, ih]; simp
theorem own_test {l : List Mo} {kind : Int} {mon name : ByteArray} {e : Ex} (h : stOwn l kind mon name e = none) (hk : kind = 3 ∨ kind = 4) : e.tero l = none ∧ e.is l = 1 := by
  have hw : stWant l kind mon name = some 1 := by
    rw [stWant, if_neg (by omega), if_pos hk]
  rw [stOwn, hw] at h
  simp only [Option.or_eq_none_iff] at h
  refine ⟨h.1, ?_⟩
  have h2 := h.2
  split at h2
  · assumption
  · cases h2
theorem own_pos {l : List Mo} {kind : Int} {mon name : ByteArray} {e : Ex} {c a : Int} (h : stOwn l kind mon name e = some (c, a)) : c ≠ 0 := by
  rw [stOwn] at h
  split at h
  · cases h
  · cases ht : e.tero l with
    | some x =>
      rw [ht] at h
      simp only [Option.some_or, Option.some.injEq] at h
      rw [h] at ht
      exact Ex.tero_pos l e c a ht
    | none =>
      rw [ht] at h
      simp only [Option.none_or] at h
      split at h
      · cases h
      · cases h; decide
theorem Bl.tyc_pos (l : List Mo) (b : Bl) : ∀ c a, b.tyc l = some (c, a) → c ≠ 0 :=
  Bl.ind (P := fun s => ∀ c a, s.tyc l = some (c, a) → c ≠ 0) (Q := fun b => ∀ c a, b.tyc l = some (c, a) → c ≠ 0)
    (fun kind mon name n e ad cap blocks pos ih c a h => by
      rw [St.tyc_mk] at h
      cases ho : stOwn l kind mon name e with
      | some x =>
        rw [ho] at h
        simp only [Option.some_or, Option.some.injEq] at h
        rw [h] at ho
        exact own_pos ho
      | none =>
        rw [ho] at h
        simp only [Option.none_or] at h
        have : ∀ bs : List Bl, (∀ x ∈ bs, x ∈ blocks) → Bl.tycL l bs = some (c, a) → c ≠ 0 := by
          intro bs
          induction bs with
          | nil => intro _ h; cases h
          | cons x r ih2 =>
            intro hm h
            rw [Bl.tycL] at h
            cases hx : x.tyc l with
            | some y =>
              rw [hx] at h
              simp only [Option.some_or, Option.some.injEq] at h
              rw [h] at hx
              exact ih x (hm x (by simp)) c a hx
            | none => rw [hx] at h; exact ih2 (fun z hz => hm z (by simp [hz])) h
        exact this blocks (fun _ h => h) h)
    (fun ad cap body ih c a h => by
      rw [Bl.tyc_mk] at h
      have : ∀ bs : List St, (∀ x ∈ bs, x ∈ body) → St.tycL l bs = some (c, a) → c ≠ 0 := by
        intro bs
        induction bs with
        | nil => intro _ h; cases h
        | cons x r ih2 =>
          intro hm h
          rw [St.tycL] at h
          cases hx : x.tyc l with
          | some y =>
            rw [hx] at h
            simp only [Option.some_or, Option.some.injEq] at h
            rw [h] at hx
            exact ih x (hm x (by simp)) c a hx
          | none => rw [hx] at h; exact ih2 (fun z hz => hm z (by simp [hz])) h
      exact this body (fun _ h => h) h) b
theorem fstOf_some {α β : Type} {f : α → Option β} {l : List α} {y : β} (h : fstOf f l = some y) : ∃ x ∈ l, f x = some y := by
  induction l with
  | nil => cases h
  | cons x l ih =>
    rw [fstOf] at h
    cases hx : f x with
    | some z =>
      rw [hx] at h
      simp only [Option.some_or, Option.some.injEq] at h
      exact ⟨x, by simp, by rw [hx, h]⟩
    | none =>
      rw [hx] at h
      obtain ⟨z, hz, h2⟩ := ih h
      exact ⟨z, by simp [hz], h2⟩
theorem tchk_zero {p : Pr} (h : p.tchk.1 = 0) : p.ok = true ∧ ∀ r ∈ p.roles, r.body.tyc p.mons = none := by
  rw [Pr.tchk] at h
  split at h
  · rename_i hn
    refine ⟨(chk_parts hn).1, ?_⟩
    cases ho : (fstOf Mo.offs p.mons).or ((fstOf (Mo.tyc p.mons) p.mons).or (fstOf (Ro.tyc p.mons) p.roles)) with
    | none =>
      simp only [Option.or_eq_none_iff] at ho
      intro r hr
      exact (fstOf_none _ _).1 ho.2.2 r hr
    | some x =>
      exfalso
      obtain ⟨c, a⟩ := x
      rw [ho] at h
      simp only [Option.getD_some] at h
      rw [Option.or_eq_some_iff, Option.or_eq_some_iff] at ho
      rcases ho with ho | ⟨_, ho | ⟨_, ho⟩⟩
      · have := off_pos _ _ _ ho
        rw [bne_iff_ne] at this
        exact this h
      · obtain ⟨m, _, hm⟩ := fstOf_some ho
        obtain ⟨x, _, hx⟩ := fstOf_some hm
        exact Bl.tyc_pos _ _ _ _ hx h
      · obtain ⟨x, _, hx⟩ := fstOf_some ho
        exact Bl.tyc_pos _ _ _ _ hx h
  · rename_i hn
    exact absurd h hn
def TsOk (p : Pr) (x : Bl) : Prop := ∀ (n₀ : Nat) (w : World), n₀ ≤ w.heap.size → p.Is n₀ w → x.Is n₀ w → Shapes w → x.tyc p.mons = none → Calls Tryd.prog 17 #[p.val, x.slice] w fun r w' => r = .returned (.bool true) ∧ Below w.heap.size w w'
set_option maxRecDepth 100000 in
set_option maxHeartbeats 16000000 in
theorem tests_step (p : Pr) (hvs : vsum p.mons ≤ 1000000) (ad : Option Addr) (cap : Nat) (body : List St) (ih : ∀ s ∈ body, ∀ b ∈ s.blocks, TsOk p b) : TsOk p (.mk ad cap body) := by
  intro n₀ w hn hp hI hS hty
  have hs3 := hS.size
  have h13 := num_any
  have hIk := hI.down.2
  have hsl := hI.down.1
  have hl1 := hsl.1; have hl2 := hsl.2.1
  unfold maxLen at hl2
  rw [Bl.tyc_mk, St.tycL_none] at hty
  have h11 : ∀ s ∈ body, (s.e.tero p.mons = none ∧ s.e.is p.mons = 1) → ∀ W, Below w.heap.size w W → Calls Tryd.prog 11 #[p.val, s.e.val] W fun r w' => r = .returned (.tuple #[.int .i64 1, .int .i64 0, .int .i64 0]) ∧ Below W.heap.size W w' := fun s hs h1 W hW => by
    have hIe : s.e.Is n₀ w := by
      have := hIk s hs
      rcases s with ⟨_, _, _, _, e, _, _, _, _⟩
      exact this.down.2.1
    have := TyBack.no (type_any p hvs s.e n₀ W (by have := hW.size; omega) (hp.below (hW.mono hn)) (hIe.below (hW.mono hn)) (hS.below hW hs3)) h1.1
    rw [h1.2] at this
    exact this
  have h17 : ∀ s ∈ body, ∀ b ∈ s.blocks, ∀ W, Below w.heap.size w W → Calls Tryd.prog 17 #[p.val, b.slice] W fun r w' => r = .returned (.bool true) ∧ Below W.heap.size W w' := fun s hs b hb W hW => by
    have hIb : b.Is n₀ w ∧ b.tyc p.mons = none := by
      have h1 := hIk s hs
      have h2 := hty s hs
      rcases s with ⟨_, _, _, _, e, _, _, _, _⟩
      rw [St.tyc_mk, Option.or_eq_none_iff, Bl.tycL_none] at h2
      exact ⟨h1.down.2.2.2 b hb, h2.2 b hb⟩
    exact ih s hs b hb n₀ W (by have := hW.size; omega) (hp.below (hW.mono hn)) (hIb.1.below (hW.mono hn)) (hS.below hW hs3) hIb.2
  have HTY : Hid (∀ s ∈ body, s.tyc p.mons = none) := hty
  clear ih hI hty
  obtain ⟨pad, hpad⟩ : ∃ a, p.mad = a := ⟨_, rfl⟩
  obtain ⟨pml, hpml⟩ : ∃ a, p.mons.length = a := ⟨_, rfl⟩
  obtain ⟨pmc, hpmc⟩ : ∃ a, p.mcap = a := ⟨_, rfl⟩
  obtain ⟨prd, hprd⟩ : ∃ a, p.rad = a := ⟨_, rfl⟩
  obtain ⟨prl, hprl⟩ : ∃ a, p.roles.length = a := ⟨_, rfl⟩
  obtain ⟨prc, hprc⟩ : ∃ a, p.rcap = a := ⟨_, rfl⟩
  simp only [Pr.val, hpad, hpml, hpmc, hprd, hprl, hprc] at h11 h17 ⊢
  clear hpad hpml hpmc hprd hprl hprc hp
  simp only [Bl.slice]
  go_enter Tryd.func17, Tryd.ntmps17
  go_upto_region 1 with fail
  obtain ⟨bR, hB, hz⟩ := one_box w #[.slice pad pml pmc, .slice prd prl prc] 25
  obtain ⟨W0, hW0⟩ : ∃ W0, w.alloc (.cells #[.slice pad pml pmc, .slice prd prl prc] 25) = W0 := ⟨_, rfl⟩
  rw [hW0] at bR hB hz ⊢
  clear hW0
  have r0 := cellOf bR 0
  have r1 := cellOf bR 1
  simp at r0 r1
  have HZ := hid hz
  clear hz bR
  go_wp2
  go_loopw [5] (fun i wr => ∃ j : Nat, j ≤ body.length ∧ i = .int .i64 j ∧ Below W0.heap.size W0 wr)
    (fun i _ => body.length - (intOf i).toNat)
  case atStart => exact ⟨0, by omega, rfl, Below.refl _ _⟩
  case round =>
    obtain ⟨j, hj, rfl, hbw⟩ := hrel
    have hz1 := hbw.size
    have hz0 := HZ.out
    have hbF : Below w.heap.size w wr := hB.trans (hbw.mono (by omega))
    have hb0 : Below n₀ w wr := hbF.mono hn
    by_cases hlt : j < body.length
    · rcases hsl.2.2 with h | ⟨kb, koff, rfl, hbn, hrow⟩
      · subst h; simp at hlt
      have hji : (j : Int) < (body.length : Int) := by omega
      have hbn2 : kb < wr.heap.size := by omega
      have hrj := hrow.below hb0 hbn
      have hT := h17 _ (List.getElem_mem hlt)
      have hEE : (body[j].e.tero p.mons = none ∧ body[j].e.is p.mons = 1) → ∀ W, Below wr.heap.size wr W → Calls Tryd.prog 11 #[.agg #[.slice pad pml pmc, .slice prd prl prc], body[j].e.val] W fun r w' => r = .returned (.tuple #[.int .i64 1, .int .i64 0, .int .i64 0]) ∧ Below W.heap.size W w' := fun h1 W hW => h11 _ (List.getElem_mem hlt) h1 W (hbF.tr le_rfl' hW)
      have HTJ := hid (HTY.out _ (List.getElem_mem hlt))
      have hsB := hIk _ (List.getElem_mem hlt)
      have y0 := (hbw.cell (p := ⟨w.heap.size, 0, none⟩) (by show w.heap.size < _; omega)).trans r0
      have y1 := (hbw.cell (p := ⟨w.heap.size, 1, none⟩) (by show w.heap.size < _; omega)).trans r1
      rcases he' : body[j] with ⟨kind, mon, name, n, ⟨eop, emon, ename, en, ead, ecap, ekids, epos⟩, bad0, bcp, blocks, pos⟩
      obtain ⟨c0, c1, c2, c3, c4, c5, c6, c7, c8, c9, c10, c11⟩ := row12 hrj j hlt (by rw [he']; rfl)
      rw [he'] at hT hsB
      rw [he'] at HTJ
      simp only [St.blocks] at hT
      simp only [he', St.e, Ex.val, Ex.cells] at hEE
      have hslb := hsB.down.2.2.1
      have hlb1 := hslb.1; have hlb2 := hslb.2.1
      unfold maxLen at hlb2
      clear he' h11 h17 hsB c1 c2 c3 c11
      have HOWN : Hid (stOwn p.mons kind mon name (.mk eop emon ename en ead ecap ekids epos) = none) := by
        have h2 := HTJ.out
        rw [St.tyc_mk, Option.or_eq_none_iff] at h2
        exact h2.1
      by_cases k3 : kind = 3
      · subst k3
        have hE := hEE (own_test HOWN.out (.inl rfl))
        have HKE : Hid (∀ W, Below wr.heap.size wr W → W.cell? ⟨w.heap.size, 0, none⟩ = some (.slice pad pml pmc) ∧ W.cell? ⟨w.heap.size, 1, none⟩ = some (.slice prd prl prc) ∧ W.cell? ⟨kb, koff + j * 12 + 4, none⟩ = some (.int .i64 eop) ∧ W.cell? ⟨kb, koff + j * 12 + 5, none⟩ = some (.string emon) ∧ W.cell? ⟨kb, koff + j * 12 + 6, none⟩ = some (.string ename) ∧ W.cell? ⟨kb, koff + j * 12 + 7, none⟩ = some (.int .i64 en) ∧ W.cell? ⟨kb, koff + j * 12 + 8, none⟩ = some (.slice ead ekids.length ecap) ∧ W.cell? ⟨kb, koff + j * 12 + 9, none⟩ = some (.int .i64 epos)) := fun W hW => ⟨(hW.cell (p := ⟨w.heap.size, 0, none⟩) (by show w.heap.size < _; omega)).trans y0, (hW.cell (p := ⟨w.heap.size, 1, none⟩) (by show w.heap.size < _; omega)).trans y1, (hW.cell (p := ⟨kb, _, none⟩) hbn2).trans c4, (hW.cell (p := ⟨kb, _, none⟩) hbn2).trans c5, (hW.cell (p := ⟨kb, _, none⟩) hbn2).trans c6, (hW.cell (p := ⟨kb, _, none⟩) hbn2).trans c7, (hW.cell (p := ⟨kb, _, none⟩) hbn2).trans c8, (hW.cell (p := ⟨kb, _, none⟩) hbn2).trans c9⟩
        have B := below_drewV (Below.refl wr.heap.size wr)
        clear c4 c5 c6 c7 c8 c9
        go_wp2
        go_region_held3 (fun W => W.cell? ⟨w.heap.size, 0, none⟩ = some (.slice pad pml pmc) ∧ W.cell? ⟨w.heap.size, 1, none⟩ = some (.slice prd prl prc) ∧ W.cell? ⟨kb, koff + j * 12 + 4, none⟩ = some (.int .i64 eop) ∧ W.cell? ⟨kb, koff + j * 12 + 5, none⟩ = some (.string emon) ∧ W.cell? ⟨kb, koff + j * 12 + 6, none⟩ = some (.string ename) ∧ W.cell? ⟨kb, koff + j * 12 + 7, none⟩ = some (.int .i64 en) ∧ W.cell? ⟨kb, koff + j * 12 + 8, none⟩ = some (.slice ead ekids.length ecap) ∧ W.cell? ⟨kb, koff + j * 12 + 9, none⟩ = some (.int .i64 epos)) (exact HKE.out _ B) (first | (go_at_call 11; (with_reducible refine (hE _ B).mono ?_); rintro r w1 ⟨rfl, bb⟩; have B := B.tr le_rfl' bb))
        have c10 := (B.cell (p := ⟨kb, _, none⟩) hbn2).trans c10
        go_wp2_with (go_at_call 13; (with_reducible refine (h13 _ _).mono ?_); rintro r w' ⟨rfl, hw'⟩; have hw2 := hw'.symm; subst hw2)
        have c10 := (B.cell (p := ⟨kb, _, none⟩) hbn2).symm.trans c10
        have hBu : Below wr.heap.size wr _ := B
        obtain ⟨wo, hwo⟩ : ∃ wo : World, wo = wr := ⟨_, rfl⟩
        subst hwo
        go_loopw [9] (fun i wr => ∃ k : Nat, k ≤ blocks.length ∧ i = .int .i64 k ∧ Below wo.heap.size wo wr)
          (fun i _ => blocks.length - (intOf i).toNat)
        case atStart => exact ⟨0, by omega, rfl, hBu⟩
        case round =>
          obtain ⟨k, hk, rfl, hbv⟩ := hrel
          have hzv := hbv.size
          have hvF := hbF.tr le_rfl' hbv
          have d10 := (hbv.cell (p := ⟨kb, _, none⟩) hbn2).trans c10
          by_cases hlt2 : k < blocks.length
          · have hki : (k : Int) < (blocks.length : Int) := by omega
            rcases hslb.2.2 with h | ⟨bb, boff, rfl, hkn, hkrow⟩
            · subst h; simp at hlt2
            have hkn2 : bb < wr.heap.size := by omega
            have hkr := hkrow.below (hvF.mono hn) hkn
            have hq : ∀ W, Below wr.heap.size wr W → Calls Tryd.prog 17 #[.agg #[.slice pad pml pmc, .slice prd prl prc], blocks[k].slice] W fun r w' => r = .returned (.bool true) ∧ Below W.heap.size W w' := fun W hW => hT _ (List.getElem_mem hlt2) W (hvF.tr le_rfl' hW)
            rcases he' : blocks[k] with ⟨bad, bcap, bbody⟩
            have c0 := hkr k hlt2 0 (by omega)
            simp only [he', Bl.cells, Bl.slice, Nat.mul_one, Nat.add_zero, List.getElem?_cons_zero] at hq c0
            clear he'
            have z0 := (hbv.cell (p := ⟨w.heap.size, 0, none⟩) (by show w.heap.size < _; omega)).trans y0
            have z1 := (hbv.cell (p := ⟨w.heap.size, 1, none⟩) (by show w.heap.size < _; omega)).trans y1
            have HK2 : Hid (∀ W, Below wr.heap.size wr W → W.cell? ⟨w.heap.size, 0, none⟩ = some (.slice pad pml pmc) ∧ W.cell? ⟨w.heap.size, 1, none⟩ = some (.slice prd prl prc) ∧ W.cell? ⟨kb, koff + j * 12 + 10, none⟩ = some (.slice (some ⟨bb, boff, none⟩) blocks.length bcp) ∧ W.cell? ⟨bb, boff + k, none⟩ = some (.slice bad bbody.length bcap)) := fun W hW => ⟨(hW.cell (p := ⟨w.heap.size, 0, none⟩) (by show w.heap.size < _; omega)).trans z0, (hW.cell (p := ⟨w.heap.size, 1, none⟩) (by show w.heap.size < _; omega)).trans z1, (hW.cell (p := ⟨kb, _, none⟩) (by show kb < _; omega)).trans d10, (hW.cell (p := ⟨bb, _, none⟩) hkn2).trans c0⟩
            have B := below_drewV (Below.refl wr.heap.size wr)
            clear c0 z0 z1
            go_wp2
            all_goals (go_region_held3 (fun W => W.cell? ⟨w.heap.size, 0, none⟩ = some (.slice pad pml pmc) ∧ W.cell? ⟨w.heap.size, 1, none⟩ = some (.slice prd prl prc) ∧ W.cell? ⟨kb, koff + j * 12 + 10, none⟩ = some (.slice (some ⟨bb, boff, none⟩) blocks.length bcp) ∧ W.cell? ⟨bb, boff + k, none⟩ = some (.slice bad bbody.length bcap)) (exact HK2.out _ B) (first | (go_at_call 17; (with_reducible refine (hq _ B).mono ?_); rintro r w1 ⟨rfl, bb⟩; have B := B.tr le_rfl' bb)))
            all_goals go_wp2
            all_goals go_roundw
            all_goals first
              | exact ⟨k + 1, by omega, by go_num, hbv.tr le_rfl' B⟩
              | (simp [intOf]; omega)
          · have hjd2 : decide ((k : Int) < (blocks.length : Int)) = false := by simp; omega
            go_wp2
            all_goals go_roundw
            all_goals first
              | exact ⟨j + 1, by omega, by go_num, hbw.tr le_rfl' hbv⟩
              | (simp [intOf]; omega)
      have k3' : (kind == 3) = false := by rw [beq_eq_false_iff_ne]; exact k3
      by_cases k4 : kind = 4
      · subst k4
        clear k3
        have hE := hEE (own_test HOWN.out (.inr rfl))
        have HKE : Hid (∀ W, Below wr.heap.size wr W → W.cell? ⟨w.heap.size, 0, none⟩ = some (.slice pad pml pmc) ∧ W.cell? ⟨w.heap.size, 1, none⟩ = some (.slice prd prl prc) ∧ W.cell? ⟨kb, koff + j * 12 + 4, none⟩ = some (.int .i64 eop) ∧ W.cell? ⟨kb, koff + j * 12 + 5, none⟩ = some (.string emon) ∧ W.cell? ⟨kb, koff + j * 12 + 6, none⟩ = some (.string ename) ∧ W.cell? ⟨kb, koff + j * 12 + 7, none⟩ = some (.int .i64 en) ∧ W.cell? ⟨kb, koff + j * 12 + 8, none⟩ = some (.slice ead ekids.length ecap) ∧ W.cell? ⟨kb, koff + j * 12 + 9, none⟩ = some (.int .i64 epos)) := fun W hW => ⟨(hW.cell (p := ⟨w.heap.size, 0, none⟩) (by show w.heap.size < _; omega)).trans y0, (hW.cell (p := ⟨w.heap.size, 1, none⟩) (by show w.heap.size < _; omega)).trans y1, (hW.cell (p := ⟨kb, _, none⟩) hbn2).trans c4, (hW.cell (p := ⟨kb, _, none⟩) hbn2).trans c5, (hW.cell (p := ⟨kb, _, none⟩) hbn2).trans c6, (hW.cell (p := ⟨kb, _, none⟩) hbn2).trans c7, (hW.cell (p := ⟨kb, _, none⟩) hbn2).trans c8, (hW.cell (p := ⟨kb, _, none⟩) hbn2).trans c9⟩
        have B := below_drewV (Below.refl wr.heap.size wr)
        clear c4 c5 c6 c7 c8 c9
        go_wp2
        go_region_held3 (fun W => W.cell? ⟨w.heap.size, 0, none⟩ = some (.slice pad pml pmc) ∧ W.cell? ⟨w.heap.size, 1, none⟩ = some (.slice prd prl prc) ∧ W.cell? ⟨kb, koff + j * 12 + 4, none⟩ = some (.int .i64 eop) ∧ W.cell? ⟨kb, koff + j * 12 + 5, none⟩ = some (.string emon) ∧ W.cell? ⟨kb, koff + j * 12 + 6, none⟩ = some (.string ename) ∧ W.cell? ⟨kb, koff + j * 12 + 7, none⟩ = some (.int .i64 en) ∧ W.cell? ⟨kb, koff + j * 12 + 8, none⟩ = some (.slice ead ekids.length ecap) ∧ W.cell? ⟨kb, koff + j * 12 + 9, none⟩ = some (.int .i64 epos)) (exact HKE.out _ B) (first | (go_at_call 11; (with_reducible refine (hE _ B).mono ?_); rintro r w1 ⟨rfl, bb⟩; have B := B.tr le_rfl' bb))
        have c10 := (B.cell (p := ⟨kb, _, none⟩) hbn2).trans c10
        go_wp2_with (go_at_call 13; (with_reducible refine (h13 _ _).mono ?_); rintro r w' ⟨rfl, hw'⟩; have hw2 := hw'.symm; subst hw2)
        have c10 := (B.cell (p := ⟨kb, _, none⟩) hbn2).symm.trans c10
        have hBu : Below wr.heap.size wr _ := B
        obtain ⟨wo, hwo⟩ : ∃ wo : World, wo = wr := ⟨_, rfl⟩
        subst hwo
        go_loopw [9] (fun i wr => ∃ k : Nat, k ≤ blocks.length ∧ i = .int .i64 k ∧ Below wo.heap.size wo wr)
          (fun i _ => blocks.length - (intOf i).toNat)
        case atStart => exact ⟨0, by omega, rfl, hBu⟩
        case round =>
          obtain ⟨k, hk, rfl, hbv⟩ := hrel
          have hzv := hbv.size
          have hvF := hbF.tr le_rfl' hbv
          have d10 := (hbv.cell (p := ⟨kb, _, none⟩) hbn2).trans c10
          by_cases hlt2 : k < blocks.length
          · have hki : (k : Int) < (blocks.length : Int) := by omega
            rcases hslb.2.2 with h | ⟨bb, boff, rfl, hkn, hkrow⟩
            · subst h; simp at hlt2
            have hkn2 : bb < wr.heap.size := by omega
            have hkr := hkrow.below (hvF.mono hn) hkn
            have hq : ∀ W, Below wr.heap.size wr W → Calls Tryd.prog 17 #[.agg #[.slice pad pml pmc, .slice prd prl prc], blocks[k].slice] W fun r w' => r = .returned (.bool true) ∧ Below W.heap.size W w' := fun W hW => hT _ (List.getElem_mem hlt2) W (hvF.tr le_rfl' hW)
            rcases he' : blocks[k] with ⟨bad, bcap, bbody⟩
            have c0 := hkr k hlt2 0 (by omega)
            simp only [he', Bl.cells, Bl.slice, Nat.mul_one, Nat.add_zero, List.getElem?_cons_zero] at hq c0
            clear he'
            have z0 := (hbv.cell (p := ⟨w.heap.size, 0, none⟩) (by show w.heap.size < _; omega)).trans y0
            have z1 := (hbv.cell (p := ⟨w.heap.size, 1, none⟩) (by show w.heap.size < _; omega)).trans y1
            have HK2 : Hid (∀ W, Below wr.heap.size wr W → W.cell? ⟨w.heap.size, 0, none⟩ = some (.slice pad pml pmc) ∧ W.cell? ⟨w.heap.size, 1, none⟩ = some (.slice prd prl prc) ∧ W.cell? ⟨kb, koff + j * 12 + 10, none⟩ = some (.slice (some ⟨bb, boff, none⟩) blocks.length bcp) ∧ W.cell? ⟨bb, boff + k, none⟩ = some (.slice bad bbody.length bcap)) := fun W hW => ⟨(hW.cell (p := ⟨w.heap.size, 0, none⟩) (by show w.heap.size < _; omega)).trans z0, (hW.cell (p := ⟨w.heap.size, 1, none⟩) (by show w.heap.size < _; omega)).trans z1, (hW.cell (p := ⟨kb, _, none⟩) (by show kb < _; omega)).trans d10, (hW.cell (p := ⟨bb, _, none⟩) hkn2).trans c0⟩
            have B := below_drewV (Below.refl wr.heap.size wr)
            clear c0 z0 z1
            go_wp2
            all_goals (go_region_held3 (fun W => W.cell? ⟨w.heap.size, 0, none⟩ = some (.slice pad pml pmc) ∧ W.cell? ⟨w.heap.size, 1, none⟩ = some (.slice prd prl prc) ∧ W.cell? ⟨kb, koff + j * 12 + 10, none⟩ = some (.slice (some ⟨bb, boff, none⟩) blocks.length bcp) ∧ W.cell? ⟨bb, boff + k, none⟩ = some (.slice bad bbody.length bcap)) (exact HK2.out _ B) (first | (go_at_call 17; (with_reducible refine (hq _ B).mono ?_); rintro r w1 ⟨rfl, bb⟩; have B := B.tr le_rfl' bb)))
            all_goals go_wp2
            all_goals go_roundw
            all_goals first
              | exact ⟨k + 1, by omega, by go_num, hbv.tr le_rfl' B⟩
              | (simp [intOf]; omega)
          · have hjd2 : decide ((k : Int) < (blocks.length : Int)) = false := by simp; omega
            go_wp2
            all_goals go_roundw
            all_goals first
              | exact ⟨j + 1, by omega, by go_num, hbw.tr le_rfl' hbv⟩
              | (simp [intOf]; omega)
      have k4' : (kind == 4) = false := by rw [beq_eq_false_iff_ne]; exact k4
      clear k3 k4 hEE c4 c5 c6 c7 c8 c9
      go_wp2
      have hBu : Below wr.heap.size wr wr := Below.refl _ _
      obtain ⟨wo, hwo⟩ : ∃ wo : World, wo = wr := ⟨_, rfl⟩
      subst hwo
      go_loopw [9] (fun i wr => ∃ k : Nat, k ≤ blocks.length ∧ i = .int .i64 k ∧ Below wo.heap.size wo wr)
        (fun i _ => blocks.length - (intOf i).toNat)
      case atStart => exact ⟨0, by omega, rfl, hBu⟩
      case round =>
        obtain ⟨k, hk, rfl, hbv⟩ := hrel
        have hzv := hbv.size
        have hvF := hbF.tr le_rfl' hbv
        have d10 := (hbv.cell (p := ⟨kb, _, none⟩) hbn2).trans c10
        by_cases hlt2 : k < blocks.length
        · have hki : (k : Int) < (blocks.length : Int) := by omega
          rcases hslb.2.2 with h | ⟨bb, boff, rfl, hkn, hkrow⟩
          · subst h; simp at hlt2
          have hkn2 : bb < wr.heap.size := by omega
          have hkr := hkrow.below (hvF.mono hn) hkn
          have hq : ∀ W, Below wr.heap.size wr W → Calls Tryd.prog 17 #[.agg #[.slice pad pml pmc, .slice prd prl prc], blocks[k].slice] W fun r w' => r = .returned (.bool true) ∧ Below W.heap.size W w' := fun W hW => hT _ (List.getElem_mem hlt2) W (hvF.tr le_rfl' hW)
          rcases he' : blocks[k] with ⟨bad, bcap, bbody⟩
          have c0 := hkr k hlt2 0 (by omega)
          simp only [he', Bl.cells, Bl.slice, Nat.mul_one, Nat.add_zero, List.getElem?_cons_zero] at hq c0
          clear he'
          have z0 := (hbv.cell (p := ⟨w.heap.size, 0, none⟩) (by show w.heap.size < _; omega)).trans y0
          have z1 := (hbv.cell (p := ⟨w.heap.size, 1, none⟩) (by show w.heap.size < _; omega)).trans y1
          have HK2 : Hid (∀ W, Below wr.heap.size wr W → W.cell? ⟨w.heap.size, 0, none⟩ = some (.slice pad pml pmc) ∧ W.cell? ⟨w.heap.size, 1, none⟩ = some (.slice prd prl prc) ∧ W.cell? ⟨kb, koff + j * 12 + 10, none⟩ = some (.slice (some ⟨bb, boff, none⟩) blocks.length bcp) ∧ W.cell? ⟨bb, boff + k, none⟩ = some (.slice bad bbody.length bcap)) := fun W hW => ⟨(hW.cell (p := ⟨w.heap.size, 0, none⟩) (by show w.heap.size < _; omega)).trans z0, (hW.cell (p := ⟨w.heap.size, 1, none⟩) (by show w.heap.size < _; omega)).trans z1, (hW.cell (p := ⟨kb, _, none⟩) (by show kb < _; omega)).trans d10, (hW.cell (p := ⟨bb, _, none⟩) hkn2).trans c0⟩
          have B := below_drewV (Below.refl wr.heap.size wr)
          clear c0 z0 z1
          go_wp2
          all_goals (go_region_held3 (fun W => W.cell? ⟨w.heap.size, 0, none⟩ = some (.slice pad pml pmc) ∧ W.cell? ⟨w.heap.size, 1, none⟩ = some (.slice prd prl prc) ∧ W.cell? ⟨kb, koff + j * 12 + 10, none⟩ = some (.slice (some ⟨bb, boff, none⟩) blocks.length bcp) ∧ W.cell? ⟨bb, boff + k, none⟩ = some (.slice bad bbody.length bcap)) (exact HK2.out _ B) (first | (go_at_call 17; (with_reducible refine (hq _ B).mono ?_); rintro r w1 ⟨rfl, bb⟩; have B := B.tr le_rfl' bb)))
          all_goals go_wp2
          all_goals go_roundw
          all_goals first
            | exact ⟨k + 1, by omega, by go_num, hbv.tr le_rfl' B⟩
            | (simp [intOf]; omega)
        · have hjd2 : decide ((k : Int) < (blocks.length : Int)) = false := by simp; omega
          go_wp2
          all_goals go_roundw
          all_goals first
            | exact ⟨j + 1, by omega, by go_num, hbw.tr le_rfl' hbv⟩
            | (simp [intOf]; omega)
    · have hjd : decide ((j : Int) < (body.length : Int)) = false := by simp; omega
      go_wp2
      go_ret
      exact ⟨rfl, hbF⟩
theorem tests_any (p : Pr) (hvs : vsum p.mons ≤ 1000000) (x : Bl) : TsOk p x :=
  Bl.ind (P := fun s => ∀ b ∈ s.blocks, TsOk p b) (Q := TsOk p) (fun _ _ _ _ _ _ _ _ _ ih => ih) (fun ad cap body ih => tests_step p hvs ad cap body ih) x
end Go.Proofs.YtgfdegogknoknaaDoor
namespace Go.Proofs.YtgfdegogknoknaaDoor
open Go.RowKit
theorem pair_new {W : World} {c0 c1 : Value} {t : TypeId} {p : Nat} (hp : W.heap.size = p) : (W.alloc (.cells #[c0, c1] t)).cell? ⟨p, 0, none⟩ = some c0 ∧ (W.alloc (.cells #[c0, c1] t)).cell? ⟨p, 1, none⟩ = some c1 := by
  have h : (W.alloc (.cells #[c0, c1] t)).heap[p]? = some (.cells #[c0, c1] t (0, 0)) := heapAt9 _ hp
  exact ⟨cellOf h 0, cellOf h 1⟩
theorem lt_of_cell9 {w : World} {b o : Nat} {v : Value} (h : w.cell? ⟨b, o, none⟩ = some v) : b < w.heap.size := by
  rcases Nat.lt_or_ge b w.heap.size with h1 | h1
  · exact h1
  · exfalso
    have h2 : w.heap[b]? = none := by rw [Array.getElem?_eq_none_iff]; exact h1
    simp [World.cell?, h2] at h
theorem pair_keep {W W' : World} {p : Nat} {c0 c1 : Value} (h : W.cell? ⟨p, 0, none⟩ = some c0 ∧ W.cell? ⟨p, 1, none⟩ = some c1) (hb : Below W.heap.size W W') : W'.cell? ⟨p, 0, none⟩ = some c0 ∧ W'.cell? ⟨p, 1, none⟩ = some c1 := by
  have hp := lt_of_cell9 h.1
  exact ⟨(hb.cell (p := ⟨p, 0, none⟩) hp).trans h.1, (hb.cell (p := ⟨p, 1, none⟩) hp).trans h.2⟩
set_option maxRecDepth 100000 in
set_option maxHeartbeats 8000000 in
theorem typesClosed_walk (p : Pr) (w : World) (hS : Shapes w) (hp : p.Is w.heap.size w) :
    Calls Tryd.prog 7 #[p.val] w fun e w' => e = .returned (.bool true) ∧ Below w.heap.size w w' := by
  have hs3 := hS.size
  have h8 : ∀ W, Below w.heap.size w W → Calls Tryd.prog 8 #[p.val, .int .i64 300] W fun r w' => SmallBack p W w' r := fun W hW => small_any w.heap.size p W hW.size (hp.below hW)
  have h10 : ∀ W, Below w.heap.size w W → Calls Tryd.prog 10 #[] W fun r w' => r = .returned (.bool true) ∧ Below W.heap.size W w' := fun W hW => live_any W (hS.below hW hs3)
  have h14 : vsum p.mons ≤ 1000000 → ∀ W, Below w.heap.size w W → Calls Tryd.prog 14 #[p.val] W fun r w' => r = .returned (.tuple #[.int .i64 p.tchk.1, .int .i64 p.tchk.2]) ∧ Below W.heap.size W w' := fun hv W hW => typesCheck_any p hv w.heap.size W hW.size (hp.below hW) (hS.below hW hs3)
  have h17 : vsum p.mons ≤ 1000000 → ∀ x : Bl, x.Is w.heap.size w → x.tyc p.mons = none → ∀ W, Below w.heap.size w W → Calls Tryd.prog 17 #[p.val, x.slice] W fun r w' => r = .returned (.bool true) ∧ Below W.heap.size W w' := fun hv x hx hty W hW => tests_any p hv x w.heap.size W hW.size (hp.below hW) (hx.below hW) (hS.below hW hs3) hty
  have h18 : ∀ W, Below w.heap.size w W → Calls Tryd.prog 18 #[p.val] W fun r w' => r = .returned (.int .i64 (if p.ok then 0 else 20)) ∧ Below W.heap.size W w' := fun W hW => check_any p w.heap.size W hW.size (hp.below hW) (hS.below hW hs3)
  have h13 := num_any
  have HSM : Hid (p.mons.length ≤ 20 → (∀ m ∈ p.mons, m.vars.length ≤ 40) → vsum p.mons ≤ 1000000) := fun h1 h2 => vsum_small p.mons h1 h2
  have HTZ : Hid (p.tchk.1 = 0 → p.ok = true ∧ ∀ r ∈ p.roles, r.body.tyc p.mons = none) := fun h => tchk_zero h
  have h5 := hp.2.1
  have h6 := hp.2.2
  obtain ⟨c1, hc1⟩ : ∃ c1, p.tchk.1 = c1 := ⟨_, rfl⟩
  obtain ⟨c2, hc2⟩ : ∃ c2, p.tchk.2 = c2 := ⟨_, rfl⟩
  simp only [hc1, hc2] at h14
  rw [hc1] at HTZ
  clear hc1 hc2 hp
  rcases p with ⟨mad, mcap, mons, rad, rcap, roles⟩
  simp only [Pr.val] at h8 h14 h17 h18 h5 h6 HSM HTZ ⊢
  have hl3 := h5.1; have hl4 := h5.2.1
  unfold maxLen at hl4
  have B1 : Below w.heap.size w (w.alloc (.cells #[.slice mad mons.length mcap, .slice rad roles.length rcap] 25)) := (Below.refl _ w).al le_rfl' _
  have hcP := pair_new (W := w) (t := 25) (c0 := .slice mad mons.length mcap) (c1 := .slice rad roles.length rcap) rfl
  go_enter Tryd.func7, Tryd.ntmps7
  go_upto_if 3 with (go_at_call 8; (with_reducible refine (h8 _ B1).mono ?_); rintro r w1 ⟨c, rfl, hsm, bb1⟩; have B2 := B1.tr le_rfl' bb1; have hcQ := pair_keep hcP bb1; obtain ⟨s0, s1⟩ := hcQ; cases c)
  · (with_reducible refine (h10 _ B2).mono ?_); rintro r u2 ⟨rfl, bb2⟩
    go_wp2
    go_ret
    exact ⟨rfl, B2.tr le_rfl' bb2⟩
  have hv := HSM.out (hsm (by trivial)).2.1 (hsm (by trivial)).2.2
  have hcQ := pair_keep hcP bb1
  have H14 := h14 hv
  have H17 := h17 hv
  clear h14 h17 h8 hsm hv HSM
  (with_reducible refine (H14 _ B2).mono ?_); rintro r u1 ⟨rfl, bb2⟩
  have B3 := B2.tr le_rfl' bb2
  obtain ⟨s0, s1⟩ := pair_keep hcQ bb2
  by_cases hc : c1 = 0
  case neg =>
    have hcb : (c1 != 0) = true := by rw [bne_iff_ne]; exact hc
    clear hc
    go_wp2_with (first
      | (go_at_call 13; (with_reducible refine (h13 _ _).mono ?_); rintro r w' ⟨rfl, hw'⟩; have hw2 := hw'.symm; subst hw2)
      | (go_at_call 10; (with_reducible refine (h10 _ B3).mono ?_); rintro r u3 ⟨rfl, bb3⟩))
    go_ret
    exact ⟨rfl, B3.tr le_rfl' bb3⟩
  subst hc
  obtain ⟨hok, hrt⟩ := HTZ.out rfl
  have HRT := hid hrt
  simp only [hok, if_true] at h18
  clear hok hrt HTZ
  go_wp2_with (go_at_call 13; (with_reducible refine (h13 _ _).mono ?_); rintro r w' ⟨rfl, hw'⟩; have hw2 := hw'.symm; subst hw2)
  have HZ : Hid (w.heap.size < u1.heap.size) := hid (lt_of_cell9 s0)
  go_loopw [5] (fun i wr => ∃ j : Nat, j ≤ roles.length ∧ i = .int .i64 j ∧ Below u1.heap.size u1 wr)
    (fun i _ => roles.length - (intOf i).toNat)
  case atStart => exact ⟨0, by omega, rfl, Below.refl _ _⟩
  case round =>
    obtain ⟨j, hj, rfl, hbw⟩ := hrel
    have hz1 := hbw.size
    have hzu := HZ.out
    have hbF := B3.tr le_rfl' hbw
    have y0 := (hbw.cell (p := ⟨w.heap.size, 0, none⟩) (by show w.heap.size < _; omega)).trans s0
    have y1 := (hbw.cell (p := ⟨w.heap.size, 1, none⟩) (by show w.heap.size < _; omega)).trans s1
    by_cases hlt : j < roles.length
    · rcases h5.2.2 with h | ⟨mb, moff, rfl, hmn, hmrow⟩
      · subst h; simp at hlt
      have hji : (j : Int) < (roles.length : Int) := by omega
      have hmn2 : mb < wr.heap.size := by omega
      have hmr := hmrow.below hbF hmn
      have hq : ∀ W, Below wr.heap.size wr W → _ := fun W hW => H17 roles[j].body (h6 _ (List.getElem_mem hlt)).2.2.2 (HRT.out _ (List.getElem_mem hlt)) W (hbF.tr le_rfl' hW)
      rcases he' : roles[j] with ⟨rname, rstar, rcount, ⟨fad, fcap, fbody⟩, rpos⟩
      obtain ⟨-, -, -, c3, -⟩ := row5 hmr j hlt (by rw [he']; rfl)
      simp only [he', Bl.slice] at hq c3
      clear he'
      have HK : Hid (∀ W, Below wr.heap.size wr W → W.cell? ⟨w.heap.size, 0, none⟩ = some (.slice mad mons.length mcap) ∧ W.cell? ⟨w.heap.size, 1, none⟩ = some (.slice (some ⟨mb, moff, none⟩) roles.length rcap) ∧ W.cell? ⟨mb, moff + j * 5 + 3, none⟩ = some (.slice fad fbody.length fcap)) := fun W hW => ⟨(hW.cell (p := ⟨w.heap.size, 0, none⟩) (by show w.heap.size < _; omega)).trans y0, (hW.cell (p := ⟨w.heap.size, 1, none⟩) (by show w.heap.size < _; omega)).trans y1, (hW.cell (p := ⟨mb, _, none⟩) hmn2).trans c3⟩
      have B := below_drewV (Below.refl wr.heap.size wr)
      clear c3 H17
      go_wp2
      go_region_held3 (fun W => W.cell? ⟨w.heap.size, 0, none⟩ = some (.slice mad mons.length mcap) ∧ W.cell? ⟨w.heap.size, 1, none⟩ = some (.slice (some ⟨mb, moff, none⟩) roles.length rcap) ∧ W.cell? ⟨mb, moff + j * 5 + 3, none⟩ = some (.slice fad fbody.length fcap)) (exact HK.out _ B) (first | (go_at_call 17; (with_reducible refine (hq _ B).mono ?_); rintro r w1 ⟨rfl, bb⟩; have B := B.tr le_rfl' bb))
      all_goals go_wp2
      all_goals go_roundw
      all_goals first
        | exact ⟨j + 1, by omega, by go_num, hbw.tr le_rfl' B⟩
        | (simp [intOf]; omega)
    · have hjd : decide ((j : Int) < (roles.length : Int)) = false := by simp; omega
      go_wp2_with (first
        | (go_at_call 18; (with_reducible refine (h18 _ hbF).mono ?_); rintro r u4 ⟨rfl, bb4⟩; have B5 := hbF.tr le_rfl' bb4)
        | (go_at_call 13; (with_reducible refine (h13 _ _).mono ?_); rintro r w' ⟨rfl, hw'⟩; have hw2 := hw'.symm; subst hw2)
        | (go_at_call 10; (with_reducible refine (h10 _ B5).mono ?_); rintro r u5 ⟨rfl, bb5⟩))
      go_ret
      exact ⟨rfl, B5.tr le_rfl' bb5⟩
end Go.Proofs.YtgfdegogknoknaaDoor
