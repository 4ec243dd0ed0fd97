/-
  sameStmt, SameStmts, sameVar, sameMethod, sameMonitor, sameRole, Same and isNone of package tree: whether two are the same but for places.
-/
import Derived.Test.YtnljhlmopjgogaaDoorEqB
namespace Go.Proofs.YtnljhlmopjgogaaDoor
open Go.RowKit
theorem bcell {W w1 : World} (hb : Below W.heap.size W w1) : (∀ b o, b < W.heap.size → w1.cell? ⟨b, o, none⟩ = W.cell? ⟨b, o, none⟩) ∧ (∀ b o, b < W.heap.size → w1.frozen? ⟨b, o, none⟩ = W.frozen? ⟨b, o, none⟩) :=
  ⟨fun b o h => hb.cell (p := ⟨b, o, none⟩) h, fun b o h => hb.frozen (p := ⟨b, o, none⟩) h⟩
theorem stSame_mk (kind kind' : Int) (mon name mon' name' : ByteArray) (n n' : Int) (e e' : Ex) (ad ad' : Option Addr) (cap cap' : Nat) (blocks blocks' : List Bl) (pos pos' : Int) :
    (St.mk kind mon name n e ad cap blocks pos).same (St.mk kind' mon' name' n' e' ad' cap' blocks' pos') = ((kind == kind') && (mon.toList == mon'.toList) && (name.toList == name'.toList) && (n == n') && e.same e' && all2 Bl.same blocks blocks') := by
  rw [St.same, Bl.sameL_eq]
theorem blSame_mk (ad ad' : Option Addr) (cap cap' : Nat) (body body' : List St) : (Bl.mk ad cap body).same (Bl.mk ad' cap' body') = all2 St.same body body' := by rw [Bl.same, St.sameL_eq]
set_option maxRecDepth 100000 in
set_option maxHeartbeats 2000000 in
theorem sameStmt_step (n₀ : Nat) (kind : Int) (mon name : ByteArray) (n : Int) (e : Ex) (ad : Option Addr) (cap : Nat) (blocks : List Bl) (pos : Int)
    (ih : ∀ b ∈ blocks, ∀ (c : Bl) (w : World), n₀ ≤ w.heap.size → b.Is n₀ w → c.Is n₀ w → Calls Tryd.prog 62 #[b.slice, c.slice] w fun e w' => e = .returned (.bool (b.same c)) ∧ Below w.heap.size w w')
    (t : St) (w : World) (hn : n₀ ≤ w.heap.size) (ha : (St.mk kind mon name n e ad cap blocks pos).Is n₀ w) (hb : t.Is n₀ w) :
    Calls Tryd.prog 85 #[(St.mk kind mon name n e ad cap blocks pos).val, t.val] w fun r w' => r = .returned (.bool ((St.mk kind mon name n e ad cap blocks pos).same t)) ∧ Below w.heap.size w w' := by
  rcases t with ⟨kind', mon', name', n', e', ad', cap', blocks', pos'⟩
  have HS := hid (stSame_mk kind kind' mon name mon' name' n n' e e' ad ad' cap cap' blocks blocks' pos pos')
  have hE : ∀ W, Below n₀ w W → Calls Tryd.prog 17 #[e.val, e'.val] W fun r w' => r = .returned (.bool (e.same e')) ∧ Below W.heap.size W w' := fun W hW =>
    sameExpr_any n₀ e e' W (by have := hW.size; omega) (ha.down.2.1.below hW) (hb.down.2.1.below hW)
  have hC : ∀ W, Below n₀ w W → Calls Tryd.prog 94 #[.slice ad blocks.length cap, .slice ad' blocks'.length cap', .func (.func 62) #[] #[]] W fun r w' => r = .returned (.bool (all2 Bl.same blocks blocks')) ∧ Below W.heap.size W w' := fun W hW =>
    eqf67 Bl.same n₀ blocks blocks' ad ad' cap cap' W (by have := hW.size; omega) (ha.down.2.2.1.below hW) (hb.down.2.2.1.below hW)
      (fun k k1 k2 W' hW' => ih blocks[k] (List.getElem_mem k1) blocks'[k] W' (by have := hW.size; have := hW'.size; omega) ((ha.down.2.2.2 _ (List.getElem_mem k1)).below (hW.trans hW')) ((hb.down.2.2.2 _ (List.getElem_mem k2)).below (hW.trans hW')))
  clear ha hb ih
  obtain ⟨es, hes⟩ : ∃ es, e.same e' = es := ⟨_, rfl⟩
  have HES := hid hes
  rw [hes] at hE
  clear hes
  rcases e with ⟨eop, emon, ename, en, ead, ecap, ekids, epos⟩
  rcases e' with ⟨eop', emon', ename', en', ead', ecap', ekids', epos'⟩
  simp only [St.val, St.cells, Ex.val, Ex.cells, List.cons_append, List.nil_append] at hE ⊢
  cases h1 : (kind == kind')
  · go_enter Tryd.func85, Tryd.ntmps85
    go_wp2
    go_ret
    exact ⟨ret_bool (by rw [HS.out, h1]; rfl), ((Below.refl _ _).al le_rfl' _).al le_rfl' _⟩
  cases h2 : (mon.toList == mon'.toList)
  · go_enter Tryd.func85, Tryd.ntmps85
    go_wp2
    go_ret
    exact ⟨ret_bool (by rw [HS.out, h1, h2]; rfl), ((Below.refl _ _).al le_rfl' _).al le_rfl' _⟩
  cases h3 : (name.toList == name'.toList)
  · go_enter Tryd.func85, Tryd.ntmps85
    go_wp2
    go_ret
    exact ⟨ret_bool (by rw [HS.out, h1, h2, h3]; rfl), ((Below.refl _ _).al le_rfl' _).al le_rfl' _⟩
  cases h4 : (n == n')
  · go_enter Tryd.func85, Tryd.ntmps85
    go_wp2
    go_ret
    exact ⟨ret_bool (by rw [HS.out, h1, h2, h3, h4]; rfl), ((Below.refl _ _).al le_rfl' _).al le_rfl' _⟩
  cases es
  · go_enter Tryd.func85, Tryd.ntmps85
    go_wp2_with (go_at_call 17; refine (hE _ (((Below.refl n₀ w).al hn _).al hn _)).mono ?_; rintro r w1 ⟨rfl, hb1⟩)
    go_ret
    exact ⟨ret_bool (by rw [HS.out, h1, h2, h3, h4, HES.out]; rfl), (((Below.refl _ _).al le_rfl' _).al le_rfl' _).tr le_rfl' hb1⟩
  · go_enter Tryd.func85, Tryd.ntmps85
    go_wp2_with (first
      | (go_at_call 17; refine (hE _ (((Below.refl n₀ w).al hn _).al hn _)).mono ?_; rintro r w1 ⟨rfl, hb1⟩; obtain ⟨hcc, hff⟩ := bcell hb1)
      | (go_at_call 94; refine (hC _ ((((Below.refl n₀ w).al hn _).al hn _).tr hn hb1)).mono ?_; rintro r w2 ⟨rfl, hb2⟩))
    go_ret
    exact ⟨ret_bool (by rw [HS.out, h1, h2, h3, h4, HES.out]; rfl), ((((Below.refl _ _).al le_rfl' _).al le_rfl' _).tr le_rfl' hb1).tr le_rfl' hb2⟩
theorem sameStmts_any (n₀ : Nat) (b : Bl) : ∀ (c : Bl) (w : World), n₀ ≤ w.heap.size → b.Is n₀ w → c.Is n₀ w → Calls Tryd.prog 62 #[b.slice, c.slice] w fun e w' => e = .returned (.bool (b.same c)) ∧ Below w.heap.size w w' := by
  refine Bl.ind (P := fun s => ∀ (t : St) (w : World), n₀ ≤ w.heap.size → s.Is n₀ w → t.Is n₀ w → Calls Tryd.prog 85 #[s.val, t.val] w fun e w' => e = .returned (.bool (s.same t)) ∧ Below w.heap.size w w')
    (Q := fun b => ∀ (c : Bl) (w : World), n₀ ≤ w.heap.size → b.Is n₀ w → c.Is n₀ w → Calls Tryd.prog 62 #[b.slice, c.slice] w fun e w' => e = .returned (.bool (b.same c)) ∧ Below w.heap.size w w') ?_ ?_ b
  · intro kind mon name n e ad cap blocks pos ih t w hn ha hb
    exact sameStmt_step n₀ kind mon name n e ad cap blocks pos ih t w hn ha hb
  · rintro ad cap body ih ⟨ad', cap', body'⟩ w hn ha hb
    have hC := eqf45 St.same n₀ body body' ad ad' cap cap' w hn ha.down.1 hb.down.1
      (fun k k1 k2 W' hW' => ih body[k] (List.getElem_mem k1) body'[k] W' (by have := hW'.size; omega) ((ha.down.2 _ (List.getElem_mem k1)).below hW') ((hb.down.2 _ (List.getElem_mem k2)).below hW'))
    rw [blSame_mk]
    clear ih ha hb
    simp only [Bl.slice]
    go_enter Tryd.func62, Tryd.ntmps62
    go_wp2_with (go_at_call 84; refine hC.mono ?_; rintro r w1 ⟨rfl, hb1⟩)
    go_ret
    exact ⟨rfl, hb1⟩
set_option maxHeartbeats 1000000 in
theorem isNone_any (n₀ : Nat) (e : Ex) (w : World) (hn : n₀ ≤ w.heap.size) (he : e.Is n₀ w) :
    Calls Tryd.prog 90 #[e.val] w fun r w' => r = .returned (.bool (e.same (.mk 0 ⟨#[]⟩ ⟨#[]⟩ 0 none 0 [] 0))) ∧ Below w.heap.size w w' := by
  have hC : ∀ W, Below n₀ w W → Calls Tryd.prog 17 #[e.val, (Ex.mk 0 ⟨#[]⟩ ⟨#[]⟩ 0 none 0 [] 0).val] W fun r w' => r = .returned (.bool (e.same (.mk 0 ⟨#[]⟩ ⟨#[]⟩ 0 none 0 [] 0))) ∧ Below W.heap.size W w' := fun W hW =>
    sameExpr_any n₀ e _ W (by have := hW.size; omega) (he.below hW) (Ex.Is.up ⟨⟨by unfold I64; omega, by unfold I64; omega, by unfold I64; omega, Nat.zero_le _, Nat.zero_le _⟩, ⟨Nat.le_refl _, by unfold maxLen; omega, .inl rfl⟩, fun x hx => by cases hx⟩)
  obtain ⟨res, hres⟩ : ∃ res, e.same (.mk 0 ⟨#[]⟩ ⟨#[]⟩ 0 none 0 [] 0) = res := ⟨_, rfl⟩
  rw [hres] at hC ⊢
  clear hres he
  rcases e with ⟨op, mon, name, n, ad, cap, kids, pos⟩
  simp only [Ex.val, Ex.cells, List.length_nil] at hC ⊢
  go_enter Tryd.func90, Tryd.ntmps90
  go_wp2_with (go_at_call 17; refine (hC _ ((Below.refl n₀ w).al hn _)).mono ?_; rintro r w1 ⟨rfl, hb1⟩)
  go_ret
  exact ⟨rfl, ((Below.refl _ _).al le_rfl' _).tr le_rfl' hb1⟩
set_option maxHeartbeats 1000000 in
theorem sameVar_any (v u : Va) (w : World) (hv : v.Is) (hu : u.Is) :
    Calls Tryd.prog 59 #[v.val, u.val] w fun r w' => r = .returned (.bool (v.same u)) ∧ Below w.heap.size w w' := by
  rcases v with ⟨name, type, lo, hi, init, pos⟩
  rcases u with ⟨name', type', lo', hi', init', pos'⟩
  simp only [Va.val, Va.cells]
  have HS : Hid (Va.same ⟨name, type, lo, hi, init, pos⟩ ⟨name', type', lo', hi', init', pos'⟩ = ((name.toList == name'.toList) && (type == type') && (lo == lo') && (hi == hi') && (init == init'))) := rfl
  clear hv hu
  go_enter Tryd.func59, Tryd.ntmps59
  go_wp2
  all_goals go_ret
  all_goals exact ⟨ret_bool (by rw [HS.out]; simp_all), ((Below.refl _ _).al le_rfl' _).al le_rfl' _⟩
set_option maxHeartbeats 1000000 in
theorem sameMethod_any (n₀ : Nat) (m k : Me) (w : World) (hn : n₀ ≤ w.heap.size) (hm : m.Is n₀ w) (hk : k.Is n₀ w) :
    Calls Tryd.prog 61 #[m.val, k.val] w fun r w' => r = .returned (.bool (m.same k)) ∧ Below w.heap.size w w' := by
  have HS : Hid (m.same k = ((m.name.toList == k.name.toList) && m.body.same k.body)) := rfl
  have hC : ∀ W, Below n₀ w W → Calls Tryd.prog 62 #[m.body.slice, k.body.slice] W fun r w' => r = .returned (.bool (m.body.same k.body)) ∧ Below W.heap.size W w' := fun W hW =>
    sameStmts_any n₀ m.body k.body W (by have := hW.size; omega) (hm.2.2.below hW) (hk.2.2.below hW)
  obtain ⟨res, hres⟩ : ∃ res, m.same k = res := ⟨_, rfl⟩
  obtain ⟨bs, hbs⟩ : ∃ bs, m.body.same k.body = bs := ⟨_, rfl⟩
  rw [hbs] at hC HS
  rw [hres] at HS ⊢
  clear hres hbs hm hk
  rcases m with ⟨name, ⟨ad, cap, body⟩, pos⟩
  rcases k with ⟨name', ⟨ad', cap', body'⟩, pos'⟩
  simp only [Me.val, Me.cells, Bl.slice] at hC HS ⊢
  cases h1 : (name.toList == name'.toList)
  · go_enter Tryd.func61, Tryd.ntmps61
    go_wp2
    go_ret
    exact ⟨ret_bool (by rw [HS.out, h1]; rfl), ((Below.refl _ _).al le_rfl' _).al le_rfl' _⟩
  · go_enter Tryd.func61, Tryd.ntmps61
    go_wp2_with (go_at_call 62; refine (hC _ (((Below.refl n₀ w).al hn _).al hn _)).mono ?_; rintro r w1 ⟨rfl, hb1⟩)
    go_ret
    exact ⟨ret_bool (by rw [HS.out, h1]; rfl), (((Below.refl _ _).al le_rfl' _).al le_rfl' _).tr le_rfl' hb1⟩
set_option maxHeartbeats 1000000 in
theorem sameRole_any (n₀ : Nat) (m k : Ro) (w : World) (hn : n₀ ≤ w.heap.size) (hm : m.Is n₀ w) (hk : k.Is n₀ w) :
    Calls Tryd.prog 35 #[m.val, k.val] w fun r w' => r = .returned (.bool (m.same k)) ∧ Below w.heap.size w w' := by
  have HS : Hid (m.same k = ((m.name.toList == k.name.toList) && (m.star == k.star) && (m.count == k.count) && m.body.same k.body)) := rfl
  have hC : ∀ W, Below n₀ w W → Calls Tryd.prog 62 #[m.body.slice, k.body.slice] W fun r w' => r = .returned (.bool (m.body.same k.body)) ∧ Below W.heap.size W w' := fun W hW =>
    sameStmts_any n₀ m.body k.body W (by have := hW.size; omega) (hm.2.2.2.below hW) (hk.2.2.2.below hW)
  obtain ⟨res, hres⟩ : ∃ res, m.same k = res := ⟨_, rfl⟩
  obtain ⟨bs, hbs⟩ : ∃ bs, m.body.same k.body = bs := ⟨_, rfl⟩
  rw [hbs] at hC HS
  rw [hres] at HS ⊢
  clear hres hbs hm hk
  rcases m with ⟨name, star, count, ⟨ad, cap, body⟩, pos⟩
  rcases k with ⟨name', star', count', ⟨ad', cap', body'⟩, pos'⟩
  simp only [Ro.val, Ro.cells, Bl.slice] at hC HS ⊢
  cases h1 : (name.toList == name'.toList)
  · go_enter Tryd.func35, Tryd.ntmps35
    go_wp2
    go_ret
    exact ⟨ret_bool (by rw [HS.out, h1]; rfl), ((Below.refl _ _).al le_rfl' _).al le_rfl' _⟩
  cases h2 : (star == star')
  · go_enter Tryd.func35, Tryd.ntmps35
    go_wp2
    go_ret
    exact ⟨ret_bool (by rw [HS.out, h1, h2]; rfl), ((Below.refl _ _).al le_rfl' _).al le_rfl' _⟩
  cases h3 : (count == count')
  · go_enter Tryd.func35, Tryd.ntmps35
    go_wp2
    go_ret
    exact ⟨ret_bool (by rw [HS.out, h1, h2, h3]; rfl), ((Below.refl _ _).al le_rfl' _).al le_rfl' _⟩
  · go_enter Tryd.func35, Tryd.ntmps35
    go_wp2_with (go_at_call 62; refine (hC _ (((Below.refl n₀ w).al hn _).al hn _)).mono ?_; rintro r w1 ⟨rfl, hb1⟩)
    go_ret
    exact ⟨ret_bool (by rw [HS.out, h1, h2, h3]; rfl), (((Below.refl _ _).al le_rfl' _).al le_rfl' _).tr le_rfl' hb1⟩
set_option maxHeartbeats 1000000 in
theorem sameMonitor_any (n₀ : Nat) (m k : Mo) (w : World) (hn : n₀ ≤ w.heap.size) (hm : m.Is n₀ w) (hk : k.Is n₀ w) :
    Calls Tryd.prog 33 #[m.val, k.val] w fun r w' => r = .returned (.bool (m.same k)) ∧ Below w.heap.size w w' := by
  have HS : Hid (m.same k = ((m.name.toList == k.name.toList) && all2 Va.same m.vars k.vars && all2 Me.same m.meths k.meths)) := rfl
  have hC : ∀ W, Below n₀ w W → Calls Tryd.prog 58 #[.slice m.vad m.vars.length m.vcap, .slice k.vad k.vars.length k.vcap, .func (.func 59) #[] #[]] W fun r w' => r = .returned (.bool (all2 Va.same m.vars k.vars)) ∧ Below W.heap.size W w' := fun W hW =>
    eqf63 Va.same n₀ m.vars k.vars m.vad k.vad m.vcap k.vcap W (by have := hW.size; omega) (hm.2.1.1.below hW) (hk.2.1.1.below hW)
      (fun j k1 k2 W' _ => sameVar_any m.vars[j] k.vars[j] W' (hm.2.1.2 _ (List.getElem_mem k1)) (hk.2.1.2 _ (List.getElem_mem k2)))
  have hD : ∀ W, Below n₀ w W → Calls Tryd.prog 60 #[.slice m.mad m.meths.length m.mcap, .slice k.mad k.meths.length k.mcap, .func (.func 61) #[] #[]] W fun r w' => r = .returned (.bool (all2 Me.same m.meths k.meths)) ∧ Below W.heap.size W w' := fun W hW =>
    eqf65 Me.same n₀ m.meths k.meths m.mad k.mad m.mcap k.mcap W (by have := hW.size; omega) (hm.2.2.1.below hW) (hk.2.2.1.below hW)
      (fun j k1 k2 W' hW' => sameMethod_any n₀ m.meths[j] k.meths[j] W' (by have := hW.size; have := hW'.size; omega) ((hm.2.2.2 _ (List.getElem_mem k1)).below (hW.trans hW')) ((hk.2.2.2 _ (List.getElem_mem k2)).below (hW.trans hW')))
  obtain ⟨res, hres⟩ : ∃ res, m.same k = res := ⟨_, rfl⟩
  obtain ⟨bs, hbs⟩ : ∃ bs, all2 Va.same m.vars k.vars = bs := ⟨_, rfl⟩
  obtain ⟨cs, hcs⟩ : ∃ cs, all2 Me.same m.meths k.meths = cs := ⟨_, rfl⟩
  rw [hbs] at hC HS
  rw [hcs] at hD HS
  rw [hres] at HS ⊢
  clear hres hbs hcs hm hk
  rcases m with ⟨name, vad, vcap, vars, mad, mcap, meths, pos⟩
  rcases k with ⟨name', vad', vcap', vars', mad', mcap', meths', pos'⟩
  simp only [Mo.val, Mo.cells] at hC hD HS ⊢
  cases h1 : (name.toList == name'.toList)
  · go_enter Tryd.func33, Tryd.ntmps33
    go_wp2
    go_ret
    exact ⟨ret_bool (by rw [HS.out, h1]; rfl), ((Below.refl _ _).al le_rfl' _).al le_rfl' _⟩
  cases bs
  · go_enter Tryd.func33, Tryd.ntmps33
    go_wp2_with (go_at_call 58; refine (hC _ (((Below.refl n₀ w).al hn _).al hn _)).mono ?_; rintro r w1 ⟨rfl, hb1⟩)
    go_ret
    exact ⟨ret_bool (by rw [HS.out, h1]; rfl), (((Below.refl _ _).al le_rfl' _).al le_rfl' _).tr le_rfl' hb1⟩
  · go_enter Tryd.func33, Tryd.ntmps33
    go_wp2_with (first
      | (go_at_call 58; refine (hC _ (((Below.refl n₀ w).al hn _).al hn _)).mono ?_; rintro r w1 ⟨rfl, hb1⟩; obtain ⟨hcc, hff⟩ := bcell hb1)
      | (go_at_call 60; refine (hD _ ((((Below.refl n₀ w).al hn _).al hn _).tr hn hb1)).mono ?_; rintro r w2 ⟨rfl, hb2⟩))
    go_ret
    exact ⟨ret_bool (by rw [HS.out, h1]; rfl), ((((Below.refl _ _).al le_rfl' _).al le_rfl' _).tr le_rfl' hb1).tr le_rfl' hb2⟩
set_option maxHeartbeats 1000000 in
theorem same_any (n₀ : Nat) (m k : Pr) (w : World) (hn : n₀ ≤ w.heap.size) (hm : m.Is n₀ w) (hk : k.Is n₀ w) :
    Calls Tryd.prog 16 #[m.val, k.val] w fun r w' => r = .returned (.bool (m.same k)) ∧ Below w.heap.size w w' := by
  have HS : Hid (m.same k = (all2 Mo.same m.mons k.mons && all2 Ro.same m.roles k.roles)) := rfl
  have hC : ∀ W, Below n₀ w W → Calls Tryd.prog 32 #[.slice m.mad m.mons.length m.mcap, .slice k.mad k.mons.length k.mcap, .func (.func 33) #[] #[]] W fun r w' => r = .returned (.bool (all2 Mo.same m.mons k.mons)) ∧ Below W.heap.size W w' := fun W hW =>
    eqf40 Mo.same n₀ m.mons k.mons m.mad k.mad m.mcap k.mcap W (by have := hW.size; omega) (hm.1.1.below hW) (hk.1.1.below hW)
      (fun j k1 k2 W' hW' => sameMonitor_any n₀ m.mons[j] k.mons[j] W' (by have := hW.size; have := hW'.size; omega) ((hm.1.2 _ (List.getElem_mem k1)).below (hW.trans hW')) ((hk.1.2 _ (List.getElem_mem k2)).below (hW.trans hW')))
  have hD : ∀ W, Below n₀ w W → Calls Tryd.prog 34 #[.slice m.rad m.roles.length m.rcap, .slice k.rad k.roles.length k.rcap, .func (.func 35) #[] #[]] W fun r w' => r = .returned (.bool (all2 Ro.same m.roles k.roles)) ∧ Below W.heap.size W w' := fun W hW =>
    eqf42 Ro.same n₀ m.roles k.roles m.rad k.rad m.rcap k.rcap W (by have := hW.size; omega) (hm.2.1.below hW) (hk.2.1.below hW)
      (fun j k1 k2 W' hW' => sameRole_any n₀ m.roles[j] k.roles[j] W' (by have := hW.size; have := hW'.size; omega) ((hm.2.2 _ (List.getElem_mem k1)).below (hW.trans hW')) ((hk.2.2 _ (List.getElem_mem k2)).below (hW.trans hW')))
  obtain ⟨res, hres⟩ : ∃ res, m.same k = res := ⟨_, rfl⟩
  obtain ⟨bs, hbs⟩ : ∃ bs, all2 Mo.same m.mons k.mons = bs := ⟨_, rfl⟩
  obtain ⟨cs, hcs⟩ : ∃ cs, all2 Ro.same m.roles k.roles = cs := ⟨_, rfl⟩
  rw [hbs] at hC HS
  rw [hcs] at hD HS
  rw [hres] at HS ⊢
  clear hres hbs hcs hm hk
  rcases m with ⟨mad, mcap, mons, rad, rcap, roles⟩
  rcases k with ⟨mad', mcap', mons', rad', rcap', roles'⟩
  simp only [Pr.val] at hC hD ⊢
  cases bs
  · go_enter Tryd.func16, Tryd.ntmps16
    go_wp2_with (go_at_call 32; refine (hC _ (((Below.refl n₀ w).al hn _).al hn _)).mono ?_; rintro r w1 ⟨rfl, hb1⟩)
    go_ret
    exact ⟨ret_bool (by rw [HS.out]; rfl), (((Below.refl _ _).al le_rfl' _).al le_rfl' _).tr le_rfl' hb1⟩
  · go_enter Tryd.func16, Tryd.ntmps16
    go_wp2_with (first
      | (go_at_call 32; refine (hC _ (((Below.refl n₀ w).al hn _).al hn _)).mono ?_; rintro r w1 ⟨rfl, hb1⟩; obtain ⟨hcc, hff⟩ := bcell hb1)
      | (go_at_call 34; refine (hD _ ((((Below.refl n₀ w).al hn _).al hn _).tr hn hb1)).mono ?_; rintro r w2 ⟨rfl, hb2⟩))
    go_ret
    exact ⟨ret_bool (by rw [HS.out]; rfl), ((((Below.refl _ _).al le_rfl' _).al le_rfl' _).tr le_rfl' hb1).tr le_rfl' hb2⟩
end Go.Proofs.YtnljhlmopjgogaaDoor
