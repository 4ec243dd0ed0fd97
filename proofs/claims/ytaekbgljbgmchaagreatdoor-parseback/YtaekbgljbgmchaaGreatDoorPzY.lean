/-
  oneMore and several of package parse, of blocks.
-/
import Derived.Test.YtaekbgljbgmchaaGreatDoorPzV
namespace Go.Proofs.YtaekbgljbgmchaaGreatDoor
open Go.RowKit
open Lx (Out)
open Pz
/-- Below base all blocks but b stand. -/
structure Kf (b base : Nat) (w w' : World) : Prop where
  os : w'.os = w.os
  tape : w'.tape = w.tape
  output : w'.output = w.output
  size : w.heap.size ≤ w'.heap.size
  block : ∀ k, k < base → k < w.heap.size → k ≠ b → w'.heap[k]? = w.heap[k]?
theorem Kf.refl (b base : Nat) (w : World) : Kf b base w w := ⟨rfl, rfl, rfl, Nat.le_refl _, fun _ _ _ _ => rfl⟩
theorem Kf.trans {b base : Nat} {u v w : World} (h : Kf b base u v) (k : Kf b base v w) : Kf b base u w :=
  ⟨k.os.trans h.os, k.tape.trans h.tape, k.output.trans h.output, Nat.le_trans h.size k.size, fun i hi hl hb => (k.block i hi (Nat.lt_of_lt_of_le hl h.size) hb).trans (h.block i hi hl hb)⟩
theorem Kf.kp {b base : Nat} {u v w : World} (h : Kf b base u v) (k : Kp b v w) : Kf b base u w := h.trans ⟨k.os, k.tape, k.output, k.size, fun i _ hl hb => k.block i hl hb⟩
theorem Kf.bel {b base : Nat} {u v w : World} (h : Kf b base u v) (k : Below v.heap.size v w) : Kf b base u w := h.kp (.of k)
theorem Kf.al {b base : Nat} {u v : World} (h : Kf b base u v) (o : Obj) : Kf b base u (v.alloc o) := h.bel (bel_al v o)
theorem Kf.grown {b base : Nat} {v : Value} {u w w' : World} {e size m : Nat} {xs : List Value} (h : Kf b base u w) (ho : w.ownsRow base e size v m xs) (hg : w.grownBy w' v.ownBlock) : Kf b base u w' :=
  h.trans ⟨hg.os, hg.tape, hg.output, hg.size, fun k hk hl _ => hg.block k hl (fun e1 => by have := (ho.lt k e1.symm).1; omega)⟩
theorem Kf.box {b base : Nat} {w w' : World} (h : Kf b base w w') {k : Nat} {o : Obj} (hk : w.heap[k]? = some o) (hb : k ≠ b) (hl : k < base) : w'.heap[k]? = some o := by rw [h.block k hl (ltB hk) hb]; exact hk
theorem Kf.to {b base : Nat} {u v w : World} (h : Kp b u v) (k : Kf b base v w) (hb : u.heap.size ≤ base) : Kp b u w :=
  ⟨k.os.trans h.os, k.tape.trans h.tape, k.output.trans h.output, Nat.le_trans h.size k.size, fun i hi hne => (k.block i (Nat.lt_of_lt_of_le hi hb) (Nat.lt_of_lt_of_le hi h.size) hne).trans (h.block i hi hne)⟩
theorem Pz.full_lt {toks : List Out} {s : S} (h : Ok toks s) (hk : s.hd.kind ≠ 5) (b : Bool) : (s.full b).rest.length + 1 ≤ s.rest.length := by
  have hp := pass_lt h hk
  unfold S.full
  cases b
  · simp only [Bool.false_eq_true, if_false]; omega
  · simp only [if_true]
    by_cases he : s.err = 0
    · have h1 : (s.refuse 6).rest.length = 1 := by unfold S.refuse S.fail; rw [if_pos he]; exact last1_one _ h.tk.ne
      have := pass_len (s.refuse 6)
      omega
    · have h1 : s.refuse 6 = s := by unfold S.refuse S.fail; rw [if_neg he]
      rw [h1]; omega
theorem Tryz.info60 : (Tryz.prog.info? 60).map (fun i => (i.zero, i.size, i.bytes)) = some (some (.slice none 0 0), 1, 24) := by kernel_rfl
/-- A list of Bl that is owned. -/
def LiBl (base : Nat) (v : Value) (l : List Bl) (w : World) : Prop := w.ownsRow base 60 1 v l.length (l.flatMap Bl.cells) ∧ ∀ x ∈ l, x.By (but base v) w
theorem LiBl.bel {base : Nat} {v : Value} {l : List Bl} {w w' : World} (h : LiBl base v l w) (k : Below w.heap.size w w') : LiBl base v l w' := ⟨owns_below h.1 k, fun x hx => Bl.By.kq (h.2 x hx) ((Kq.refl _ _).bel k)⟩
theorem LiBl.kp {base b : Nat} {v : Value} {l : List Bl} {w w' : World} (h : LiBl base v l w) (k : Kp b w w') (hb : b < base) : LiBl base v l w' := ⟨owns_kp h.1 k hb, fun x hx => Bl.By.kq (h.2 x hx) ((Kq.refl _ _).kp k (but_lt hb))⟩
/-- What oneMore comes to. -/
def BackBl (b g cap base : Nat) (toks : List Out) (x : List Bl × S) (w : World) (r : Ending) (w' : World) : Prop :=
  ∃ v l, r = .returned v ∧ l.map Bl.clr = x.1 ∧ LiBl base v l w' ∧ At b g cap toks x.2 w' ∧ Kf b base w w'
set_option maxRecDepth 100000 in
set_option maxHeartbeats 2000000 in
theorem oneMore_Bl (rd : S → Bl × S) (most : Nat) (v : Value) (l : List Bl) (base b g cap : Nat) (toks : List Out) (s : S) (w : World) (A : At b g cap toks s w) (Li : LiBl base v l w) (hbase : base ≤ w.heap.size) (hbb : b < base) (hgb : g < base) (hlen : l.length ≤ 200000)
    (hrd : ∀ W, At b g cap toks (s.full (decide (most ≤ l.length))) W → Kf b base w W → Calls Tryz.prog 121 #[.pointer (some ⟨b, 0, none⟩)] W (BlBack b g cap toks (rd (s.full (decide (most ≤ l.length)))) W)) :
    Calls Tryz.prog 218 #[.pointer (some ⟨b, 0, none⟩), v, .int .i64 (most : Int), .func (.func 121) #[.pointer (some ⟨b, 0, none⟩)] #[]] w (BackBl b g cap base toks (oneMore (l.map Bl.clr) most rd s) w) := by
  obtain ⟨i0, hi, hz0, hz1, hz2⟩ := info_parts Tryz.info60
  have Kk := Kf.refl b base w
  obtain ⟨ad0, cp0, hv, -⟩ := sl_of_own Bl.cells_len Li.1
  have HV := hid hv
  have HX : Hid (oneMore (l.map Bl.clr) most rd s = (l.map Bl.clr ++ [(rd (s.full (decide (most ≤ l.length)))).1], (rd (s.full (decide (most ≤ l.length)))).2)) := by show _ = _; unfold oneMore; rw [List.length_map]
  obtain ⟨X, hX⟩ : ∃ X, oneMore (l.map Bl.clr) most rd s = X := ⟨_, rfl⟩
  rw [hX] at HX ⊢
  rw [HX.out]
  clear hX HX
  subst hv
  clear HV
  by_cases hm : most ≤ l.length
  · have HE : Hid (∀ W, At b g cap toks (s.refuse 6).pass W → At b g cap toks (s.full (decide (most ≤ l.length))) W) := fun W hW => by rw [decide_eq_true hm]; exact hW
    have hmi : (most : Int) ≤ (l.length : Int) := by omega
    obtain ⟨sF, hsF⟩ : ∃ sF, s.full (decide (most ≤ l.length)) = sF := ⟨_, rfl⟩
    rw [hsF] at hrd HE ⊢
    clear hsF
    go_enter Tryz.func218, Tryz.ntmps218
    go_wp2_with (first
          | (go_at_call 63; (with_reducible refine (refuse_any 6 b g cap toks _ _ A).mono ?_); rintro r u1 ⟨rfl, A, k⟩; have Li := Li.kp k hbb; have Kk := Kk.kp k)
          | (go_at_call 110; (with_reducible refine (pass_any b g cap toks _ _ A).mono ?_); rintro r u2 ⟨rfl, A, k⟩; have Li := Li.kp k hbb; have Kk := Kk.kp k; have A := HE.out _ A)
          | (go_at_call 121; (with_reducible refine (hrd _ A Kk).mono ?_); rintro r u3 ⟨ad, cp, body, rfl, hclr, hBy, A, k⟩; have hzc := Kk.size; have Li0 := Li; have Li := Li.kp k hbb; have Kk := Kk.kp k)
          | (at_builtin; refine wpList_append_own2 rfl _ _ 106 rfl base 60 i0 (.slice none 0 0) 1 24 Tryz.underlying106 hi hz0 hz1 hz2 rfl (by decide) _ _ _ rfl (Li.1.alloc _) ⟨u3.heap.size, 0, none⟩ 1 1 (#[.slice ad body.length cp]).toList rfl rfl (news_of (newB' _ _ _ _ rfl)) ?c1 (by decide) ?c2 ?c3 ?c4 ?_))
    case c1 => exact rfl
    case c2 => unfold maxLen; omega
    case c3 => omega
    case c4 => have := Kk.size; simp; omega
    intro v' u4 hown' hgrow hwh
    have hwh2 : v'.ownBlock = (Value.slice ad0 l.length cp0).ownBlock ∨ v'.ownBlock = some ((u3.alloc (.cells #[.slice ad body.length cp] 60)).heap.size) := by simpa using hwh
    have hel2 : ∀ x ∈ l, x.By (but base v') u4 := fun x hx => grow_by (B := fun Q w => x.By Q w) (fun _ _ _ h1 h2 => Bl.By.kq h1 h2) (fun _ _ _ h1 h2 => Bl.By.weak h1 h2) (Bl.By.kq (Li.2 x hx) ((Kq.refl _ _).al _)) hgrow hwh2
    have hnew : (Bl.mk ad cp body).By (but base v') u4 := by
      refine grow_by (B := fun Q w => (Bl.mk ad cp body).By Q w) (fun _ _ _ h1 h2 => Bl.By.kq h1 h2) (fun _ _ _ h1 h2 => Bl.By.weak h1 h2) ?_ hgrow hwh2
      refine Bl.By.kq (Bl.By.weak hBy (fun k hk _ => but_iff.2 ⟨Nat.le_trans (Nat.le_trans hbase hzc) (from_iff.1 hk), fun e1 => ?_⟩)) ((Kq.refl _ _).al _)
      have h1 := (Li0.1.lt k e1).2
      have h2 := from_iff.1 hk
      omega
    have A := (A.al (.cells #[.slice ad body.length cp] 60)).grown (Li.1.alloc _) hgrow hbb hgb
    have Kk := (Kk.al (.cells #[.slice ad body.length cp] 60)).grown (Li.1.alloc _) hgrow
    clear hgrow hwh hwh2 Li Li0 hBy
    go_wp2
    go_ret
    refine ⟨v', l ++ [Bl.mk ad cp body], rfl, ?_, ⟨?_, ?_⟩, A, Kk⟩
    · rw [List.map_append, List.map_cons, List.map_nil, hclr]
    · rw [List.length_append, List.flatMap_append]; exact hown'
    · intro x hx
      rcases List.mem_append.1 hx with hx | hx
      · exact hel2 x hx
      · rw [List.mem_singleton.1 hx]; exact hnew
  · have HE : Hid (∀ W, At b g cap toks s.pass W → At b g cap toks (s.full (decide (most ≤ l.length))) W) := fun W hW => by rw [decide_eq_false hm]; exact hW
    have hmi : ¬ (most : Int) ≤ (l.length : Int) := by omega
    have hmd : decide ((most : Int) ≤ (l.length : Int)) = false := by simp only [decide_eq_false_iff_not]; exact hmi
    obtain ⟨sF, hsF⟩ : ∃ sF, s.full (decide (most ≤ l.length)) = sF := ⟨_, rfl⟩
    rw [hsF] at hrd HE ⊢
    clear hsF
    go_enter Tryz.func218, Tryz.ntmps218
    go_wp2_with (first
          | (go_at_call 110; (with_reducible refine (pass_any b g cap toks _ _ A).mono ?_); rintro r u2 ⟨rfl, A, k⟩; have Li := Li.kp k hbb; have Kk := Kk.kp k; have A := HE.out _ A)
          | (go_at_call 121; (with_reducible refine (hrd _ A Kk).mono ?_); rintro r u3 ⟨ad, cp, body, rfl, hclr, hBy, A, k⟩; have hzc := Kk.size; have Li0 := Li; have Li := Li.kp k hbb; have Kk := Kk.kp k)
          | (at_builtin; refine wpList_append_own2 rfl _ _ 106 rfl base 60 i0 (.slice none 0 0) 1 24 Tryz.underlying106 hi hz0 hz1 hz2 rfl (by decide) _ _ _ rfl (Li.1.alloc _) ⟨u3.heap.size, 0, none⟩ 1 1 (#[.slice ad body.length cp]).toList rfl rfl (news_of (newB' _ _ _ _ rfl)) ?c1 (by decide) ?c2 ?c3 ?c4 ?_))
    case c1 => exact rfl
    case c2 => unfold maxLen; omega
    case c3 => omega
    case c4 => have := Kk.size; simp; omega
    intro v' u4 hown' hgrow hwh
    have hwh2 : v'.ownBlock = (Value.slice ad0 l.length cp0).ownBlock ∨ v'.ownBlock = some ((u3.alloc (.cells #[.slice ad body.length cp] 60)).heap.size) := by simpa using hwh
    have hel2 : ∀ x ∈ l, x.By (but base v') u4 := fun x hx => grow_by (B := fun Q w => x.By Q w) (fun _ _ _ h1 h2 => Bl.By.kq h1 h2) (fun _ _ _ h1 h2 => Bl.By.weak h1 h2) (Bl.By.kq (Li.2 x hx) ((Kq.refl _ _).al _)) hgrow hwh2
    have hnew : (Bl.mk ad cp body).By (but base v') u4 := by
      refine grow_by (B := fun Q w => (Bl.mk ad cp body).By Q w) (fun _ _ _ h1 h2 => Bl.By.kq h1 h2) (fun _ _ _ h1 h2 => Bl.By.weak h1 h2) ?_ hgrow hwh2
      refine Bl.By.kq (Bl.By.weak hBy (fun k hk _ => but_iff.2 ⟨Nat.le_trans (Nat.le_trans hbase hzc) (from_iff.1 hk), fun e1 => ?_⟩)) ((Kq.refl _ _).al _)
      have h1 := (Li0.1.lt k e1).2
      have h2 := from_iff.1 hk
      omega
    have A := (A.al (.cells #[.slice ad body.length cp] 60)).grown (Li.1.alloc _) hgrow hbb hgb
    have Kk := (Kk.al (.cells #[.slice ad body.length cp] 60)).grown (Li.1.alloc _) hgrow
    clear hgrow hwh hwh2 Li Li0 hBy
    go_wp2
    go_ret
    refine ⟨v', l ++ [Bl.mk ad cp body], rfl, ?_, ⟨?_, ?_⟩, A, Kk⟩
    · rw [List.map_append, List.map_cons, List.map_nil, hclr]
    · rw [List.length_append, List.flatMap_append]; exact hown'
    · intro x hx
      rcases List.mem_append.1 hx with hx | hx
      · exact hel2 x hx
      · rw [List.mem_singleton.1 hx]; exact hnew
theorem several_unfoldBl (word : ByteArray) (most : Nat) (rd : S → Bl × S) (f : Nat) (l : List Bl) (s : S) (h : 1 ≤ f) : several word most rd f l s = (if s.sees word then several word most rd (f - 1) (oneMore l most rd s).1 (oneMore l most rd s).2 else (l, s)) := by
  obtain ⟨f, rfl⟩ : ∃ k, f = k + 1 := ⟨f - 1, by omega⟩
  rw [several]; rfl
set_option maxRecDepth 100000 in
set_option maxHeartbeats 2000000 in
theorem several_Bl (rd : S → Bl × S) (hle : ∀ s, Le s (rd s).2) (word : ByteArray) (hword : word.size ≠ 0) (most : Nat) (v0 : Value) (l0 : List Bl) (base b g cap : Nat) (toks : List Out) (s : S) (w : World) (A : At b g cap toks s w) (Li : LiBl base v0 l0 w) (hbase : base ≤ w.heap.size) (hbb : b < base) (hgb : g < base) (hlen : l0.length ≤ 10)
    (hrd : ∀ s' bb W, Le s s' → s'.rest.length + 1 ≤ s.rest.length → At b g cap toks s' W → Kf b base w W → bb = true → Calls Tryz.prog 121 #[.pointer (some ⟨b, 0, none⟩)] W (BlBack b g cap toks (rd s') W)) :
    Calls Tryz.prog 219 #[.pointer (some ⟨b, 0, none⟩), v0, .string word, .int .i64 (most : Int), .func (.func 121) #[.pointer (some ⟨b, 0, none⟩)] #[]] w (BackBl b g cap base toks (several word most rd s.rest.length (l0.map Bl.clr) s) w) := by
  obtain ⟨R, hR⟩ : ∃ R, several word most rd s.rest.length (l0.map Bl.clr) s = R := ⟨_, rfl⟩
  rw [hR]
  have HR := hid hR
  clear hR
  have hsm := A.small
  have hsl := A.ok.len.2
  have Kk := Kf.refl b base w
  go_enter Tryz.func219, Tryz.ntmps219
  go_wp2
  go_loopg [1] s.rest.length (fun gn v wr => ∃ (l : List Bl) (fi : Nat) (s' : S), gn = s'.rest.length ∧ LiBl base v l wr ∧ At b g cap toks s' wr ∧ Kf b base w wr ∧ Hid (several word most rd fi (l.map Bl.clr) s' = R) ∧ Hid (s'.rest.length ≤ fi ∧ Le s s' ∧ l.length + s'.rest.length ≤ 10 + s.rest.length))
  case atStart => exact ⟨l0, s.rest.length, s, rfl, Li, A, Kk, HR, Nat.le_refl _, Le.refl _, by omega⟩
  case round =>
    obtain ⟨l, fi, s', hgn, Li, A, Kk, HS, HF⟩ := hrel
    have HG := hid hgn
    clear hgn
    have hl1 := A.ok.len.1
    have h69 := sees_any word b g cap toks s' wr A
    have HU := hid (several_unfoldBl word most rd fi (l.map Bl.clr) s' (by have := HF.out.1; omega))
    cases q : s'.sees word
    · have HX : Hid (R = (l.map Bl.clr, s')) := by show _ = _; rw [← HS.out, HU.out, q]; rfl
      rw [q] at h69
      clear HU HS hrd
      go_wp2_with (go_at_call 69; (with_reducible refine h69.mono ?_); rintro r u1 ⟨rfl, b1⟩)
      go_ret
      exact ⟨_, l, rfl, by rw [HX.out], Li.bel b1, by rw [HX.out]; exact A.below b1, Kk.bel b1⟩
    · rw [q] at h69
      have hk5 := sees_kind A.ok q hword
      have hpl := pass_lt A.ok hk5
      have hfu : (s'.full (decide (most ≤ l.length))).rest.length + 1 ≤ s'.rest.length := full_lt A.ok hk5 _
      have hom := fun W (hA : At b g cap toks s' W) (hL : LiBl base u1 l W) (hK : Kf b base w W) (hz : base ≤ W.heap.size) => oneMore_Bl rd most u1 l base b g cap toks s' W hA hL hz hbb hgb (by have := HF.out.2.2; omega) (fun V hV kV => hrd _ true V (HF.out.2.1.trans (le_full s' _)) (by have := HF.out.2.1.2; omega) hV (hK.trans kV) rfl)
      have HO : Hid (Le s' (oneMore (l.map Bl.clr) most rd s').2 ∧ (oneMore (l.map Bl.clr) most rd s').2.rest.length + 1 ≤ s'.rest.length) := by
        refine ⟨le_oneMore _ _ _ hle s', ?_⟩
        have h1 := (hle (s'.full (decide (most ≤ (l.map Bl.clr).length)))).2
        rw [List.length_map] at h1
        have h2 : (oneMore (l.map Bl.clr) most rd s').2 = (rd (s'.full (decide (most ≤ l.length)))).2 := by unfold oneMore; rw [List.length_map]
        rw [h2]; omega
      have HX : Hid (R = several word most rd (fi - 1) (oneMore (l.map Bl.clr) most rd s').1 (oneMore (l.map Bl.clr) most rd s').2) := by show _ = _; rw [← HS.out, HU.out, q]; rfl
      have HL1 : Hid ((oneMore (l.map Bl.clr) most rd s').1.length = l.length + 1) := by show _ = _; unfold oneMore; simp
      obtain ⟨om, hom2⟩ : ∃ om, oneMore (l.map Bl.clr) most rd s' = om := ⟨_, rfl⟩
      rw [hom2] at HO HX HL1
      simp only [hom2] at hom
      clear hom2 hrd HU HS hfu hpl hk5
      have hzw := Kk.size
      go_wp2_with (first
        | (go_at_call 69; (with_reducible refine h69.mono ?_); rintro r u5 ⟨rfl, b1⟩; have Li := Li.bel b1; have A := A.below b1; have Kk := Kk.bel b1; have hz5 := b1.size)
        | (go_at_call 218; (with_reducible refine (hom _ A Li Kk (by omega)).mono ?_); rintro r u6 ⟨v6, l6, rfl, hl6, Li6, A, k6⟩; have Kk := Kk.trans k6))
      go_roundg om.2.rest.length
      case measure => have := HG.out; have := HO.out.2; omega
      case rel =>
        refine ⟨l6, fi - 1, om.2, rfl, Li6, A, Kk, ?_, ?_, ?_, ?_⟩
        · show _ = _; rw [hl6]; exact HX.out.symm
        · have := HF.out.1; have := HO.out.2; omega
        · exact HF.out.2.1.trans HO.out.1
        · have h1 := HL1.out
          rw [← hl6, List.length_map] at h1
          have := HF.out.2.2; have := HO.out.2; omega
end Go.Proofs.YtaekbgljbgmchaaGreatDoor
