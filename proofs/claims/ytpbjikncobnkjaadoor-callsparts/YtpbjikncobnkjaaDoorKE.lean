/-
  CallsNone: what is inlined calls nothing, is as big as was counted, and is the same when it is inlined again.
-/
import Derived.Test.YtpbjikncobnkjaaDoorKD
import Derived.Test.YtpbjikncobnkjaaDoorEqD
import Derived.Test.YtpbjikncobnkjaaDoorPtA
import Derived.Test.YtpbjikncobnkjaaDoorSmA
namespace Go.Proofs.YtpbjikncobnkjaaDoor
open Go.RowKit
theorem clr_subs (y : Bl) : y.clr.subs = y.subs.map St.clr :=
  Bl.ind (P := fun s => s.clr.subs = s.subs.map St.clr) (Q := fun b => b.clr.subs = b.subs.map St.clr)
    (fun kind mon name n e ad cap blocks pos ih => by
      rw [St.clr_mk, St.subs_mk, St.subs_mk, List.map_cons, St.clr_mk, List.flatMap_map, List.map_flatMap]
      congr 1
      clear ad cap
      induction blocks with
      | nil => rfl
      | cons b l ihl => rw [List.flatMap_cons, List.flatMap_cons, ih b (by simp), ihl (fun x hx => ih x (by simp [hx]))])
    (fun ad cap body ih => by
      rw [Bl.clr_mk, Bl.subs_mk, Bl.subs_mk, List.flatMap_map, List.map_flatMap]
      clear ad cap
      induction body with
      | nil => rfl
      | cons b l ihl => rw [List.flatMap_cons, List.flatMap_cons, ih b (by simp), ihl (fun x hx => ih x (by simp [hx]))]) y
theorem clr_kind (s : St) : s.clr.kind = s.kind := by rcases s with ⟨a1, a2, a3, a4, a5, a6, a7, a8, a9⟩; rw [St.clr_mk]; rfl
theorem clr_ok1 (s : St) : s.clr.ok1 = s.ok1 := by rcases s with ⟨a1, a2, a3, a4, a5, a6, a7, a8, a9⟩; rw [St.clr_mk]; simp [St.ok1]
theorem clr_okB (y : Bl) : y.clr.okB = y.okB := by
  rw [Bl.okB, Bl.okB, clr_subs, List.all_map]
  congr 1
  funext s
  exact clr_ok1 s
/-- What holds of all statements holds, as it must, of what is inlined. -/
theorem inl_all {P Q : St → Prop} {f : Ref → Bl} (h1 : ∀ s, P s → Q (s.inl f)) (hf : ∀ s, P s → s.kind = 8 → ∀ t ∈ (f s.ref).subs, Q t) (x : Bl) : (∀ s ∈ x.subs, P s) → ∀ t ∈ (x.inl f).subs, Q t :=
  Bl.ind (P := fun s => (∀ t ∈ s.subs, P t) → ∀ t ∈ (s.inl f).subs, Q t) (Q := fun b => (∀ t ∈ b.subs, P t) → ∀ t ∈ (b.inl f).subs, Q t)
    (fun kind mon name n e ad cap blocks pos ih hP t ht => by
      have hs := hP _ (subs_self _)
      have hq := h1 _ hs
      by_cases hk : kind = 8
      · subst hk
        rw [St.inl_call] at ht hq
        rw [St.subs_mk] at ht
        rcases List.mem_cons.1 ht with rfl | ht
        · exact hq
        · simp only [List.flatMap_cons, List.flatMap_nil, List.append_nil] at ht
          exact hf _ hs rfl t ht
      · rw [St.inl_other _ _ hk] at ht hq
        rw [St.subs_mk] at ht
        rcases List.mem_cons.1 ht with rfl | ht
        · exact hq
        · rw [List.flatMap_map] at ht
          obtain ⟨b, hb, ht⟩ := List.mem_flatMap.1 ht
          exact ih b hb (fun u hu => hP u (by rw [St.subs_mk]; exact List.mem_cons_of_mem _ (List.mem_flatMap.2 ⟨b, hb, hu⟩))) t ht)
    (fun ad cap body ih hP t ht => by
      rw [Bl.inl_mk, Bl.subs_mk, List.flatMap_map] at ht
      obtain ⟨s, hs, ht⟩ := List.mem_flatMap.1 ht
      exact ih s hs (fun u hu => hP u (by rw [Bl.subs_mk]; exact List.mem_flatMap.2 ⟨s, hs, hu⟩)) t ht) x
theorem inl_kind (f : Ref → Bl) (s : St) : (s.inl f).kind ≠ 8 := by
  rcases s with ⟨kind, a2, a3, a4, a5, a6, a7, a8, a9⟩
  by_cases hk : kind = 8
  · subst hk; rw [St.inl_call]; show (7 : Int) ≠ 8; decide
  · rw [St.inl_other _ _ hk]; exact hk
theorem inlR_none (p : Pr) (N : Nat) : ∀ r, ∀ t ∈ (inlR p N r).subs, t.kind ≠ 8 := by
  induction N with
  | zero => intro r t ht; simp [inlR, Bl.subs_mk] at ht
  | succ N ih => intro r; exact inl_all (P := fun _ => True) (Q := fun t => t.kind ≠ 8) (fun s _ => inl_kind _ s) (fun s _ _ => ih s.ref) (bodyOf p r) (fun _ _ => trivial)
theorem inl_none (p : Pr) (N : Nat) (x : Bl) : ∀ t ∈ (x.inl (inlR p N)).subs, t.kind ≠ 8 := inl_all (P := fun _ => True) (Q := fun t => t.kind ≠ 8) (fun s _ => inl_kind _ s) (fun s _ _ => inlR_none p N s.ref) x (fun _ _ => trivial)
theorem zeroEx_fits : fitsEx zeroEx (stExpr (7 : Int).toNat) = true := by kernel_rfl
theorem inl_ok1 (f : Ref → Bl) (s : St) (h : s.ok1 = true) : (s.inl f).ok1 = true := by
  rcases s with ⟨kind, mon, name, n, e, ad, cap, blocks, pos⟩
  by_cases hk : kind = 8
  · subst hk
    rw [St.inl_call]
    simp only [St.ok1, Bool.and_eq_true, decide_eq_true_eq] at h ⊢
    refine ⟨⟨by decide, by decide⟩, ⟨⟨⟨⟨h.2.1.1.1.1.1, by kernel_rfl⟩, by kernel_rfl⟩, zeroEx_fits⟩, by show stLeast (Int.toNat 7) ≤ 1; decide⟩, by show 1 ≤ stMost (Int.toNat 7); decide⟩
  · rw [St.inl_other _ _ hk]
    simpa [St.ok1] using h
theorem body_okB {p : Pr} (h : p.ok = true) (r : Ref) : (bodyOf p r).okB = true := by
  rw [bodyOf]
  split
  · rename_i f hf
    obtain ⟨m, hm, hfm⟩ := methIx_mem hf
    exact ok_meth h m hm f hfm
  · rw [Bl.okB, Bl.subs_mk]; rfl
theorem okB_iff {x : Bl} : x.okB = true ↔ ∀ s ∈ x.subs, s.ok1 = true := by rw [Bl.okB, List.all_eq_true]
theorem inlR_ok {p : Pr} (h : p.ok = true) (N : Nat) : ∀ r, ∀ t ∈ (inlR p N r).subs, t.ok1 = true := by
  induction N with
  | zero => intro r t ht; simp [inlR, Bl.subs_mk] at ht
  | succ N ih => intro r; exact inl_all (P := fun s => s.ok1 = true) (Q := fun t => t.ok1 = true) (fun s hs => inl_ok1 _ s hs) (fun s _ _ => ih s.ref) (bodyOf p r) (okB_iff.1 (body_okB h r))
theorem inl_okB {p : Pr} (h : p.ok = true) (N : Nat) {x : Bl} (hx : x.okB = true) : (x.inl (inlR p N)).okB = true :=
  okB_iff.2 (inl_all (P := fun s => s.ok1 = true) (Q := fun t => t.ok1 = true) (fun s hs => inl_ok1 _ s hs) (fun s _ _ => inlR_ok h N s.ref) x (okB_iff.1 hx))
/-- How many statements there are in what is inlined. -/
theorem inl_len (f : Ref → Bl) (x : Bl) : (∀ s ∈ x.subs, s.kind = 8 → s.blocks = []) → (x.inl f).subs.length = (x.subs.map fun s => if s.kind = 8 then 1 + (f s.ref).subs.length else 1).sum :=
  Bl.ind (P := fun s => (∀ t ∈ s.subs, t.kind = 8 → t.blocks = []) → (s.inl f).subs.length = (s.subs.map fun s => if s.kind = 8 then 1 + (f s.ref).subs.length else 1).sum)
    (Q := fun b => (∀ t ∈ b.subs, t.kind = 8 → t.blocks = []) → (b.inl f).subs.length = (b.subs.map fun s => if s.kind = 8 then 1 + (f s.ref).subs.length else 1).sum)
    (fun kind mon name n e ad cap blocks pos ih hP => by
      have hs := hP _ (subs_self _)
      by_cases hk : kind = 8
      · subst hk
        have hb : blocks = [] := hs rfl
        subst hb
        rw [St.inl_call, St.subs_mk, St.subs_mk]
        simp [St.kind, St.ref]; omega
      · rw [St.inl_other _ _ hk, St.subs_mk, St.subs_mk, List.flatMap_map, List.length_cons, List.map_cons, List.sum_cons, if_neg (show ¬ (St.mk kind mon name n e ad cap blocks pos).kind = 8 from hk)]
        have hP2 : ∀ b ∈ blocks, ∀ t ∈ b.subs, t.kind = 8 → t.blocks = [] := fun b hb t ht => hP t (by rw [St.subs_mk]; exact List.mem_cons_of_mem _ (List.mem_flatMap.2 ⟨b, hb, ht⟩))
        have : (blocks.flatMap fun b => (b.inl f).subs).length = ((blocks.flatMap Bl.subs).map fun s => if s.kind = 8 then 1 + (f s.ref).subs.length else 1).sum := by
          clear hP hs
          induction blocks with
          | nil => rfl
          | cons b l ihl => rw [List.flatMap_cons, List.flatMap_cons, List.length_append, List.map_append, List.sum_append, ih b (by simp) (hP2 b (by simp)), ihl (fun x hx => ih x (by simp [hx])) (fun x hx => hP2 x (by simp [hx]))]
        omega)
    (fun ad cap body ih hP => by
      rw [Bl.inl_mk, Bl.subs_mk, Bl.subs_mk, List.flatMap_map]
      have hP2 : ∀ b ∈ body, ∀ t ∈ b.subs, t.kind = 8 → t.blocks = [] := fun b hb t ht => hP t (by rw [Bl.subs_mk]; exact List.mem_flatMap.2 ⟨b, hb, ht⟩)
      clear hP
      induction body with
      | nil => rfl
      | cons b l ihl => rw [List.flatMap_cons, List.flatMap_cons, List.length_append, List.map_append, List.sum_append, ih b (by simp) (hP2 b (by simp)), ihl (fun x hx => ih x (by simp [hx])) (fun x hx => hP2 x (by simp [hx]))]) x
theorem call_blocks {s : St} (h : s.ok1 = true) (hk : s.kind = 8) : s.blocks = [] := by
  rcases s with ⟨kind, mon, name, n, e, ad, cap, blocks, pos⟩
  have hk : kind = 8 := hk
  subst hk
  simp only [St.ok1, Bool.and_eq_true, decide_eq_true_eq] at h
  have h1 := h.2.2
  have h2 : stMost (8 : Int).toNat = 0 := by kernel_rfl
  rw [h2] at h1
  exact List.eq_nil_of_length_eq_zero (Nat.le_zero.1 h1)
theorem le_sum {l : List Nat} {a : Nat} (h : a ∈ l) : a ≤ l.sum := by
  induction l with
  | nil => cases h
  | cons b l ih =>
    rw [List.sum_cons]
    rcases List.mem_cons.1 h with rfl | h
    · omega
    · have := ih h; omega
/-- What is inlined is as big as was counted. -/
theorem inlR_len {p : Pr} {x : Bl} {R : List Ref} {Z : List (Ref × Nat)} (hok : p.ok = true) (hg : Good p x R Z) (N : Nat) : ∀ r ∈ R, rkOf R r < N → szGet Z r ≤ 400 → szGet Z r = 1 + (inlR p N r).subs.length := by
  induction N with
  | zero => intro r _ h; omega
  | succ N ih =>
    intro r hr hk hs
    have h1 := hg.size r hr
    have h2 : tot Z (bodyOf p r) ≤ 399 := by omega
    have h3 : szGet Z r = 1 + tot Z (bodyOf p r) := by omega
    rw [h3]
    congr 1
    have hb := okB_iff.1 (body_okB hok r)
    show tot Z (bodyOf p r) = ((bodyOf p r).inl (inlR p N)).subs.length
    rw [inl_len _ _ (fun s hs hk => call_blocks (hb s hs) hk)]
    unfold tot sumOf at h2 ⊢
    congr 1
    refine List.map_congr_left fun s hs => ?_
    unfold sown
    split
    · rename_i hk8
      have hm : s.ref ∈ leadsOf p r := (callsOf_mem _ _).2 ⟨s, hs, hk8, rfl⟩
      obtain ⟨h4, h5⟩ := hg.leads r hr _ hm
      refine ih _ h4 (by omega) ?_
      have h6 : sown Z s ≤ ((bodyOf p r).subs.map (sown Z)).sum := le_sum (List.mem_map.2 ⟨s, hs, rfl⟩)
      unfold sown at h6
      rw [if_pos hk8] at h6
      have h7 : ((bodyOf p r).subs.map (sown Z)).sum = ((bodyOf p r).subs.map fun s => if s.kind = 8 then szGet Z s.ref else 1).sum := rfl
      omega
    · rfl
theorem inl_size {p : Pr} {x : Bl} {n : Nat} (hok : p.ok = true) (hx : x.okB = true) (h : cntOf p x = (n, 0)) : (x.inl (inlR p (reachedOf p (callsOf x)).length)).subs.length = n ∧ n ≤ 400 := by
  obtain ⟨Z, hg, ht, hn⟩ := good_of h
  refine ⟨?_, hn⟩
  have hb := okB_iff.1 hx
  rw [inl_len _ _ (fun s hs hk => call_blocks (hb s hs) hk), ← ht]
  unfold tot sumOf
  congr 1
  refine List.map_congr_left fun s hs => ?_
  unfold sown
  split
  · rename_i hk8
    have hm : s.ref ∈ callsOf x := (callsOf_mem _ _).2 ⟨s, hs, hk8, rfl⟩
    have h4 := hg.root _ hm
    refine (inlR_len hok hg _ _ h4 (rkOf_lt h4) ?_).symm
    have h6 : sown Z s ≤ (x.subs.map (sown Z)).sum := le_sum (List.mem_map.2 ⟨s, hs, rfl⟩)
    unfold sown at h6
    rw [if_pos hk8] at h6
    have h7 : tot Z x = (x.subs.map fun s => if s.kind = 8 then szGet Z s.ref else 1).sum := rfl
    omega
  · rfl
/-- What calls nothing is inlined as it is. -/
theorem inl_same (g : Ref → Bl) (y : Bl) : (∀ s ∈ y.subs, s.kind ≠ 8) → y.inl g = y.clr :=
  Bl.ind (P := fun s => (∀ t ∈ s.subs, t.kind ≠ 8) → s.inl g = s.clr) (Q := fun b => (∀ t ∈ b.subs, t.kind ≠ 8) → b.inl g = b.clr)
    (fun kind mon name n e ad cap blocks pos ih hP => by
      have hk : kind ≠ 8 := hP _ (subs_self _)
      rw [St.inl_other _ _ hk, St.clr_mk]
      congr 1
      exact List.map_congr_left fun b hb => ih b hb (fun t ht => hP t (by rw [St.subs_mk]; exact List.mem_cons_of_mem _ (List.mem_flatMap.2 ⟨b, hb, ht⟩))))
    (fun ad cap body ih hP => by
      rw [Bl.inl_mk, Bl.clr_mk]
      congr 1
      exact List.map_congr_left fun s hs => ih s hs (fun t ht => hP t (by rw [Bl.subs_mk]; exact List.mem_flatMap.2 ⟨s, hs, ht⟩))) y
theorem all2_of_map {α : Type} {f : α → α → Bool} {c : α → α} : ∀ (xs ys : List α), xs.map c = ys.map c → (∀ x ∈ xs, ∀ y, c x = c y → f x y = true) → all2 f xs ys = true := by
  intro xs
  induction xs with
  | nil =>
    intro ys h _
    cases ys with
    | nil => rfl
    | cons y ys => simp at h
  | cons x xs ih =>
    intro ys h hf
    cases ys with
    | nil => simp at h
    | cons y ys =>
      simp only [List.map_cons, List.cons.injEq] at h
      rw [all2, hf x (by simp) y h.1, ih ys h.2 (fun z hz => hf z (by simp [hz]))]; rfl
theorem exSame_self (e : Ex) : e.same e = true := by
  induction e using Ex.ind with
  | h op mon name n ad cap kids pos ih =>
    rw [same_mk]
    have : all2 Ex.same kids kids = true := by
      clear ad cap
      induction kids with
      | nil => rfl
      | cons x l ihl => rw [all2, ih x (by simp), ihl (fun y hy => ih y (by simp [hy]))]; rfl
    simp [this]
theorem same_of_clr (a : Bl) : ∀ b : Bl, a.clr = b.clr → a.same b = true :=
  Bl.ind (P := fun s => ∀ t : St, s.clr = t.clr → s.same t = true) (Q := fun a => ∀ b : Bl, a.clr = b.clr → a.same b = true)
    (fun kind mon name n e ad cap blocks pos ih t h => by
      rcases t with ⟨kind', mon', name', n', e', ad', cap', blocks', pos'⟩
      rw [St.clr_mk, St.clr_mk] at h
      injection h with h1 h2 h3 h4 h5 _ _ h6 h7
      subst h1 h2 h3 h4 h5 h7
      have := all2_of_map (f := Bl.same) blocks blocks' h6 ih
      rw [stSame_mk, exSame_self, this]; simp)
    (fun ad cap body ih b h => by
      rcases b with ⟨ad', cap', body'⟩
      rw [Bl.clr_mk, Bl.clr_mk] at h
      injection h with _ _ h
      have := all2_of_map (f := St.same) body body' h ih
      rw [blSame_mk, this]) a
theorem sum_ones {α : Type} (l : List α) (f : α → Nat) (h : ∀ s ∈ l, f s = 1) : (l.map f).sum = l.length := by
  induction l with
  | nil => rfl
  | cons a l ih => rw [List.map_cons, List.sum_cons, h a (by simp), ih (fun s hs => h s (by simp [hs])), List.length_cons]; omega
theorem cnt_none {p : Pr} {y : Bl} (h : ∀ s ∈ y.subs, s.kind ≠ 8) (hl : y.subs.length ≤ 400) : cntOf p y = (y.subs.length, 0) ∧ callsOf y = [] := by
  have hc : callsOf y = [] := by
    refine List.eq_nil_iff_forall_not_mem.2 fun r hr => ?_
    obtain ⟨s, hs, hk, _⟩ := (callsOf_mem _ _).1 hr
    exact h s hs hk
  refine ⟨?_, hc⟩
  have hr : reachedOf p [] = [] := rfl
  have ht : tot [] y = y.subs.length := by
    unfold tot sumOf
    exact sum_ones _ _ (fun s hs => by unfold sown; rw [if_neg (h s hs)])
  rw [cntOf_eq, hc, hr, if_neg (by simp)]
  show cntRes _ (some []) = _
  simp only [cntRes, ht]
  rw [if_neg (by omega)]
  congr 1
  omega
end Go.Proofs.YtpbjikncobnkjaaDoor
namespace Go.Proofs.YtpbjikncobnkjaaDoor
open Go.RowKit
def St.bsub (s : St) : Nat := (s.blocks.flatMap Bl.subs).length
theorem bsub_len (s : St) : s.subs.length = 1 + s.bsub := by rcases s with ⟨a1, a2, a3, a4, a5, a6, a7, a8, a9⟩; rw [St.subs_mk, List.length_cons]; show _ = 1 + (a8.flatMap Bl.subs).length; omega
def lenTo (body : List St) (j : Nat) : Nat := body.length + ((body.take j).map St.bsub).sum
theorem lenTo_next (body : List St) (j : Nat) (h : j < body.length) : lenTo body (j + 1) = lenTo body j + body[j].bsub := by
  unfold lenTo
  rw [List.take_succ_eq_append_getElem h, List.map_append, List.sum_append]
  simp; omega
theorem lenTo_end (body : List St) : lenTo body body.length = (body.flatMap St.subs).length := by
  unfold lenTo
  rw [List.take_length]
  induction body with
  | nil => rfl
  | cons s l ih =>
    rw [List.flatMap_cons, List.length_append, ← ih, bsub_len, List.length_cons, List.map_cons, List.sum_cons]; omega
theorem lenTo_le (body : List St) (j : Nat) : lenTo body j ≤ (body.flatMap St.subs).length := by
  rw [← lenTo_end]
  unfold lenTo
  rw [List.take_length]
  conv => rhs; rw [← List.take_append_drop j body, List.map_append, List.sum_append]
  simp only [List.length_append, List.length_take, List.length_drop]
  omega
theorem flat_snoc_len (l : List Bl) (k : Nat) (h : k < l.length) : ((l.take (k + 1)).flatMap Bl.subs).length = ((l.take k).flatMap Bl.subs).length + l[k].subs.length := by
  rw [flatMap_snoc Bl.subs l k h, List.length_append]
theorem flat_take_len (l : List Bl) (k : Nat) : ((l.take k).flatMap Bl.subs).length ≤ (l.flatMap Bl.subs).length := by
  conv => rhs; rw [← List.take_append_drop k l, List.flatMap_append, List.length_append]
  omega
def LsBl (x : Bl) : Prop := ∀ (n₀ : Nat) (w : World), n₀ ≤ w.heap.size → x.Is n₀ w → x.subs.length ≤ 400000 → Calls Tryd.prog 13 #[x.slice] w fun r w' => r = .returned (.int .i64 (x.subs.length : Int)) ∧ Below w.heap.size w w'
set_option maxRecDepth 100000 in
set_option maxHeartbeats 4000000 in
theorem lsize_step (ad : Option Addr) (cap : Nat) (body : List St) (ih : ∀ s ∈ body, ∀ x ∈ s.blocks, LsBl x) : LsBl (.mk ad cap body) := by
  intro n₀ w hn hI hlen
  rw [Bl.subs_mk] at hlen ⊢
  have HEnd := hid (lenTo_end body)
  have HLe := hid (lenTo_le body)
  have hIk := hI.down.2
  have hsl := hI.down.1
  have hl1 := hsl.1; have hl2 := hsl.2.1
  unfold maxLen at hl2
  obtain ⟨L, hL⟩ : ∃ L, (body.flatMap St.subs).length = L := ⟨_, rfl⟩
  rw [hL] at hlen HEnd HLe ⊢
  clear hL
  simp only [Bl.slice]
  go_enter Tryd.func13, Tryd.ntmps13
  go_wp2
  go_loopw [3, 4] (fun v i wr => ∃ j : Nat, j ≤ body.length ∧ i = .int .i64 j ∧ v = .int .i64 ((lenTo body j : Nat) : Int) ∧ Below w.heap.size w wr)
    (fun _ i _ => body.length - (intOf i).toNat)
  case atStart => exact ⟨0, by omega, rfl, by simp [lenTo], Below.refl _ _⟩
  case round =>
    obtain ⟨j, hj, rfl, rfl, hbw⟩ := hrel
    have hz1 := hbw.size
    by_cases hlt : j < body.length
    · rcases hsl.2.2 with h | ⟨kb, koff, rfl, hbn, hrow⟩
      · subst h; simp at hlt
      have HN1 := hid (lenTo_next body j hlt)
      have hLe := HLe.out (j + 1)
      rw [HN1.out] at hLe
      have hIj := hIk _ (List.getElem_mem hlt)
      have ihj := ih _ (List.getElem_mem hlt)
      have HBS : Hid (body[j].bsub = (body[j].blocks.flatMap Bl.subs).length) := rfl
      obtain ⟨A, hA⟩ : ∃ A, lenTo body j = A := ⟨_, rfl⟩
      rw [hA] at HN1 hLe ⊢
      rcases he' : body[j] with ⟨kind', mon', name', n', ⟨eop', emon', ename', en', ead', ecap', ekids', epos'⟩, ad', cap', blocks', pos'⟩
      rw [he'] at hIj ihj HN1 HBS hLe
      simp only [St.blocks] at ihj HBS
      have hsB := hIj.down.2.2.1
      have hIB := hIj.down.2.2.2
      have hbl1 := hsB.1; have hbl2 := hsB.2.1
      unfold maxLen at hbl2
      have hc10 := (hrow j hlt 10 (by omega))
      rw [he'] at hc10
      simp [St.cells, Ex.cells] at hc10
      rw [HBS.out] at HN1 hLe
      clear he' hA ih HBS
      obtain ⟨wo, hwo⟩ : ∃ wo : World, wo = wr := ⟨_, rfl⟩
      subst hwo
      go_wp2
      go_loopw [3, 5] (fun v i wx => ∃ m : Nat, m ≤ blocks'.length ∧ i = .int .i64 m ∧ v = .int .i64 ((A + ((blocks'.take m).flatMap Bl.subs).length : Nat) : Int) ∧ Below w.heap.size w wx)
        (fun _ i _ => blocks'.length - (intOf i).toNat)
      case atStart => exact ⟨0, by omega, rfl, by simp, hbw⟩
      case round =>
        obtain ⟨m, hm, rfl, rfl, hbm⟩ := hrel
        have hzm := hbm.size
        have hbm0 := hbm.mono hn
        have c10 := (hbm0.cell (p := ⟨kb, koff + j * 12 + 10, none⟩) hbn).trans hc10
        have hkw : kb < wr.heap.size := by omega
        have hjj : (j : Int) < (body.length : Int) := by omega
        by_cases hlm : m < blocks'.length
        · rcases hsB.2.2 with h | ⟨qb, qoff, rfl, hqn, hqrow⟩
          · subst h; simp at hlm
          have HFS := hid (flat_snoc_len blocks' m hlm)
          have hft := flat_take_len blocks' (m + 1)
          rw [HFS.out] at hft
          have hq5 := ihj _ (List.getElem_mem hlm) n₀ wr (by omega) ((hIB _ (List.getElem_mem hlm)).below hbm0) (by omega)
          obtain ⟨R, hR⟩ : ∃ R, A + ((blocks'.take m).flatMap Bl.subs).length = R := ⟨_, rfl⟩
          obtain ⟨Q2, hQ2⟩ : ∃ Q2, blocks'[m].subs.length = Q2 := ⟨_, rfl⟩
          rw [hQ2] at hq5 HFS hft
          have HR := hid hR
          have i5 : 0 ≤ (R : Int) ∧ (R : Int) ≤ 400000 := by omega
          have i6 : 0 ≤ (Q2 : Int) ∧ (Q2 : Int) ≤ 400000 := by omega
          have i7 : (R : Int) + (Q2 : Int) ≤ 800000 := by omega
          rw [hR]
          have hqw : qb < wr.heap.size := by omega
          rcases hbk2 : blocks'[m] with ⟨qad, qcap, qbody⟩
          have d0 := row1 (hqrow.below hbm0 hqn) m hlm (by rw [hbk2]; rfl)
          simp only [hbk2, Bl.slice] at hq5 d0
          clear hbk2 hR hQ2 hft hLe
          go_wp2_with (go_at_call 13; (with_reducible refine hq5.mono ?_); rintro r w5 ⟨rfl, hb5⟩)
          go_roundw
          case rel => exact ⟨m + 1, by omega, by go_num, by rw [HFS.out]; congr 1; have := HR.out; omega, hbm.tr (by omega) hb5⟩
          case measure => simp [intOf]; omega
        · have hmd : decide ((m : Int) < (blocks'.length : Int)) = false := by simp; omega
          have HE : Hid (lenTo body (j + 1) = A + ((blocks'.take m).flatMap Bl.subs).length) := by
            show _ = _
            rw [HN1.out, List.take_of_length_le (by omega)]
          go_wp2
          go_roundw
          case rel => exact ⟨j + 1, by omega, by go_num, by rw [HE.out], hbm⟩
          case measure => simp [intOf]; omega
    · have hjd : decide ((j : Int) < (body.length : Int)) = false := by simp; omega
      have HE : Hid (lenTo body j = L) := by
        show _ = _
        have : j = body.length := by omega
        rw [this, HEnd.out]
      go_wp2
      go_ret
      exact ⟨by rw [← HE.out]; rfl, hbw⟩
theorem lsize_any (x : Bl) : LsBl x :=
  Bl.ind (P := fun s => ∀ x ∈ s.blocks, LsBl x) (Q := fun x => LsBl x) (fun _ _ _ _ _ _ _ _ _ ih x hx => ih x hx) (fun ad cap body ih => lsize_step ad cap body ih) x
theorem len_le_sz (l : List St) : l.length ≤ (l.map St.sz).sum := by
  induction l with
  | nil => simp
  | cons s l ih => rw [List.length_cons, List.map_cons, List.sum_cons]; have : 1 ≤ s.sz := by unfold St.sz; omega
                   omega
theorem body_le_subs (b : Bl) : b.body.length ≤ b.subs.length := by
  rcases b with ⟨a, c, body⟩
  rw [Bl.subs_mk]
  exact len_flat1 St.subs body (fun s _ => List.length_pos_of_mem (subs_self s))
theorem calls_le (b : Bl) : (callsOf b).length ≤ b.subs.length := by
  have := callsA_len b.subs []
  simpa [callsOf] using this
theorem flat_le {α β γ : Type} (f : α → List β) (g : α → List γ) (l : List α) (h : ∀ x ∈ l, (f x).length ≤ (g x).length) : (l.flatMap f).length ≤ (l.flatMap g).length := by
  induction l with
  | nil => simp
  | cons x l ih =>
    rw [List.flatMap_cons, List.flatMap_cons, List.length_append, List.length_append]
    have h1 := h x (by simp)
    have h2 := ih (fun y hy => h y (by simp [hy]))
    omega
theorem fine_small {p : Pr} (h : p.size ≤ 400) : Fine0 p := by
  have h1 : p.stmts.length ≤ 400 := Nat.le_trans (len_le_sz _) h
  have h2 : (p.mons.flatMap fun m => m.meths.flatMap fun x => x.body.subs).length ≤ 400 := by
    have : p.stmts = (p.mons.flatMap fun m => m.meths.flatMap fun x => x.body.subs) ++ p.roles.flatMap fun r => r.body.subs := rfl
    rw [this, List.length_append] at h1; omega
  have h3 : ∀ m ∈ p.mons, ∀ f ∈ m.meths, f.body.subs.length ≤ 400 := fun m hm f hf => by
    have a1 := len_flat (fun m : Mo => m.meths.flatMap fun x => x.body.subs) p.mons m hm
    have a2 := len_flat (fun x : Me => x.body.subs) m.meths f hf
    omega
  have h4 : (allRefs p).length ≤ 400 := Nat.le_trans (flat_le _ _ p.mons fun m _ => flat_le _ _ m.meths fun f _ => calls_le f.body) h2
  refine ⟨fun m hm f hf => by have := h3 m hm f hf; omega, fun m hm f hf => by have := h3 m hm f hf; have := body_le_subs f.body; omega, by omega, fun r => ?_⟩
  unfold leadsOf bodyOf
  split
  · rename_i f hf
    obtain ⟨m, hm, hfm⟩ := methIx_mem hf
    have := h3 m hm f hfm; have := calls_le f.body; omega
  · rw [callsOf, Bl.subs_mk]; simp [callsA]
end Go.Proofs.YtpbjikncobnkjaaDoor
