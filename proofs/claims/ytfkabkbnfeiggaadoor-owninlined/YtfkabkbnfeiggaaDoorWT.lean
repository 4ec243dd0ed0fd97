/-
  OwnInlined: its walk: where a program is right, what its roles are with all methods in place of their calls is right, too.
-/
import Derived.Test.YtfkabkbnfeiggaaDoorWC
import Derived.Test.YtfkabkbnfeiggaaDoorEqD
import Derived.Test.YtfkabkbnfeiggaaDoorPtA
import Derived.Test.YtfkabkbnfeiggaaDoorSmA
import Derived.Test.YtfkabkbnfeiggaaDoorWO
import Derived.Deep.DeepCutAuto
namespace Go.Proofs.YtfkabkbnfeiggaaDoor
open Go.RowKit
theorem clr_subs (y : Bl) : y.clr.subs = y.subs.map St.clr :=
  Bl.ind (P := fun s => s.clr.subs = s.subs.map St.clr) (Q := fun b => b.clr.subs = b.subs.map St.clr)
    (fun kind mon name n e ad cap blocks pos ih => by
      rw [St.clr_mk, St.subs_mk, St.subs_mk, List.map_cons, St.clr_mk, List.flatMap_map, List.map_flatMap]
      congr 1
      clear ad cap
      induction blocks with
      | nil => rfl
      | cons b l ihl => rw [List.flatMap_cons, List.flatMap_cons, ih b (by simp), ihl (fun x hx => ih x (by simp [hx]))])
    (fun ad cap body ih => by
      rw [Bl.clr_mk, Bl.subs_mk, Bl.subs_mk, List.flatMap_map, List.map_flatMap]
      clear ad cap
      induction body with
      | nil => rfl
      | cons b l ihl => rw [List.flatMap_cons, List.flatMap_cons, ih b (by simp), ihl (fun x hx => ih x (by simp [hx]))]) y
theorem clr_kind (s : St) : s.clr.kind = s.kind := by rcases s with ⟨a1, a2, a3, a4, a5, a6, a7, a8, a9⟩; rw [St.clr_mk]; rfl
theorem clr_ok1 (s : St) : s.clr.ok1 = s.ok1 := by rcases s with ⟨a1, a2, a3, a4, a5, a6, a7, a8, a9⟩; rw [St.clr_mk]; simp [St.ok1]
theorem clr_okB (y : Bl) : y.clr.okB = y.okB := by
  rw [Bl.okB, Bl.okB, clr_subs, List.all_map]
  congr 1
  funext s
  exact clr_ok1 s
/-- What holds of all statements holds, as it must, of what is inlined. -/
theorem inl_all {P Q : St → Prop} {f : Ref → Bl} (h1 : ∀ s, P s → Q (s.inl f)) (hf : ∀ s, P s → s.kind = 8 → ∀ t ∈ (f s.ref).subs, Q t) (x : Bl) : (∀ s ∈ x.subs, P s) → ∀ t ∈ (x.inl f).subs, Q t :=
  Bl.ind (P := fun s => (∀ t ∈ s.subs, P t) → ∀ t ∈ (s.inl f).subs, Q t) (Q := fun b => (∀ t ∈ b.subs, P t) → ∀ t ∈ (b.inl f).subs, Q t)
    (fun kind mon name n e ad cap blocks pos ih hP t ht => by
      have hs := hP _ (subs_self _)
      have hq := h1 _ hs
      by_cases hk : kind = 8
      · subst hk
        rw [St.inl_call] at ht hq
        rw [St.subs_mk] at ht
        rcases List.mem_cons.1 ht with rfl | ht
        · exact hq
        · simp only [List.flatMap_cons, List.flatMap_nil, List.append_nil] at ht
          exact hf _ hs rfl t ht
      · rw [St.inl_other _ _ hk] at ht hq
        rw [St.subs_mk] at ht
        rcases List.mem_cons.1 ht with rfl | ht
        · exact hq
        · rw [List.flatMap_map] at ht
          obtain ⟨b, hb, ht⟩ := List.mem_flatMap.1 ht
          exact ih b hb (fun u hu => hP u (by rw [St.subs_mk]; exact List.mem_cons_of_mem _ (List.mem_flatMap.2 ⟨b, hb, hu⟩))) t ht)
    (fun ad cap body ih hP t ht => by
      rw [Bl.inl_mk, Bl.subs_mk, List.flatMap_map] at ht
      obtain ⟨s, hs, ht⟩ := List.mem_flatMap.1 ht
      exact ih s hs (fun u hu => hP u (by rw [Bl.subs_mk]; exact List.mem_flatMap.2 ⟨s, hs, hu⟩)) t ht) x
theorem inl_kind (f : Ref → Bl) (s : St) : (s.inl f).kind ≠ 8 := by
  rcases s with ⟨kind, a2, a3, a4, a5, a6, a7, a8, a9⟩
  by_cases hk : kind = 8
  · subst hk; rw [St.inl_call]; show (7 : Int) ≠ 8; decide
  · rw [St.inl_other _ _ hk]; exact hk
theorem inlR_none (p : Pr) (N : Nat) : ∀ r, ∀ t ∈ (inlR p N r).subs, t.kind ≠ 8 := by
  induction N with
  | zero => intro r t ht; simp [inlR, Bl.subs_mk] at ht
  | succ N ih => intro r; exact inl_all (P := fun _ => True) (Q := fun t => t.kind ≠ 8) (fun s _ => inl_kind _ s) (fun s _ _ => ih s.ref) (bodyOf p r) (fun _ _ => trivial)
theorem inl_none (p : Pr) (N : Nat) (x : Bl) : ∀ t ∈ (x.inl (inlR p N)).subs, t.kind ≠ 8 := inl_all (P := fun _ => True) (Q := fun t => t.kind ≠ 8) (fun s _ => inl_kind _ s) (fun s _ _ => inlR_none p N s.ref) x (fun _ _ => trivial)
theorem zeroEx_fits : fitsEx zeroEx (stExpr (7 : Int).toNat) = true := by kernel_rfl
theorem inl_ok1 (f : Ref → Bl) (s : St) (h : s.ok1 = true) : (s.inl f).ok1 = true := by
  rcases s with ⟨kind, mon, name, n, e, ad, cap, blocks, pos⟩
  by_cases hk : kind = 8
  · subst hk
    rw [St.inl_call]
    simp only [St.ok1, Bool.and_eq_true, decide_eq_true_eq] at h ⊢
    refine ⟨⟨by decide, by decide⟩, ⟨⟨⟨⟨h.2.1.1.1.1.1, by kernel_rfl⟩, by kernel_rfl⟩, zeroEx_fits⟩, by show stLeast (Int.toNat 7) ≤ 1; decide⟩, by show 1 ≤ stMost (Int.toNat 7); decide⟩
  · rw [St.inl_other _ _ hk]
    simpa [St.ok1] using h
theorem body_okB {p : Pr} (h : p.ok = true) (r : Ref) : (bodyOf p r).okB = true := by
  rw [bodyOf]
  split
  · rename_i f hf
    obtain ⟨m, hm, hfm⟩ := methIx_mem hf
    exact ok_meth h m hm f hfm
  · rw [Bl.okB, Bl.subs_mk]; rfl
theorem okB_iff {x : Bl} : x.okB = true ↔ ∀ s ∈ x.subs, s.ok1 = true := by rw [Bl.okB, List.all_eq_true]
theorem inlR_ok {p : Pr} (h : p.ok = true) (N : Nat) : ∀ r, ∀ t ∈ (inlR p N r).subs, t.ok1 = true := by
  induction N with
  | zero => intro r t ht; simp [inlR, Bl.subs_mk] at ht
  | succ N ih => intro r; exact inl_all (P := fun s => s.ok1 = true) (Q := fun t => t.ok1 = true) (fun s hs => inl_ok1 _ s hs) (fun s _ _ => ih s.ref) (bodyOf p r) (okB_iff.1 (body_okB h r))
theorem inl_okB {p : Pr} (h : p.ok = true) (N : Nat) {x : Bl} (hx : x.okB = true) : (x.inl (inlR p N)).okB = true :=
  okB_iff.2 (inl_all (P := fun s => s.ok1 = true) (Q := fun t => t.ok1 = true) (fun s hs => inl_ok1 _ s hs) (fun s _ _ => inlR_ok h N s.ref) x (okB_iff.1 hx))
/-- How many statements there are in what is inlined. -/
theorem inl_len (f : Ref → Bl) (x : Bl) : (∀ s ∈ x.subs, s.kind = 8 → s.blocks = []) → (x.inl f).subs.length = (x.subs.map fun s => if s.kind = 8 then 1 + (f s.ref).subs.length else 1).sum :=
  Bl.ind (P := fun s => (∀ t ∈ s.subs, t.kind = 8 → t.blocks = []) → (s.inl f).subs.length = (s.subs.map fun s => if s.kind = 8 then 1 + (f s.ref).subs.length else 1).sum)
    (Q := fun b => (∀ t ∈ b.subs, t.kind = 8 → t.blocks = []) → (b.inl f).subs.length = (b.subs.map fun s => if s.kind = 8 then 1 + (f s.ref).subs.length else 1).sum)
    (fun kind mon name n e ad cap blocks pos ih hP => by
      have hs := hP _ (subs_self _)
      by_cases hk : kind = 8
      · subst hk
        have hb : blocks = [] := hs rfl
        subst hb
        rw [St.inl_call, St.subs_mk, St.subs_mk]
        simp [St.kind, St.ref]; omega
      · rw [St.inl_other _ _ hk, St.subs_mk, St.subs_mk, List.flatMap_map, List.length_cons, List.map_cons, List.sum_cons, if_neg (show ¬ (St.mk kind mon name n e ad cap blocks pos).kind = 8 from hk)]
        have hP2 : ∀ b ∈ blocks, ∀ t ∈ b.subs, t.kind = 8 → t.blocks = [] := fun b hb t ht => hP t (by rw [St.subs_mk]; exact List.mem_cons_of_mem _ (List.mem_flatMap.2 ⟨b, hb, ht⟩))
        have : (blocks.flatMap fun b => (b.inl f).subs).length = ((blocks.flatMap Bl.subs).map fun s => if s.kind = 8 then 1 + (f s.ref).subs.length else 1).sum := by
          clear hP hs
          induction blocks with
          | nil => rfl
          | cons b l ihl => rw [List.flatMap_cons, List.flatMap_cons, List.length_append, List.map_append, List.sum_append, ih b (by simp) (hP2 b (by simp)), ihl (fun x hx => ih x (by simp [hx])) (fun x hx => hP2 x (by simp [hx]))]
        omega)
    (fun ad cap body ih hP => by
      rw [Bl.inl_mk, Bl.subs_mk, Bl.subs_mk, List.flatMap_map]
      have hP2 : ∀ b ∈ body, ∀ t ∈ b.subs, t.kind = 8 → t.blocks = [] := fun b hb t ht => hP t (by rw [Bl.subs_mk]; exact List.mem_flatMap.2 ⟨b, hb, ht⟩)
      clear hP
      induction body with
      | nil => rfl
      | cons b l ihl => rw [List.flatMap_cons, List.flatMap_cons, List.length_append, List.map_append, List.sum_append, ih b (by simp) (hP2 b (by simp)), ihl (fun x hx => ih x (by simp [hx])) (fun x hx => hP2 x (by simp [hx]))]) x
theorem call_blocks {s : St} (h : s.ok1 = true) (hk : s.kind = 8) : s.blocks = [] := by
  rcases s with ⟨kind, mon, name, n, e, ad, cap, blocks, pos⟩
  have hk : kind = 8 := hk
  subst hk
  simp only [St.ok1, Bool.and_eq_true, decide_eq_true_eq] at h
  have h1 := h.2.2
  have h2 : stMost (8 : Int).toNat = 0 := by kernel_rfl
  rw [h2] at h1
  exact List.eq_nil_of_length_eq_zero (Nat.le_zero.1 h1)
theorem le_sum {l : List Nat} {a : Nat} (h : a ∈ l) : a ≤ l.sum := by
  induction l with
  | nil => cases h
  | cons b l ih =>
    rw [List.sum_cons]
    rcases List.mem_cons.1 h with rfl | h
    · omega
    · have := ih h; omega
/-- What is inlined is as big as was counted. -/
theorem inlR_len {p : Pr} {x : Bl} {R : List Ref} {Z : List (Ref × Nat)} (hok : p.ok = true) (hg : Good p x R Z) (N : Nat) : ∀ r ∈ R, rkOf R r < N → szGet Z r ≤ 400 → szGet Z r = 1 + (inlR p N r).subs.length := by
  induction N with
  | zero => intro r _ h; omega
  | succ N ih =>
    intro r hr hk hs
    have h1 := hg.size r hr
    have h2 : tot Z (bodyOf p r) ≤ 399 := by omega
    have h3 : szGet Z r = 1 + tot Z (bodyOf p r) := by omega
    rw [h3]
    congr 1
    have hb := okB_iff.1 (body_okB hok r)
    show tot Z (bodyOf p r) = ((bodyOf p r).inl (inlR p N)).subs.length
    rw [inl_len _ _ (fun s hs hk => call_blocks (hb s hs) hk)]
    unfold tot sumOf at h2 ⊢
    congr 1
    refine List.map_congr_left fun s hs => ?_
    unfold sown
    split
    · rename_i hk8
      have hm : s.ref ∈ leadsOf p r := (callsOf_mem _ _).2 ⟨s, hs, hk8, rfl⟩
      obtain ⟨h4, h5⟩ := hg.leads r hr _ hm
      refine ih _ h4 (by omega) ?_
      have h6 : sown Z s ≤ ((bodyOf p r).subs.map (sown Z)).sum := le_sum (List.mem_map.2 ⟨s, hs, rfl⟩)
      unfold sown at h6
      rw [if_pos hk8] at h6
      have h7 : ((bodyOf p r).subs.map (sown Z)).sum = ((bodyOf p r).subs.map fun s => if s.kind = 8 then szGet Z s.ref else 1).sum := rfl
      omega
    · rfl
theorem inl_size {p : Pr} {x : Bl} {n : Nat} (hok : p.ok = true) (hx : x.okB = true) (h : cntOf p x = (n, 0)) : (x.inl (inlR p (reachedOf p (callsOf x)).length)).subs.length = n ∧ n ≤ 400 := by
  obtain ⟨Z, hg, ht, hn⟩ := good_of h
  refine ⟨?_, hn⟩
  have hb := okB_iff.1 hx
  rw [inl_len _ _ (fun s hs hk => call_blocks (hb s hs) hk), ← ht]
  unfold tot sumOf
  congr 1
  refine List.map_congr_left fun s hs => ?_
  unfold sown
  split
  · rename_i hk8
    have hm : s.ref ∈ callsOf x := (callsOf_mem _ _).2 ⟨s, hs, hk8, rfl⟩
    have h4 := hg.root _ hm
    refine (inlR_len hok hg _ _ h4 (rkOf_lt h4) ?_).symm
    have h6 : sown Z s ≤ (x.subs.map (sown Z)).sum := le_sum (List.mem_map.2 ⟨s, hs, rfl⟩)
    unfold sown at h6
    rw [if_pos hk8] at h6
    have h7 : tot Z x = (x.subs.map fun s => if s.kind = 8 then szGet Z s.ref else 1).sum := rfl
    omega
  · rfl
/-- What calls nothing is inlined as it is. -/
theorem inl_same (g : Ref → Bl) (y : Bl) : (∀ s ∈ y.subs, s.kind ≠ 8) → y.inl g = y.clr :=
  Bl.ind (P := fun s => (∀ t ∈ s.subs, t.kind ≠ 8) → s.inl g = s.clr) (Q := fun b => (∀ t ∈ b.subs, t.kind ≠ 8) → b.inl g = b.clr)
    (fun kind mon name n e ad cap blocks pos ih hP => by
      have hk : kind ≠ 8 := hP _ (subs_self _)
      rw [St.inl_other _ _ hk, St.clr_mk]
      congr 1
      exact List.map_congr_left fun b hb => ih b hb (fun t ht => hP t (by rw [St.subs_mk]; exact List.mem_cons_of_mem _ (List.mem_flatMap.2 ⟨b, hb, ht⟩))))
    (fun ad cap body ih hP => by
      rw [Bl.inl_mk, Bl.clr_mk]
      congr 1
      exact List.map_congr_left fun s hs => ih s hs (fun t ht => hP t (by rw [Bl.subs_mk]; exact List.mem_flatMap.2 ⟨s, hs, ht⟩))) y
theorem all2_of_map {α : Type} {f : α → α → Bool} {c : α → α} : ∀ (xs ys : List α), xs.map c = ys.map c → (∀ x ∈ xs, ∀ y, c x = c y → f x y = true) → all2 f xs ys = true := by
  intro xs
  induction xs with
  | nil =>
    intro ys h _
    cases ys with
    | nil => rfl
    | cons y ys => simp at h
  | cons x xs ih =>
    intro ys h hf
    cases ys with
    | nil => simp at h
    | cons y ys =>
      simp only [List.map_cons, List.cons.injEq] at h
      rw [all2, hf x (by simp) y h.1, ih ys h.2 (fun z hz => hf z (by simp [hz]))]; rfl
theorem exSame_self (e : Ex) : e.same e = true := by
  induction e using Ex.ind with
  | h op mon name n ad cap kids pos ih =>
    rw [same_mk]
    have : all2 Ex.same kids kids = true := by
      clear ad cap
      induction kids with
      | nil => rfl
      | cons x l ihl => rw [all2, ih x (by simp), ihl (fun y hy => ih y (by simp [hy]))]; rfl
    simp [this]
theorem same_of_clr (a : Bl) : ∀ b : Bl, a.clr = b.clr → a.same b = true :=
  Bl.ind (P := fun s => ∀ t : St, s.clr = t.clr → s.same t = true) (Q := fun a => ∀ b : Bl, a.clr = b.clr → a.same b = true)
    (fun kind mon name n e ad cap blocks pos ih t h => by
      rcases t with ⟨kind', mon', name', n', e', ad', cap', blocks', pos'⟩
      rw [St.clr_mk, St.clr_mk] at h
      injection h with h1 h2 h3 h4 h5 _ _ h6 h7
      subst h1 h2 h3 h4 h5 h7
      have := all2_of_map (f := Bl.same) blocks blocks' h6 ih
      rw [stSame_mk, exSame_self, this]; simp)
    (fun ad cap body ih b h => by
      rcases b with ⟨ad', cap', body'⟩
      rw [Bl.clr_mk, Bl.clr_mk] at h
      injection h with _ _ h
      have := all2_of_map (f := St.same) body body' h ih
      rw [blSame_mk, this]) a
theorem sum_ones {α : Type} (l : List α) (f : α → Nat) (h : ∀ s ∈ l, f s = 1) : (l.map f).sum = l.length := by
  induction l with
  | nil => rfl
  | cons a l ih => rw [List.map_cons, List.sum_cons, h a (by simp), ih (fun s hs => h s (by simp [hs])), List.length_cons]; omega
theorem cnt_none {p : Pr} {y : Bl} (h : ∀ s ∈ y.subs, s.kind ≠ 8) (hl : y.subs.length ≤ 400) : cntOf p y = (y.subs.length, 0) ∧ callsOf y = [] := by
  have hc : callsOf y = [] := by
    refine List.eq_nil_iff_forall_not_mem.2 fun r hr => ?_
    obtain ⟨s, hs, hk, _⟩ := (callsOf_mem _ _).1 hr
    exact h s hs hk
  refine ⟨?_, hc⟩
  have hr : reachedOf p [] = [] := rfl
  have ht : tot [] y = y.subs.length := by
    unfold tot sumOf
    exact sum_ones _ _ (fun s hs => by unfold sown; rw [if_neg (h s hs)])
  rw [cntOf_eq, hc, hr, if_neg (by simp)]
  show cntRes _ (some []) = _
  simp only [cntRes, ht]
  rw [if_neg (by omega)]
  congr 1
  omega
end Go.Proofs.YtfkabkbnfeiggaaDoor
namespace Go.Proofs.YtfkabkbnfeiggaaDoor
open Go.RowKit
def St.bsub (s : St) : Nat := (s.blocks.flatMap Bl.subs).length
theorem bsub_len (s : St) : s.subs.length = 1 + s.bsub := by rcases s with ⟨a1, a2, a3, a4, a5, a6, a7, a8, a9⟩; rw [St.subs_mk, List.length_cons]; show _ = 1 + (a8.flatMap Bl.subs).length; omega
def lenTo (body : List St) (j : Nat) : Nat := body.length + ((body.take j).map St.bsub).sum
theorem lenTo_next (body : List St) (j : Nat) (h : j < body.length) : lenTo body (j + 1) = lenTo body j + body[j].bsub := by
  unfold lenTo
  rw [List.take_succ_eq_append_getElem h, List.map_append, List.sum_append]
  simp; omega
theorem lenTo_end (body : List St) : lenTo body body.length = (body.flatMap St.subs).length := by
  unfold lenTo
  rw [List.take_length]
  induction body with
  | nil => rfl
  | cons s l ih =>
    rw [List.flatMap_cons, List.length_append, ← ih, bsub_len, List.length_cons, List.map_cons, List.sum_cons]; omega
theorem lenTo_le (body : List St) (j : Nat) : lenTo body j ≤ (body.flatMap St.subs).length := by
  rw [← lenTo_end]
  unfold lenTo
  rw [List.take_length]
  conv => rhs; rw [← List.take_append_drop j body, List.map_append, List.sum_append]
  simp only [List.length_append, List.length_take, List.length_drop]
  omega
theorem flat_snoc_len (l : List Bl) (k : Nat) (h : k < l.length) : ((l.take (k + 1)).flatMap Bl.subs).length = ((l.take k).flatMap Bl.subs).length + l[k].subs.length := by
  rw [flatMap_snoc Bl.subs l k h, List.length_append]
theorem flat_take_len (l : List Bl) (k : Nat) : ((l.take k).flatMap Bl.subs).length ≤ (l.flatMap Bl.subs).length := by
  conv => rhs; rw [← List.take_append_drop k l, List.flatMap_append, List.length_append]
  omega
theorem len_le_sz (l : List St) : l.length ≤ (l.map St.sz).sum := by
  induction l with
  | nil => simp
  | cons s l ih => rw [List.length_cons, List.map_cons, List.sum_cons]; have : 1 ≤ s.sz := by unfold St.sz; omega
                   omega
theorem body_le_subs (b : Bl) : b.body.length ≤ b.subs.length := by
  rcases b with ⟨a, c, body⟩
  rw [Bl.subs_mk]
  exact len_flat1 St.subs body (fun s _ => List.length_pos_of_mem (subs_self s))
theorem calls_le (b : Bl) : (callsOf b).length ≤ b.subs.length := by
  have := callsA_len b.subs []
  simpa [callsOf] using this
theorem flat_le {α β γ : Type} (f : α → List β) (g : α → List γ) (l : List α) (h : ∀ x ∈ l, (f x).length ≤ (g x).length) : (l.flatMap f).length ≤ (l.flatMap g).length := by
  induction l with
  | nil => simp
  | cons x l ih =>
    rw [List.flatMap_cons, List.flatMap_cons, List.length_append, List.length_append]
    have h1 := h x (by simp)
    have h2 := ih (fun y hy => h y (by simp [hy]))
    omega
theorem fine_small {p : Pr} (h : p.size ≤ 400) : Fine0 p := by
  have h1 : p.stmts.length ≤ 400 := Nat.le_trans (len_le_sz _) h
  have h2 : (p.mons.flatMap fun m => m.meths.flatMap fun x => x.body.subs).length ≤ 400 := by
    have : p.stmts = (p.mons.flatMap fun m => m.meths.flatMap fun x => x.body.subs) ++ p.roles.flatMap fun r => r.body.subs := rfl
    rw [this, List.length_append] at h1; omega
  have h3 : ∀ m ∈ p.mons, ∀ f ∈ m.meths, f.body.subs.length ≤ 400 := fun m hm f hf => by
    have a1 := len_flat (fun m : Mo => m.meths.flatMap fun x => x.body.subs) p.mons m hm
    have a2 := len_flat (fun x : Me => x.body.subs) m.meths f hf
    omega
  have h4 : (allRefs p).length ≤ 400 := Nat.le_trans (flat_le _ _ p.mons fun m _ => flat_le _ _ m.meths fun f _ => calls_le f.body) h2
  refine ⟨fun m hm f hf => by have := h3 m hm f hf; omega, fun m hm f hf => by have := h3 m hm f hf; have := body_le_subs f.body; omega, by omega, fun r => ?_⟩
  unfold leadsOf bodyOf
  split
  · rename_i f hf
    obtain ⟨m, hm, hfm⟩ := methIx_mem hf
    have := h3 m hm f hfm; have := calls_le f.body; omega
  · rw [callsOf, Bl.subs_mk]; simp [callsA]
end Go.Proofs.YtfkabkbnfeiggaaDoor
namespace Go.Proofs.YtfkabkbnfeiggaaDoor
open Go.RowKit
theorem countOf_ok {p : Pr} {x : Bl} {n : Nat} {e : Int} (h : countOf p x = (n, e)) (he : e = 0) : p.ok = true ∧ x.okB = true ∧ cntOf p x = (n, 0) := by
  unfold countOf at h
  split at h
  · rename_i hk
    have := Bool.and_eq_true_iff.1 hk
    exact ⟨this.1, this.2, by rw [h, he]⟩
  · injection h with h1 h2; omega
/-- Each stands behind those that it calls. -/
def Ord (G : Ref → List Ref) (A : List Ref) : Prop := ∀ (i : Nat) (h : i < A.length), ∀ y ∈ G A[i], y ∈ A.take i
theorem Ord.snoc {G : Ref → List Ref} {A : List Ref} (h : Ord G A) {r : Ref} (hr : ∀ y ∈ G r, y ∈ A) : Ord G (A ++ [r]) := by
  intro i hi y hy
  rw [List.length_append, List.length_singleton] at hi
  by_cases hlt : i < A.length
  · rw [List.getElem_append_left hlt] at hy
    rw [List.take_append_of_le_length (by omega)]
    exact h i hlt y hy
  · have hi2 : i = A.length := by omega
    subst hi2
    rw [List.getElem_append_right (by omega)] at hy
    simp at hy
    rw [List.take_left]
    exact hr y hy
theorem dfs_ord {G : Ref → List Ref} {U : List Ref} {D : Ref → Prop} {rk : Ref → Nat} (hUc : ∀ r ∈ U, ∀ x ∈ G r, x ∈ U) (hU : ∀ r, D r → r ∈ U ∧ ∀ x ∈ G r, D x ∧ rk x < rk r) (n : Nat) : ∀ (st : List Ref × List Ref) (r : Ref), D r → left U st.1 ≤ n → Ord G st.2 → (∀ x ∈ st.1, x ∈ st.2 ∨ rk r < rk x) → Ord G (dfs G n st r).2 := by
  induction n with
  | zero => intro st r _ _ h _; exact h
  | succ n ih =>
    rintro ⟨S, A⟩ r hr hl ho hp
    by_cases hm : r ∈ S
    · rw [dfs_seen hm]; exact ho
    · rw [dfs_new hm]
      have hl2 := left_snoc (hU r hr).1 hm
      simp only at hl ho hp
      have hf : ∀ (l : List Ref), (∀ x ∈ l, D x ∧ rk x < rk r) → ∀ st : List Ref × List Ref, left U st.1 ≤ n → Ord G st.2 → (∀ x ∈ st.1, x ∈ st.2 ∨ rk r ≤ rk x) →
          Ord G (l.foldl (dfs G n) st).2 ∧ (∀ x ∈ (l.foldl (dfs G n) st).1, x ∈ (l.foldl (dfs G n) st).2 ∨ rk r ≤ rk x) ∧ ∀ x ∈ l, x ∈ (l.foldl (dfs G n) st).1 := by
        intro l
        induction l with
        | nil => intro _ st _ h1 h2; exact ⟨h1, h2, fun x hx => by cases hx⟩
        | cons y l ihl =>
          intro hl st hs h1 h2
          obtain ⟨hy1, hy2⟩ := hl y (by simp)
          have hd := dfs_done hUc n st y (hU y hy1).1 hs
          have ho := ih st y hy1 hs h1 (fun x hx => by
            rcases h2 x hx with h | h
            · exact .inl h
            · exact .inr (by omega))
          have hlm := left_mono (U := U) (dfs_mono G n st y)
          obtain ⟨g1, g2, g3⟩ := ihl (fun z hz => hl z (by simp [hz])) (dfs G n st y) (by omega) ho (fun x hx => by
            rcases hd.2 x hx with h | h
            · rcases h2 x h with h | h
              · exact .inl (dfs_mono2 G n st y x h)
              · exact .inr h
            · exact .inl h)
          refine ⟨g1, g2, fun x hx => ?_⟩
          rcases List.mem_cons.1 hx with rfl | hx
          · exact fold_dfs_mono G n l _ x hd.1
          · exact g3 x hx
      obtain ⟨g1, g2, g3⟩ := hf (G r) (hU r hr).2 (S ++ [r], A) (by show left U (S ++ [r]) ≤ n; omega) ho (fun x hx => by
        rcases List.mem_append.1 hx with h | h
        · rcases hp x h with h | h
          · exact .inl h
          · exact .inr (by omega)
        · rw [List.mem_singleton.1 h]; exact .inr (Nat.le_refl _))
      refine g1.snoc fun y hy => ?_
      rcases g2 y (g3 y hy) with h | h
      · exact h
      · have := ((hU r hr).2 y hy).2; omega
theorem reached_ord {p : Pr} {l : List Ref} {D : Ref → Prop} {rk : Ref → Nat} (hC : ∀ r, D r → ∀ x ∈ leadsOf p r, D x ∧ rk x < rk r) (hl : ∀ x ∈ l, D x) : Ord (leadsOf p) (reachedOf p l) := by
  have hU := closedU p l
  have hD : ∀ r, (D r ∧ r ∈ l ++ allRefs p) → r ∈ l ++ allRefs p ∧ ∀ x ∈ leadsOf p r, (D x ∧ x ∈ l ++ allRefs p) ∧ rk x < rk r := fun r hr => ⟨hr.2, fun x hx => ⟨⟨(hC r hr.1 x hx).1, hU r hr.2 x hx⟩, (hC r hr.1 x hx).2⟩⟩
  have key : ∀ (m : List Ref), (∀ x ∈ m, D x ∧ x ∈ l ++ allRefs p) → ∀ st : List Ref × List Ref, left (l ++ allRefs p) st.1 ≤ l.length + (allRefs p).length → (∀ x ∈ st.1, x ∈ st.2) → Ord (leadsOf p) st.2 → Ord (leadsOf p) (m.foldl (dfs (leadsOf p) (l.length + (allRefs p).length)) st).2 := by
    intro m
    induction m with
    | nil => intro _ st _ _ h; exact h
    | cons y m ih =>
      intro hm st hs h ho
      have h1 := dfs_done hU _ st y (hm y (by simp)).2 hs
      have h2 := left_mono (U := l ++ allRefs p) (dfs_mono (leadsOf p) (l.length + (allRefs p).length) st y)
      exact ih (fun x hx => hm x (by simp [hx])) (dfs (leadsOf p) (l.length + (allRefs p).length) st y) (by omega) (fun x hx => by
        rcases h1.2 x hx with h5 | h5
        · exact dfs_mono2 _ _ _ _ x (h x h5)
        · exact h5) (dfs_ord hU hD _ st y (hm y (by simp)) hs ho fun x hx => .inl (h x hx))
  have h2 : left (l ++ allRefs p) [] ≤ l.length + (allRefs p).length := Nat.le_trans (List.length_filter_le _ _) (by simp)
  exact key l (fun x hx => ⟨hl x hx, List.mem_append.2 (.inl hx)⟩) ([], []) h2 (fun x hx => by cases hx) (fun i h => by simp at h)
theorem reached_min {p : Pr} {l C : List Ref} (hC : ∀ r ∈ C, ∀ x ∈ leadsOf p r, x ∈ C) (hl : ∀ x ∈ l, x ∈ C) : ∀ x ∈ reachedOf p l, x ∈ C :=
  fold_dfs_sub hC _ l hl ([], []) (fun x hx => by cases hx)
theorem sizesF_ord {body : Ref → Bl} : ∀ (R : List Ref) (Z : List (Ref × Nat)), (∀ x ∈ Z.map Prod.fst, szGet Z x ≠ 0) → (Z.map Prod.fst ++ R).Nodup → (∀ (i : Nat) (h : i < R.length), ∀ y ∈ callsOf (body R[i]), y ∈ Z.map Prod.fst ++ R.take i) → ∃ Z', sizesF (fun r => callsOf (body r)) body R Z = some Z' := by
  intro R
  induction R with
  | nil => intro Z _ _ _; exact ⟨Z, rfl⟩
  | cons r R ih =>
    intro Z hz hn ho
    have h0 : ¬ ∃ x ∈ callsOf (body r), szGet Z x = 0 := by
      rintro ⟨x, hx, h⟩
      have := ho 0 (by simp) x hx
      simp only [List.take_zero, List.append_nil] at this
      exact hz x this h
    have hrn : r ∉ Z.map Prod.fst := by
      intro hm
      exact (List.nodup_append.1 hn).2.2 r hm r (by simp) rfl
    rw [sizesF, if_neg h0]
    refine ih _ (fun x hx => ?_) (by simpa using hn) (fun i hi y hy => ?_)
    · by_cases hxz : x ∈ Z.map Prod.fst
      · rw [szGet_app hxz]; exact hz x hxz
      · have hxr : x = r := by
          rw [List.map_append] at hx
          rcases List.mem_append.1 hx with h | h
          · exact absurd h hxz
          · simpa using h
        subst hxr
        have := szGet_new (E := []) (v := 1 + min 401 (tot Z (body x))) hrn
        rw [List.append_nil] at this
        rw [this]; omega
    · have := ho (i + 1) (by simpa using hi) y hy
      simpa [or_assoc] using this
theorem cnt_closed {p : Pr} {x : Bl} {C : List Ref} {rk : Ref → Nat} (hC : ∀ r ∈ C, ∀ y ∈ leadsOf p r, y ∈ C ∧ rk y < rk r) (hroot : ∀ r ∈ callsOf x, r ∈ C) (hk : ∀ r ∈ C, methIx p.mons r.1 r.2 ≠ none) :
    ∃ Z, Good p x (reachedOf p (callsOf x)) Z ∧ cntOf p x = if 400 < min 401 (tot Z x) then (0, 81) else (min 401 (tot Z x), 0) := by
  have hmin := reached_min (fun r hr y hy => (hC r hr y hy).1) hroot
  have hord := reached_ord (D := fun r => r ∈ C) hC hroot
  have hnd := reached_nodup p (callsOf x)
  have hkn : ¬ ∃ r ∈ reachedOf p (callsOf x), methIx p.mons r.1 r.2 = none := fun ⟨r, hr, h⟩ => hk r (hmin r hr) h
  obtain ⟨Z, hz⟩ := sizesF_ord (body := bodyOf p) (reachedOf p (callsOf x)) [] (fun x hx => by cases hx) (by simpa using hnd) (fun i hi y hy => by simpa using hord i hi y hy)
  obtain ⟨-, g2, g3, g4⟩ := sizesF_some (body := bodyOf p) _ _ _ hz (by simpa using hnd)
  refine ⟨Z, ⟨reached_has p _, hnd, fun r hr y hy => ?_, g4, fun r hr => hk r (hmin r hr)⟩, ?_⟩
  · obtain ⟨i, hi, rfl⟩ := List.getElem_of_mem hr
    have h2 := hord i hi y hy
    obtain ⟨k, hk2, rfl⟩ := List.getElem_of_mem h2
    rw [List.length_take] at hk2
    rw [List.getElem_take]
    exact ⟨List.getElem_mem _, by rw [rkOf_at hnd, rkOf_at hnd hi]; omega⟩
  · rw [cntOf_eq, if_neg hkn]
    show cntRes _ (sizesF (fun r => callsOf (bodyOf p r)) (bodyOf p) (reachedOf p (callsOf x)) []) = _
    rw [hz]; rfl
theorem size_uniq {p : Pr} {x x' : Bl} {R R' : List Ref} {Z Z' : List (Ref × Nat)} (h : Good p x R Z) (h' : Good p x' R' Z') : ∀ (n : Nat) (r : Ref), r ∈ R → r ∈ R' → rkOf R r < n → szGet Z r = szGet Z' r := by
  intro n
  induction n with
  | zero => intro r _ _ hn; omega
  | succ n ih =>
    intro r hr hr' hn
    rw [h.size r hr, h'.size r hr']
    congr 2
    unfold tot
    refine sumOf_congr fun t ht hk => ?_
    have ht2 : t.ref ∈ leadsOf p r := (callsOf_mem _ _).2 ⟨t, ht, hk, rfl⟩
    have := h.leads r hr _ ht2
    exact ih _ this.1 (h'.leads r hr' _ ht2).1 (by omega)
theorem tot_uniq {p : Pr} {x x' : Bl} {R R' : List Ref} {Z Z' : List (Ref × Nat)} (h : Good p x R Z) (h' : Good p x' R' Z') (y : Bl) (hy : ∀ r ∈ callsOf y, r ∈ R ∧ r ∈ R') : tot Z y = tot Z' y := by
  unfold tot
  refine sumOf_congr fun t ht hk => ?_
  have := hy t.ref ((callsOf_mem _ _).2 ⟨t, ht, hk, rfl⟩)
  exact size_uniq h h' _ _ this.1 this.2 (Nat.lt_succ_self _)
theorem inl_congr {f g : Ref → Bl} (x : Bl) : (∀ s ∈ x.subs, s.kind = 8 → f s.ref = g s.ref) → x.inl f = x.inl g :=
  Bl.ind (P := fun s => (∀ t ∈ s.subs, t.kind = 8 → f t.ref = g t.ref) → s.inl f = s.inl g) (Q := fun b => (∀ t ∈ b.subs, t.kind = 8 → f t.ref = g t.ref) → b.inl f = b.inl g)
    (fun kind mon name n e ad cap blocks pos ih h => by
      by_cases hk : kind = 8
      · subst hk
        rw [St.inl_call, St.inl_call]
        have := h _ (subs_self _) rfl
        rw [show f (mon, name) = g (mon, name) from this]
      · rw [St.inl_other f kind hk, St.inl_other g kind hk]
        congr 1
        refine List.map_congr_left fun b hb => ih b hb fun t ht => h t ?_
        exact subs_block (s := St.mk kind mon name n e ad cap blocks pos) hb t ht)
    (fun ad cap body ih h => by
      rw [Bl.inl_mk, Bl.inl_mk]
      congr 1
      refine List.map_congr_left fun s hs => ih s hs fun t ht => h t ?_
      rw [Bl.subs_mk]
      exact List.mem_flatMap.2 ⟨s, hs, ht⟩) x
theorem inlR_uniq {p : Pr} {x x' : Bl} {R R' : List Ref} {Z Z' : List (Ref × Nat)} (h : Good p x R Z) (h' : Good p x' R' Z') : ∀ (n m : Nat) (r : Ref), r ∈ R → r ∈ R' → rkOf R r < n → rkOf R' r < m → inlR p n r = inlR p m r := by
  intro n
  induction n with
  | zero => intro m r _ _ hn; omega
  | succ n ih =>
    intro m r hr hr' hn hm
    cases m with
    | zero => omega
    | succ m =>
      show (bodyOf p r).inl _ = (bodyOf p r).inl _
      refine inl_congr _ fun t ht hk => ?_
      have ht2 : t.ref ∈ leadsOf p r := (callsOf_mem _ _).2 ⟨t, ht, hk, rfl⟩
      have h1 := h.leads r hr _ ht2
      have h2 := h'.leads r hr' _ ht2
      exact ih m _ h1.1 h2.1 (by omega) (by omega)
/-- One behind the other. -/
theorem cat_subs {x y z : Bl} (hz : z.body = x.body ++ y.body) : z.subs = x.subs ++ y.subs := by
  rcases x with ⟨a1, c1, b1⟩
  rcases y with ⟨a2, c2, b2⟩
  rcases z with ⟨a3, c3, b3⟩
  have hz : b3 = b1 ++ b2 := hz
  rw [Bl.subs_mk, Bl.subs_mk, Bl.subs_mk, hz, List.flatMap_append]
theorem cat_calls {x y z : Bl} (hz : z.body = x.body ++ y.body) (r : Ref) : r ∈ callsOf z ↔ r ∈ callsOf x ∨ r ∈ callsOf y := by
  rw [callsOf_mem, callsOf_mem, callsOf_mem, cat_subs hz]
  constructor
  · rintro ⟨s, hs, h⟩
    rcases List.mem_append.1 hs with hs | hs
    · exact .inl ⟨s, hs, h⟩
    · exact .inr ⟨s, hs, h⟩
  · rintro (⟨s, hs, h⟩ | ⟨s, hs, h⟩)
    · exact ⟨s, List.mem_append.2 (.inl hs), h⟩
    · exact ⟨s, List.mem_append.2 (.inr hs), h⟩
theorem cat_tot {x y z : Bl} (hz : z.body = x.body ++ y.body) (Z : List (Ref × Nat)) : tot Z z = tot Z x + tot Z y := by
  unfold tot; rw [cat_subs hz, sumOf_append]
theorem cat_ok {x y z : Bl} (hz : z.body = x.body ++ y.body) : z.okB = (x.okB && y.okB) := by
  unfold Bl.okB; rw [cat_subs hz, List.all_append]
theorem cnt_small {p : Pr} {x : Bl} {Z : List (Ref × Nat)} (h : cntOf p x = if 400 < min 401 (tot Z x) then (0, 81) else (min 401 (tot Z x), 0)) (ht : tot Z x ≤ 400) : (cntOf p x).2 = 0 := by
  rw [h, if_neg (by omega)]
theorem part_zero {p : Pr} {x z : Bl} {n : Nat} (hpk : p.ok = true) (hxk : x.okB = true) (hc : cntOf p z = (n, 0)) (hx : ∀ r ∈ callsOf x, r ∈ callsOf z) (ht : ∀ Z, tot Z x ≤ tot Z z) : (countOf p x).2 = 0 ∧ x.inl (inlR p (reachedOf p (callsOf x)).length) = x.inl (inlR p (reachedOf p (callsOf z)).length) := by
  obtain ⟨Z, hg, h1, h2⟩ := good_of hc
  obtain ⟨Z', hg', h3⟩ := cnt_closed hg.leads (fun r hr => hg.root r (hx r hr)) hg.known
  have hsub := reached_min (fun r hr y hy => (hg.leads r hr y hy).1) (fun r hr => hg.root r (hx r hr))
  have h4 := tot_uniq hg' hg x (fun r hr => ⟨hg'.root r hr, hg.root r (hx r hr)⟩)
  have h5 := ht Z
  refine ⟨?_, ?_⟩
  · unfold countOf
    rw [hpk, hxk]
    simp only [Bool.and_self, if_true]
    exact cnt_small h3 (by omega)
  · refine inl_congr x fun s hs hk => ?_
    have h6 : s.ref ∈ callsOf x := (callsOf_mem _ _).2 ⟨s, hs, hk, rfl⟩
    have h7 := hg'.root _ h6
    have h8 := hg.root _ (hx _ h6)
    exact inlR_uniq hg' hg _ _ _ h7 h8 (rkOf_lt h7) (rkOf_lt h8)
theorem parts_ok {p : Pr} {x y z : Bl} (hz : z.body = x.body ++ y.body) (h : (countOf p z).2 = 0) :
    (countOf p x).2 = 0 ∧ (countOf p y).2 = 0 ∧ ∀ a b c d : Bl, a.clr = x.inl (inlR p (reachedOf p (callsOf x)).length) → b.clr = y.inl (inlR p (reachedOf p (callsOf y)).length) → c.clr = z.inl (inlR p (reachedOf p (callsOf z)).length) → d.body = a.body ++ b.body → c.same d = true := by
  obtain ⟨hpk, hzk, hc⟩ := countOf_ok (n := (countOf p z).1) (e := (countOf p z).2) rfl h
  rw [cat_ok hz] at hzk
  obtain ⟨hxk, hyk⟩ := Bool.and_eq_true_iff.1 hzk
  obtain ⟨hx1, hx2⟩ := part_zero hpk hxk hc (fun r hr => (cat_calls hz r).2 (.inl hr)) (fun Z => by rw [cat_tot hz]; omega)
  obtain ⟨hy1, hy2⟩ := part_zero hpk hyk hc (fun r hr => (cat_calls hz r).2 (.inr hr)) (fun Z => by rw [cat_tot hz]; omega)
  refine ⟨hx1, hy1, fun a b c d ha hb hc hd => same_of_clr c d ?_⟩
  rw [hx2] at ha
  rw [hy2] at hb
  rw [hc]
  generalize inlR p (reachedOf p (callsOf z)).length = f at ha hb ⊢
  rcases x with ⟨a1, c1, b1⟩
  rcases y with ⟨a2, c2, b2⟩
  rcases z with ⟨a3, c3, b3⟩
  rcases a with ⟨a4, c4, b4⟩
  rcases b with ⟨a5, c5, b5⟩
  rcases d with ⟨a6, c6, b6⟩
  have hz : b3 = b1 ++ b2 := hz
  have hd : b6 = b4 ++ b5 := hd
  rw [Bl.clr_mk, Bl.inl_mk] at ha hb
  injection ha with _ _ ha
  injection hb with _ _ hb
  rw [Bl.inl_mk, Bl.clr_mk, hz, hd, List.map_append, List.map_append, ha, hb]
theorem parts_big {p : Pr} {x y z : Bl} (hz : z.body = x.body ++ y.body) (hx : (countOf p x).2 = 0) (hy : (countOf p y).2 = 0) : (countOf p z).2 = 0 ∨ (countOf p z).2 = 81 := by
  obtain ⟨hpk, hxk, hcx⟩ := countOf_ok (n := (countOf p x).1) (e := (countOf p x).2) rfl hx
  obtain ⟨-, hyk, hcy⟩ := countOf_ok (n := (countOf p y).1) (e := (countOf p y).2) rfl hy
  obtain ⟨Zx, hgx, -, -⟩ := good_of hcx
  obtain ⟨Zy, hgy, -, -⟩ := good_of hcy
  generalize reachedOf p (callsOf x) = Rx at hgx
  generalize reachedOf p (callsOf y) = Ry at hgy
  obtain ⟨Z, hg, h3⟩ := cnt_closed (p := p) (x := z) (C := Rx ++ Ry) (rk := fun r => if r ∈ Rx then rkOf Rx r else Rx.length + rkOf Ry r) (fun r hr s hs => by
    by_cases h1 : r ∈ Rx
    · have h2 := hgx.leads r h1 s hs
      refine ⟨List.mem_append.2 (.inl h2.1), ?_⟩
      simp only [h1, h2.1, if_true]; exact h2.2
    · have h4 : r ∈ Ry := by
        rcases List.mem_append.1 hr with h | h
        · exact absurd h h1
        · exact h
      have h2 := hgy.leads r h4 s hs
      refine ⟨List.mem_append.2 (.inr h2.1), ?_⟩
      by_cases h5 : s ∈ Rx
      · have := rkOf_lt h5
        simp only [h1, h5, if_true, if_false]; omega
      · simp only [h1, h5, if_false]; omega) (fun r hr => by
    rcases (cat_calls hz r).1 hr with h | h
    · exact List.mem_append.2 (.inl (hgx.root r h))
    · exact List.mem_append.2 (.inr (hgy.root r h))) (fun r hr => by
    rcases List.mem_append.1 hr with h | h
    · exact hgx.known r h
    · exact hgy.known r h)
  unfold countOf
  rw [hpk, cat_ok hz, hxk, hyk]
  simp only [Bool.and_self, if_true]
  rw [h3]
  split
  · exact .inr rfl
  · exact .inl rfl
end Go.Proofs.YtfkabkbnfeiggaaDoor
namespace Go.Proofs.YtfkabkbnfeiggaaDoor
open Go.RowKit
/-- What is not there yet, put behind. -/
def addR (S : List Ref) (r : Ref) : List Ref := if r ∈ S then S else S ++ [r]
def addN (S m : List Ref) : List Ref := m.foldl addR S
theorem addR_has (S : List Ref) (r : Ref) : r ∈ addR S r := by
  unfold addR; split
  · assumption
  · simp
theorem addR_mem (S : List Ref) (r x : Ref) : x ∈ addR S r ↔ x ∈ S ∨ x = r := by
  unfold addR; split
  · rename_i h
    constructor
    · exact .inl
    · rintro (h' | rfl)
      · exact h'
      · exact h
  · simp
theorem addN_mem (m : List Ref) : ∀ (S : List Ref) (x : Ref), x ∈ addN S m ↔ x ∈ S ∨ x ∈ m := by
  induction m with
  | nil => intro S x; simp [addN]
  | cons r m ih =>
    intro S x
    show x ∈ addN (addR S r) m ↔ _
    rw [ih, addR_mem, List.mem_cons, or_assoc]
theorem addN_snoc (S m : List Ref) (r : Ref) : addN S (m ++ [r]) = addR (addN S m) r := by simp [addN]
theorem addR_nodup {S : List Ref} (h : S.Nodup) (r : Ref) : (addR S r).Nodup := by
  unfold addR; split
  · exact h
  · rename_i hr
    exact List.nodup_append.2 ⟨h, by simp, fun a ha c hc => by simp at hc; rintro rfl; exact hr (hc ▸ ha)⟩
theorem addN_nodup (m : List Ref) : ∀ {S : List Ref}, S.Nodup → (addN S m).Nodup := by
  induction m with
  | nil => intro S h; exact h
  | cons r m ih => intro S h; exact ih (addR_nodup h r)
theorem cstep_add (S T : List Ref) (s : St) : addN S (cstep T s) = cstep (addN S T) s := by
  by_cases hk : s.kind = 8
  · by_cases ht : s.ref ∈ T
    · rw [cstep_no (S := T) (fun h => h.2 ht), cstep_no (S := addN S T) (fun h => h.2 ((addN_mem T S _).2 (.inr ht)))]
    · rw [cstep_yes ⟨hk, ht⟩, addN_snoc]
      unfold addR
      split
      · rename_i h; rw [cstep_no (fun h' => h'.2 h)]
      · rename_i h; rw [cstep_yes ⟨hk, h⟩]
  · rw [cstep_no (fun h => hk h.1), cstep_no (fun h => hk h.1)]
/-- What a block calls, put behind what was there. -/
theorem addN_calls (l : List St) : ∀ S T : List Ref, addN S (callsA T l) = callsA (addN S T) l := by
  induction l with
  | nil => intro S T; rfl
  | cons s l ih =>
    intro S T
    show addN S (callsA (cstep T s) l) = callsA (cstep (addN S T) s) l
    rw [ih, cstep_add]
theorem addN_block (S : List Ref) (b : Bl) : addN S (callsOf b) = callsA S b.subs := addN_calls b.subs S []
theorem cstep_addR (S : List Ref) (s : St) (h : s.kind = 8) : cstep S s = addR S s.ref := by
  unfold addR; split
  · rename_i hr; exact cstep_no fun h' => h'.2 hr
  · rename_i hr; exact cstep_yes ⟨h, hr⟩
/-- What is found leads to what is seen. -/
theorem dfs_closed {G : Ref → List Ref} {U : List Ref} (hU : ∀ r ∈ U, ∀ x ∈ G r, x ∈ U) (n : Nat) : ∀ (st : List Ref × List Ref) (r : Ref), r ∈ U → left U st.1 ≤ n → (∀ x ∈ st.2, ∀ y ∈ G x, y ∈ st.1) → ∀ x ∈ (dfs G n st r).2, ∀ y ∈ G x, y ∈ (dfs G n st r).1 := by
  induction n with
  | zero => intro st r _ _ h; exact h
  | succ n ih =>
    rintro ⟨S, A⟩ r hr hl hc
    by_cases hm : r ∈ S
    · rw [dfs_seen hm]; exact hc
    · rw [dfs_new hm]
      have hl2 := left_snoc hr hm
      simp only at hl hc
      have hf : ∀ (l : List Ref), (∀ x ∈ l, x ∈ U) → ∀ st : List Ref × List Ref, left U st.1 ≤ n → (∀ x ∈ st.2, ∀ y ∈ G x, y ∈ st.1) →
          (∀ x ∈ (l.foldl (dfs G n) st).2, ∀ y ∈ G x, y ∈ (l.foldl (dfs G n) st).1) ∧ ∀ x ∈ l, x ∈ (l.foldl (dfs G n) st).1 := by
        intro l
        induction l with
        | nil => intro _ st _ h; exact ⟨h, fun x hx => by cases hx⟩
        | cons z l ihl =>
          intro hl st hs h
          have hd := dfs_done hU n st z (hl z (by simp)) hs
          have hlm := left_mono (U := U) (dfs_mono G n st z)
          obtain ⟨g1, g2⟩ := ihl (fun x hx => hl x (by simp [hx])) (dfs G n st z) (by omega) (ih st z (hl z (by simp)) hs h)
          refine ⟨g1, fun x hx => ?_⟩
          rcases List.mem_cons.1 hx with rfl | hx
          · exact fold_dfs_mono G n l _ x hd.1
          · exact g2 x hx
      obtain ⟨g1, g2⟩ := hf (G r) (hU r hr) (S ++ [r], A) (by show left U (S ++ [r]) ≤ n; omega) (fun x hx y hy => List.mem_append.2 (.inl (hc x hx y hy)))
      intro x hx y hy
      rcases List.mem_append.1 hx with h | h
      · exact g1 x h y hy
      · rw [List.mem_singleton.1 h] at hy
        exact g2 y hy
theorem reached_closed (p : Pr) (l : List Ref) : ∀ r ∈ reachedOf p l, ∀ y ∈ leadsOf p r, y ∈ reachedOf p l := by
  have hU := closedU p l
  have key : ∀ (m : List Ref), (∀ x ∈ m, x ∈ l ++ allRefs p) → ∀ st : List Ref × List Ref, left (l ++ allRefs p) st.1 ≤ l.length + (allRefs p).length → (∀ x ∈ st.1, x ∈ st.2) → (∀ x ∈ st.2, ∀ y ∈ leadsOf p x, y ∈ st.1) →
      (∀ x ∈ (m.foldl (dfs (leadsOf p) (l.length + (allRefs p).length)) st).1, x ∈ (m.foldl (dfs (leadsOf p) (l.length + (allRefs p).length)) st).2) ∧ ∀ x ∈ (m.foldl (dfs (leadsOf p) (l.length + (allRefs p).length)) st).2, ∀ y ∈ leadsOf p x, y ∈ (m.foldl (dfs (leadsOf p) (l.length + (allRefs p).length)) st).1 := by
    intro m
    induction m with
    | nil => intro _ st _ h1 h2; exact ⟨h1, h2⟩
    | cons z m ih =>
      intro hm st hs h1 h2
      have hd := dfs_done hU _ st z (hm z (by simp)) hs
      have hlm := left_mono (U := l ++ allRefs p) (dfs_mono (leadsOf p) (l.length + (allRefs p).length) st z)
      exact ih (fun x hx => hm x (by simp [hx])) _ (by omega) (fun x hx => by
        rcases hd.2 x hx with h5 | h5
        · exact dfs_mono2 _ _ _ _ x (h1 x h5)
        · exact h5) (dfs_closed hU _ st z (hm z (by simp)) hs h2)
  have h2 : left (l ++ allRefs p) [] ≤ l.length + (allRefs p).length := Nat.le_trans (List.length_filter_le _ _) (by simp)
  obtain ⟨h3, h4⟩ := key l (fun x hx => List.mem_append.2 (.inl hx)) ([], []) h2 (fun x hx => by cases hx) (fun x hx => by cases hx)
  exact fun r hr y hy => h3 y (h4 r hr y hy)
/-- A list that holds some methods, and all that they lead to, and no other. -/
structure Leads (p : Pr) (l L : List Ref) : Prop where
  has : ∀ x ∈ l, x ∈ L
  closed : ∀ r ∈ L, ∀ y ∈ leadsOf p r, y ∈ L
  min : ∀ C : List Ref, (∀ r ∈ C, ∀ y ∈ leadsOf p r, y ∈ C) → (∀ x ∈ l, x ∈ C) → ∀ x ∈ L, x ∈ C
theorem Leads.iff {p : Pr} {l L : List Ref} (h : Leads p l L) (x : Ref) : x ∈ L ↔ x ∈ reachedOf p l :=
  ⟨h.min _ (reached_closed p l) (reached_has p l) x, reached_min h.closed h.has x⟩
/-- A method goes round. -/
def Round (p : Pr) (r : Ref) : Prop := r ∈ reachedOf p (leadsOf p r)
instance (p : Pr) (r : Ref) : Decidable (Round p r) := decMemRef r _
theorem nodup_le {A B : List Ref} (hA : A.Nodup) (h : ∀ x ∈ A, x ∈ B) : A.length ≤ B.length := by
  induction A generalizing B with
  | nil => simp
  | cons a A ih =>
    obtain ⟨ha, hA'⟩ := List.nodup_cons.1 hA
    obtain ⟨i, hi, he⟩ := List.getElem_of_mem (h a (by simp))
    have h2 := ih (B := B.eraseIdx i) hA' (fun x hx => by
      obtain ⟨k, hk, hke⟩ := List.getElem_of_mem (h x (by simp [hx]))
      have hne : k ≠ i := by rintro rfl; exact ha (by rw [← he, hke]; exact hx)
      rw [List.mem_eraseIdx_iff_getElem]
      exact ⟨k, hk, hne, hke⟩)
    have h3 := List.length_eraseIdx_of_lt hi
    simp only [List.length_cons]; omega
theorem nodup_lt {A B : List Ref} (hA : A.Nodup) (h : ∀ x ∈ A, x ∈ B) {y : Ref} (hy : y ∈ B) (hn : y ∉ A) : A.length < B.length := by
  have h2 := nodup_le (A := y :: A) (B := B) (List.nodup_cons.2 ⟨hn, hA⟩) (fun x hx => by
    rcases List.mem_cons.1 hx with rfl | hx
    · exact hy
    · exact h x hx)
  rw [List.length_cons] at h2
  omega
/-- Where nobody goes round, there is a rank. -/
theorem rank_of {p : Pr} {C : List Ref} (hC : ∀ r ∈ C, ∀ y ∈ leadsOf p r, y ∈ C) (hn : ∀ r ∈ C, ¬ Round p r) : ∀ r ∈ C, ∀ y ∈ leadsOf p r, y ∈ C ∧ (reachedOf p (leadsOf p y)).length < (reachedOf p (leadsOf p r)).length := by
  intro r hr y hy
  refine ⟨hC r hr y hy, ?_⟩
  have h1 : y ∈ reachedOf p (leadsOf p r) := reached_has p _ y hy
  refine nodup_lt (reached_nodup p _) (reached_min (reached_closed p _) (fun x hx => reached_closed p _ y h1 x hx)) h1 ?_
  exact hn y (hC r hr y hy)
theorem not_round {p : Pr} {C : List Ref} {rk : Ref → Nat} (hC : ∀ r ∈ C, ∀ y ∈ leadsOf p r, y ∈ C ∧ rk y < rk r) : ∀ r ∈ C, ¬ Round p r := by
  intro r hr h
  have h1 : ∀ x ∈ C.filter (fun x => decide (rk x < rk r)), ∀ y ∈ leadsOf p x, y ∈ C.filter (fun x => decide (rk x < rk r)) := by
    intro x hx y hy
    rw [List.mem_filter] at hx ⊢
    have h2 := hC x hx.1 y hy
    have h3 : rk x < rk r := by simpa using hx.2
    exact ⟨h2.1, by simp; omega⟩
  have h4 := reached_min h1 (l := leadsOf p r) (fun x hx => by
    rw [List.mem_filter]
    have h2 := hC r hr x hx
    exact ⟨h2.1, by simpa using h2.2⟩) r h
  rw [List.mem_filter] at h4
  simp at h4
/-- What the document's Count tells, but for the number. -/
theorem cnt_cases (p : Pr) (x : Bl) :
    ((∃ r ∈ reachedOf p (callsOf x), methIx p.mons r.1 r.2 = none) ∧ cntOf p x = (0, 61)) ∨
    ((∀ r ∈ reachedOf p (callsOf x), methIx p.mons r.1 r.2 ≠ none) ∧ (∃ r ∈ reachedOf p (callsOf x), Round p r) ∧ cntOf p x = (0, 80)) ∨
    ((∀ r ∈ reachedOf p (callsOf x), methIx p.mons r.1 r.2 ≠ none) ∧ (∀ r ∈ reachedOf p (callsOf x), ¬ Round p r) ∧ ∃ Z, Good p x (reachedOf p (callsOf x)) Z ∧ cntOf p x = if 400 < min 401 (tot Z x) then (0, 81) else (min 401 (tot Z x), 0)) := by
  by_cases hk : ∃ r ∈ reachedOf p (callsOf x), methIx p.mons r.1 r.2 = none
  · left; refine ⟨hk, ?_⟩
    rw [cntOf_eq, if_pos hk]
  · have hk2 : ∀ r ∈ reachedOf p (callsOf x), methIx p.mons r.1 r.2 ≠ none := fun r hr h => hk ⟨r, hr, h⟩
    right
    by_cases hr : ∃ r ∈ reachedOf p (callsOf x), Round p r
    · left; refine ⟨hk2, hr, ?_⟩
      rw [cntOf_eq, if_neg hk]
      cases hz : sizesF (leadsOf p) (bodyOf p) (reachedOf p (callsOf x)) [] with
      | none => rfl
      | some Z =>
        obtain ⟨r, hr1, hr2⟩ := hr
        have hnd := reached_nodup p (callsOf x)
        obtain ⟨-, g2, g3, g4⟩ := sizesF_some (body := bodyOf p) _ _ _ hz (by simpa using hnd)
        exact absurd hr2 (not_round (C := reachedOf p (callsOf x)) (rk := rkOf (reachedOf p (callsOf x))) (fun r hr y hy => by
          obtain ⟨i, hi, rfl⟩ := List.getElem_of_mem hr
          have h2 := g3 i hi y hy
          simp only [List.map_nil, List.nil_append] at h2
          obtain ⟨k, hk2, rfl⟩ := List.getElem_of_mem h2
          rw [List.length_take] at hk2
          rw [List.getElem_take]
          exact ⟨List.getElem_mem _, by rw [rkOf_at hnd, rkOf_at hnd hi]; omega⟩) r hr1)
    · right
      have hr2 : ∀ r ∈ reachedOf p (callsOf x), ¬ Round p r := fun r h h' => hr ⟨r, h, h'⟩
      refine ⟨hk2, hr2, ?_⟩
      exact cnt_closed (C := reachedOf p (callsOf x)) (rk := fun r => (reachedOf p (leadsOf p r)).length) (rank_of (reached_closed p _) hr2) (reached_has p _) hk2
end Go.Proofs.YtfkabkbnfeiggaaDoor
namespace Go.Proofs.YtfkabkbnfeiggaaDoor
open Go.RowKit
theorem wts_congr (l m : List St) (h : ∀ (j : Nat) (h1 : j < l.length) (h2 : j < m.length), (m[j].kd = 9 ↔ l[j].kd = 9) ∧ m[j].mn = l[j].mn) (hl : m.length = l.length) : wts m = wts l := by
  induction l generalizing m with
  | nil => have : m = [] := List.eq_nil_of_length_eq_zero (by simpa using hl)
           rw [this]
  | cons s l ih =>
    match m, hl with
    | t :: m, hl =>
      have h0 := h 0 (by simp) (by simp)
      have ht := ih m (fun j h1 h2 => h (j + 1) (Nat.succ_lt_succ h1) (Nat.succ_lt_succ h2)) (by simpa using hl)
      simp only [List.getElem_cons_zero] at h0
      unfold wts at ht ⊢
      rw [List.filter_cons, List.filter_cons]
      by_cases hk : s.kd = 9
      · have hk2 := h0.1.2 hk
        simp only [hk, hk2, beq_self_eq_true, if_true, List.map_cons, ht, h0.2]
      · have hk2 : ¬ t.kd = 9 := fun e => hk (h0.1.1 e)
        have b1 : (s.kd == 9) = false := by rw [beq_eq_false_iff_ne]; exact hk
        have b2 : (t.kd == 9) = false := by rw [beq_eq_false_iff_ne]; exact hk2
        simp only [b1, b2, Bool.false_eq_true, if_false, ht]
theorem wts_map (g : St → St) (h : ∀ s, ((g s).kd = 9 ↔ s.kd = 9) ∧ (g s).mn = s.mn) (l : List St) : wts (l.map g) = wts l :=
  wts_congr l (l.map g) (fun j h1 h2 => by rw [List.getElem_map]; exact h _) (by simp)
theorem wtsL_map (g : Bl → Bl) (h : ∀ b, wts (g b).body = wts b.body) (l : List Bl) : wtsL (l.map g) = wtsL l := by
  induction l with
  | nil => rfl
  | cons b l ih =>
    simp only [wtsL, List.map_cons, List.flatMap_cons] at ih ⊢
    rw [h b, ih]
theorem wts_clr (b : Bl) : wts b.clr.body = wts b.body := by
  rcases b with ⟨ad, cap, body⟩
  rw [Bl.clr_mk]
  exact wts_map St.clr (fun s => by rcases s with ⟨a, b, c, d, e, f, g, h, i⟩; rw [St.clr_mk]; exact ⟨Iff.rfl, rfl⟩) body
theorem wts_inl (f : Ref → Bl) (b : Bl) : wts (b.inl f).body = wts b.body := by
  rcases b with ⟨ad, cap, body⟩
  rw [Bl.inl_mk]
  refine wts_map (St.inl f) (fun s => ?_) body
  rcases s with ⟨kind, mon, name, n, e, ad, cap, blocks, pos⟩
  by_cases hk : kind = 8
  · subst hk
    rw [St.inl_call]
    exact ⟨⟨fun h => absurd h (by show ¬ (7 : Int) = 9; decide), fun h => absurd h (by show ¬ (8 : Int) = 9; decide)⟩, rfl⟩
  · rw [St.inl_other f kind hk]
    exact ⟨Iff.rfl, rfl⟩
theorem oneE_bs {f : ByteArray → Bool} {kind : Int} {mon : ByteArray} {e : Ex} {bs bs' : List Bl} {pos : Int} (h : wtsL bs' = wtsL bs) : oneE f kind mon e bs' pos = oneE f kind mon e bs pos := by
  unfold oneE imp
  rw [h]
theorem firL_map (g : Bl → Bl) (f : ByteArray → Bool) (l : List Bl) (h : ∀ b ∈ l, (g b).sco f = b.sco f) : Bl.scoL f (l.map g) = Bl.scoL f l := by
  induction l with
  | nil => rfl
  | cons b l ih => rw [List.map_cons, Bl.scoL, Bl.scoL, h b (by simp), ih fun c hc => h c (by simp [hc])]
theorem sco_clr (b : Bl) : ∀ f, b.clr.sco f = b.sco f :=
  Bl.ind (P := fun s => ∀ f, s.clr.sco f = s.sco f) (Q := fun b => ∀ f, b.clr.sco f = b.sco f)
    (fun kind mon name n e ad cap blocks pos ih f => by
      rw [St.clr_mk, St.sco, St.sco, oneE_bs (wtsL_map Bl.clr wts_clr blocks), firL_map Bl.clr _ blocks fun b hb => ih b hb _])
    (fun ad cap body ih f => by
      rw [Bl.clr_mk, Bl.sco, Bl.sco]
      clear ad cap
      induction body with
      | nil => rfl
      | cons s l ihl => rw [List.map_cons, St.scoL, St.scoL, ih s (by simp), ihl fun t ht => ih t (by simp [ht])]) b
theorem scoL_all (f : ByteArray → Bool) (l : List Bl) (h : ∀ b ∈ l, b.sco f = (0, 0)) : Bl.scoL f l = (0, 0) := by
  induction l with
  | nil => rfl
  | cons b l ih => rw [Bl.scoL, h b (by simp), fstE_zero]; exact ih fun c hc => h c (by simp [hc])
theorem scoS_all (f : ByteArray → Bool) (l : List St) (h : ∀ b ∈ l, b.sco f = (0, 0)) : St.scoL f l = (0, 0) := by
  induction l with
  | nil => rfl
  | cons b l ih => rw [St.scoL, h b (by simp), fstE_zero]; exact ih fun c hc => h c (by simp [hc])
theorem fstE_both {a b : Int × Int} (h : fstE a b = (0, 0)) (ha : a.1 = 0 → a = (0, 0)) : a = (0, 0) ∧ b = (0, 0) := by
  by_cases h1 : a.1 = 0
  · have h2 := ha h1
    rw [h2, fstE_zero] at h
    exact ⟨h2, h⟩
  · rw [fstE_err h1] at h
    exact absurd (by rw [h]) h1
theorem scoL_each (f : ByteArray → Bool) (l : List Bl) (h : Bl.scoL f l = (0, 0)) : ∀ b ∈ l, b.sco f = (0, 0) := by
  induction l with
  | nil => intro b hb; cases hb
  | cons b l ih =>
    rw [Bl.scoL] at h
    obtain ⟨h1, h2⟩ := fstE_both h (Bl.sco_zero b)
    intro c hc
    rcases List.mem_cons.1 hc with rfl | hc
    · exact h1
    · exact ih h2 c hc
theorem scoS_each (f : ByteArray → Bool) (l : List St) (h : St.scoL f l = (0, 0)) : ∀ b ∈ l, b.sco f = (0, 0) := by
  induction l with
  | nil => intro b hb; cases hb
  | cons b l ih =>
    rw [St.scoL] at h
    obtain ⟨h1, h2⟩ := fstE_both h (St.sco_zero b)
    intro c hc
    rcases List.mem_cons.1 hc with rfl | hc
    · exact h1
    · exact ih h2 c hc
theorem more_zero {b : Bl} {f g : ByteArray → Bool} (h : ∀ x, f x = true → g x = true) (h0 : b.sco f = (0, 0)) : b.sco g = (0, 0) := by
  rcases Bl.sco_more b h with h1 | h1
  · rw [h0] at h1; cases h1
  · rw [h1, h0]
theorem sco_inl (g : Ref → Bl) (hg : ∀ r : Ref, (g r).sco (ownF [r.1]) = (0, 0)) (b : Bl) : ∀ f, b.sco f = (0, 0) → (b.inl g).sco f = (0, 0) :=
  Bl.ind (P := fun s => ∀ f, s.sco f = (0, 0) → (s.inl g).sco f = (0, 0)) (Q := fun b => ∀ f, b.sco f = (0, 0) → (b.inl g).sco f = (0, 0))
    (fun kind mon name n e ad cap blocks pos ih f h => by
      by_cases hk : kind = 8
      · subst hk
        rw [St.inl_call, St.sco]
        have h1 : oneE f 7 mon zeroEx [g (mon, name)] pos = (0, 0) := by
          have h2 : zeroEx.fv (fun m => !f m) = none := by rw [zeroEx, Ex.fv_mk, if_neg (fun h => absurd h.1 (by decide))]; rfl
          have h3 : imp 7 zeroEx [g (mon, name)] = none := by rw [imp, if_neg (by decide)]
          have h4 : needs 7 = false := by decide
          rw [oneE, h4, if_neg (by simp), h2, h3]
        rw [h1, fstE_zero, Bl.scoL, Bl.scoL]
        have h5 := more_zero (g := andMon f 7 mon) (fun x hx => by
          have : mon = x := by simpa [ownF] using hx
          rw [andMon, if_pos rfl, ← this]; simp) (hg (mon, name))
        rw [h5, fstE_zero]
      · rw [St.inl_other g kind hk, St.sco, oneE_bs (wtsL_map (Bl.inl g) (wts_inl g) blocks)]
        rw [St.sco] at h
        obtain ⟨h1, h2⟩ := fstE_both h oneE_zero
        rw [h1, fstE_zero]
        refine scoL_all _ _ fun c hc => ?_
        obtain ⟨b, hb, rfl⟩ := List.mem_map.1 hc
        exact ih b hb _ (scoL_each _ _ h2 b hb))
    (fun ad cap body ih f h => by
      rw [Bl.sco] at h
      rw [Bl.inl_mk, Bl.sco]
      refine scoS_all _ _ fun c hc => ?_
      obtain ⟨s, hs, rfl⟩ := List.mem_map.1 hc
      exact ih s hs _ (scoS_each _ _ h s hs)) b
theorem methIx_named {l : List Mo} {a c : ByteArray} {f : Me} (h : methIx l a c = some f) : ∃ m ∈ l, m.name = a ∧ f ∈ m.meths ∧ f.name = c := by
  unfold methIx at h
  split at h
  · cases h
  · rename_i i hi
    have hi2 := fidx_lt hi
    rw [List.getElem?_eq_getElem hi2] at h
    simp only at h
    split at h
    · cases h
    · rename_i k hk
      have hk2 := fidx_lt hk
      rw [List.getElem?_eq_getElem hk2] at h
      have h1 := (List.findIdx?_eq_some_iff_getElem.1 hi).2.1
      have h2 := (List.findIdx?_eq_some_iff_getElem.1 hk).2.1
      simp only [decide_eq_true_eq] at h1 h2
      have h3 : l[i].meths[k] = f := by simpa using h
      exact ⟨l[i], List.getElem_mem hi2, h1, by rw [← h3]; exact List.getElem_mem hk2, by rw [← h3]; exact h2⟩
theorem inlR_sco {p : Pr} (hM : ∀ m ∈ p.mons, ∀ f ∈ m.meths, f.body.sco (ownF [m.name]) = (0, 0)) : ∀ (n : Nat) (r : Ref), (inlR p n r).sco (ownF [r.1]) = (0, 0) := by
  intro n
  induction n with
  | zero => intro r; rfl
  | succ n ih =>
    intro r
    show ((bodyOf p r).inl (inlR p n)).sco _ = _
    refine sco_inl _ ih _ _ ?_
    unfold bodyOf
    split
    · rename_i f hf
      obtain ⟨m, hm, hn, hfm, _⟩ := methIx_named hf
      rw [← hn]; exact hM m hm f hfm
    · rfl
theorem firE_each {α : Type} {f : α → Int × Int} (hf : ∀ x, (f x).1 = 0 → f x = (0, 0)) (l : List α) (h : firE f l = (0, 0)) : ∀ x ∈ l, f x = (0, 0) := by
  induction l with
  | nil => intro b hb; cases hb
  | cons b l ih =>
    rw [firE] at h
    obtain ⟨h1, h2⟩ := fstE_both h (hf b)
    intro c hc
    rcases List.mem_cons.1 hc with rfl | hc
    · exact h1
    · exact ih h2 c hc
theorem firE_zero {α : Type} {f : α → Int × Int} (hf : ∀ x, (f x).1 = 0 → f x = (0, 0)) (l : List α) (h : (firE f l).1 = 0) : firE f l = (0, 0) := by
  induction l with
  | nil => rfl
  | cons b l ih =>
    rw [firE] at h ⊢
    by_cases h1 : (f b).1 = 0
    · rw [hf b h1, fstE_zero] at h ⊢; exact ih h
    · rw [fstE_err h1] at h; exact absurd h h1
theorem ochk_parts {p : Pr} (h : p.ochk.1 = 0) : p.cchk.1 = 0 ∧ (∀ m ∈ p.mons, ∀ f ∈ m.meths, f.body.sco (ownF [m.name]) = (0, 0)) ∧ ∀ r ∈ p.roles, r.body.sco (ownF []) = (0, 0) := by
  unfold Pr.ochk at h
  split at h
  · rename_i hc
    have z1 : ∀ m : Mo, (Mo.osc m).1 = 0 → Mo.osc m = (0, 0) := fun m => firE_zero (fun f => Bl.sco_zero _) _
    have z2 : ∀ r : Ro, (Ro.osc r).1 = 0 → Ro.osc r = (0, 0) := fun r => Bl.sco_zero _
    have h3 : fstE (firE Mo.osc p.mons) (firE Ro.osc p.roles) = (0, 0) := by
      by_cases h1 : (firE Mo.osc p.mons).1 = 0
      · rw [firE_zero z1 _ h1, fstE_zero] at h ⊢
        exact firE_zero z2 _ h
      · rw [fstE_err h1] at h; exact absurd h h1
    obtain ⟨h1, h2⟩ := fstE_both h3 (firE_zero z1 _)
    refine ⟨hc, fun m hm f hf => ?_, fun r hr => firE_each z2 _ h2 r hr⟩
    have := firE_each z1 _ h1 m hm
    exact firE_each (fun f => Bl.sco_zero _) _ this f hf
  · rename_i hc; exact absurd h hc
theorem monAt_ix (l : List Mo) (mon : ByteArray) : monAt l mon = match monIx l mon with | some i => l[i]? | none => none := by
  induction l with
  | nil => rfl
  | cons m r ih =>
    rw [monAt, List.find?_cons, monIx, List.findIdx?_cons]
    by_cases h : m.name = mon
    · simp [h]
    · simp only [h, decide_false, Bool.false_eq_true, if_false]
      rw [monAt, monIx] at ih
      rw [ih]
      cases r.findIdx? (fun m => decide (m.name = mon)) with
      | none => rfl
      | some i => rfl
theorem meth_lk (p : Pr) (mon name : ByteArray) : (methIx p.mons mon name).isSome = p.lk.F mon name := by
  simp only [Pr.lk]
  rw [monAt_ix]
  cases h : monIx p.mons mon with
  | none => rw [methIx_no h]; rfl
  | some i =>
    have hi := fidx_lt h
    simp only [List.getElem?_eq_getElem hi]
    cases h2 : p.mons[i].meths.findIdx? (fun v => decide (v.name = name)) with
    | none =>
      rw [methIx_no2 h hi h2, ← List.findIdx?_isSome, h2]; rfl
    | some k =>
      rw [methIx_at h hi h2 (fidx_lt h2), ← List.findIdx?_isSome, h2]; rfl
theorem chk_parts {p : Pr} (h : p.nchk.1 = 0) : p.ok = true ∧ declM [] p.mons = none ∧ roleE [] p.roles = none ∧ p.unk p.lk = none := by
  rw [Pr.nchk] at h
  split at h
  · rename_i hok
    rw [Pr.chk] at h
    split at h
    · cases h
    · rename_i h1
      split at h
      · rename_i x h2
        exfalso
        obtain ⟨c, a⟩ := x
        have := roleE_pos [] p.roles c a h2
        simp only at h
        subst h
        cases this
      · rename_i h2
        split at h
        · cases h
        · rename_i h3
          exact ⟨hok, h1, h2, h3⟩
  · cases h
theorem unkL_each (k : Lk) (l : List Bl) (h : Bl.unkL k l = none) : ∀ b ∈ l, b.unk k = none := by
  induction l with
  | nil => intro b hb; cases hb
  | cons c l ih =>
    rw [Bl.unkL] at h
    obtain ⟨h3, h4⟩ := Option.or_eq_none_iff.1 h
    intro b hb
    rcases List.mem_cons.1 hb with rfl | hb
    · exact h3
    · exact ih h4 b hb
theorem unkS_each (k : Lk) (l : List St) (h : St.unkL k l = none) : ∀ b ∈ l, b.unk k = none := by
  induction l with
  | nil => intro b hb; cases hb
  | cons c l ih =>
    rw [St.unkL] at h
    obtain ⟨h3, h4⟩ := Option.or_eq_none_iff.1 h
    intro b hb
    rcases List.mem_cons.1 hb with rfl | hb
    · exact h3
    · exact ih h4 b hb
theorem unk_subs (k : Lk) (b : Bl) : b.unk k = none → ∀ s ∈ b.subs, s.knows k = true :=
  Bl.ind (P := fun s => s.unk k = none → ∀ t ∈ s.subs, t.knows k = true) (Q := fun b => b.unk k = none → ∀ t ∈ b.subs, t.knows k = true)
    (fun kind mon name n e ad cap blocks pos ih h t ht => by
      rw [St.unk_mk] at h
      split at h
      · cases h
      · rename_i hk
        rw [St.subs_mk] at ht
        rcases List.mem_cons.1 ht with rfl | ht
        · simpa using hk
        · obtain ⟨b, hb, ht⟩ := List.mem_flatMap.1 ht
          have h2 := (Option.or_eq_none_iff.1 h).2
          exact ih b hb (unkL_each k blocks h2 b hb) t ht)
    (fun ad cap body ih h t ht => by
      rw [Bl.unk_mk] at h
      rw [Bl.subs_mk] at ht
      obtain ⟨s, hs, ht⟩ := List.mem_flatMap.1 ht
      exact ih s hs (unkS_each k body h s hs) t ht) b
theorem unkOf_each {α : Type} {f : α → Option Int} (l : List α) (h : unkOf f l = none) : ∀ x ∈ l, f x = none := by
  induction l with
  | nil => intro x hx; cases hx
  | cons a l ih =>
    rw [unkOf] at h
    obtain ⟨h1, h2⟩ := Option.or_eq_none_iff.1 h
    intro x hx
    rcases List.mem_cons.1 hx with rfl | hx
    · exact h1
    · exact ih h2 x hx
theorem fstOf_some {α β : Type} {f : α → Option β} (l : List α) {y : β} (h : fstOf f l = some y) : ∃ x ∈ l, f x = some y := by
  induction l with
  | nil => cases h
  | cons a l ih =>
    rw [fstOf] at h
    cases ha : f a with
    | some z => rw [ha] at h; exact ⟨a, by simp, by rw [ha]; exact h⟩
    | none =>
      rw [ha] at h
      obtain ⟨x, hx, hy⟩ := ih (by simpa using h)
      exact ⟨x, by simp [hx], hy⟩
theorem fstOf_each {α β : Type} {f : α → Option β} (l : List α) (h : fstOf f l = none) : ∀ x ∈ l, f x = none := by
  induction l with
  | nil => intro x hx; cases hx
  | cons a l ih =>
    rw [fstOf] at h
    obtain ⟨h1, h2⟩ := Option.or_eq_none_iff.1 h
    intro x hx
    rcases List.mem_cons.1 hx with rfl | hx
    · exact h1
    · exact ih h2 x hx
theorem known_of {p : Pr} {b : Bl} (h : b.unk p.lk = none) : ∀ r ∈ callsOf b, methIx p.mons r.1 r.2 ≠ none := by
  intro r hr
  obtain ⟨s, hs, hk, rfl⟩ := (callsOf_mem b r).1 hr
  have h1 := unk_subs p.lk b h s hs
  rcases s with ⟨kind, mon, name, n, e, ad, cap, blocks, pos⟩
  have hk8 : kind = 8 := hk
  subst hk8
  have h2 : p.lk.F mon name = true := by
    have h3 : (St.mk 8 mon name n e ad cap blocks pos).knows p.lk = p.lk.F mon name := by unfold St.knows; simp
    rw [← h3]; exact h1
  rw [← meth_lk] at h2
  show methIx p.mons mon name ≠ none
  intro h4
  rw [h4] at h2; cases h2
theorem tchk_pos {p : Pr} (h : p.tchk.1 = 0) : p.nchk.1 = 0 := by
  unfold Pr.tchk at h
  split at h
  · assumption
  · exact h
/-- Where Check is OK, Inline of each role is. -/
theorem role_count {p : Pr} (h : p.cchk.1 = 0) {r : Ro} (hr : r ∈ p.roles) : ∃ n, countOf p r.body = (n, 0) := by
  unfold Pr.cchk at h
  split at h
  · rename_i ht
    obtain ⟨hok, -, -, hunk⟩ := chk_parts (tchk_pos ht)
    obtain ⟨hu1, hu2⟩ := Option.or_eq_none_iff.1 hunk
    have hkr : ∀ x ∈ callsOf r.body, methIx p.mons x.1 x.2 ≠ none := known_of (unkOf_each _ hu2 r hr)
    have hkm : ∀ x ∈ allRefs p, methIx p.mons x.1 x.2 ≠ none := fun x hx => by
      obtain ⟨m, hm, hx⟩ := List.mem_flatMap.1 hx
      obtain ⟨f, hf, hx⟩ := List.mem_flatMap.1 hx
      exact known_of (unkOf_each _ (unkOf_each _ hu1 m hm) f hf) x hx
    have hk : ∀ x ∈ reachedOf p (callsOf r.body), methIx p.mons x.1 x.2 ≠ none := fun x hx => by
      rcases List.mem_append.1 (reached_sub p _ x hx) with h1 | h1
      · exact hkr x h1
      · exact hkm x h1
    have hnone : fstOf (Mo.cyc p) p.mons = none ∧ fstOf (Ro.big p) p.roles = none := by
      cases h1 : fstOf (Mo.cyc p) p.mons with
      | some x =>
        exfalso
        rw [h1] at h
        obtain ⟨m, hm, hx⟩ := fstOf_some _ h1
        obtain ⟨f, hf, hx⟩ := fstOf_some _ hx
        unfold Me.cyc at hx
        split at hx
        · cases hx; cases h
        · cases hx
      | none =>
        rw [h1] at h
        cases h2 : fstOf (Ro.big p) p.roles with
        | some x =>
          exfalso
          rw [h2] at h
          obtain ⟨q, hq, hx⟩ := fstOf_some _ h2
          unfold Ro.big at hx
          split at hx
          · cases hx; cases h
          · cases hx
        | none => exact ⟨rfl, rfl⟩
    have hnr : ∀ x ∈ reachedOf p (callsOf r.body), ¬ Round p x := fun x hx hR => by
      cases hm : methIx p.mons x.1 x.2 with
      | none => exact hk x hx hm
      | some f =>
        obtain ⟨m, hmm, hn, hf, hfn⟩ := methIx_named hm
        have h1 := fstOf_each _ (fstOf_each _ hnone.1 m hmm) f hf
        unfold Me.cyc at h1
        have h2 : goesR p (m.name, f.name) = true := by
          rw [hn, hfn]
          exact decide_eq_true hR
        rw [if_pos h2] at h1; cases h1
    have hb := fstOf_each _ hnone.2 r hr
    unfold Ro.big at hb
    have hb2 : (cntOf p r.body).2 ≠ 81 := fun e => by rw [if_pos e] at hb; cases hb
    have hokB : r.body.okB = true := by
      unfold Pr.ok at hok
      have h1 := (Bool.and_eq_true_iff.1 hok).2
      unfold Bl.okB
      refine List.all_eq_true.2 fun s hs => List.all_eq_true.1 h1 s ?_
      exact List.mem_append.2 (.inr (List.mem_flatMap.2 ⟨r, hr, hs⟩))
    have hc : countOf p r.body = cntOf p r.body := by unfold countOf; rw [hok, hokB]; simp
    rw [hc]
    rcases cnt_cases p r.body with ⟨⟨x, hx, h1⟩, _⟩ | ⟨_, ⟨x, hx, h1⟩, _⟩ | ⟨_, _, Z, _, h1⟩
    · exact absurd h1 (hk x hx)
    · exact absurd h1 (hnr x hx)
    · rw [h1] at hb2 ⊢
      split at hb2
      · exact absurd rfl hb2
      · rename_i hs
        rw [if_neg hs]; exact ⟨_, rfl⟩
  · rename_i ht; exact absurd h ht
/-- All that is known of a role that is inlined. -/
theorem role_right {p : Pr} (h : p.ochk.1 = 0) {r : Ro} (hr : r ∈ p.roles) : (countOf p r.body).2 = 0 ∧ ∀ y : Bl, y.clr = r.body.inl (inlR p (reachedOf p (callsOf r.body)).length) → y.sco (ownF []) = (0, 0) ∧ y.subs.length ≤ 400 := by
  obtain ⟨h1, h2, h3⟩ := ochk_parts h
  obtain ⟨n, hn⟩ := role_count h1 hr
  refine ⟨by rw [hn], fun y hy => ⟨?_, ?_⟩⟩
  · rw [← sco_clr, hy]
    exact sco_inl _ (inlR_sco h2 _) _ _ (h3 r hr)
  · obtain ⟨k1, k2, k3⟩ := countOf_ok hn rfl
    obtain ⟨h4, h5⟩ := inl_size k1 k2 k3
    have := congrArg List.length (clr_subs y)
    rw [List.length_map, hy, h4] at this
    omega
end Go.Proofs.YtfkabkbnfeiggaaDoor
namespace Go.Proofs.YtfkabkbnfeiggaaDoor
open Go.RowKit
theorem vsum_small (l : List Mo) (h1 : l.length ≤ 20) (h2 : ∀ m ∈ l, m.vars.length ≤ 40) : vsum l ≤ 1000000 := by
  have h : vsum l ≤ 40 * l.length := by
    clear h1
    induction l with
    | nil => exact Nat.le_refl _
    | cons m r ih =>
      have h3 := ih (fun x hx => h2 x (List.mem_cons_of_mem _ hx))
      have h4 := h2 m (List.mem_cons_self ..)
      rw [vsum, List.map_cons, List.sum_cons, List.length_cons]
      rw [vsum] at h3
      omega
  omega
set_option maxRecDepth 100000 in
set_option maxHeartbeats 16000000 in
theorem ownCheck_of (p : Pr) (n₀ : Nat) (w : World) (hn : n₀ ≤ w.heap.size) (hp : p.Is n₀ w) (hc1 : ∀ W, Below w.heap.size w W → Calls Tryd.prog 20 #[p.val] W fun r w' => ChkBack p.cchk W w' r) (hR2 : ∀ r ∈ p.roles, r.body.subs.length ≤ 400000) (hM : ∀ m ∈ p.mons, ∀ f ∈ m.meths, f.body.subs.length ≤ 400000) :
    Calls Tryd.prog 14 #[p.val] w fun r w' => ChkBack p.ochk w w' r := by
  have HCC := hid (show p.ochk = if p.cchk.1 = 0 then fstE (firE Mo.osc p.mons) (firE Ro.osc p.roles) else p.cchk from rfl)
  obtain ⟨tc, htc⟩ : ∃ tc, p.cchk = tc := ⟨_, rfl⟩
  obtain ⟨cc, hcc⟩ : ∃ cc, p.ochk = cc := ⟨_, rfl⟩
  rw [htc, hcc] at HCC
  simp only [htc] at hc1
  rw [hcc]
  clear htc hcc
  rcases p with ⟨mad, mcap, mons, rad, rcap, roles⟩
  obtain ⟨⟨h3, h4⟩, h5, h6⟩ := hp
  obtain ⟨tc1, tc2⟩ := tc
  simp only [Pr.val] at hc1 hM hR2 h3 h4 h5 h6 HCC ⊢
  simp only [ChkBack] at hc1
  have hl1 := h3.1; have hl2 := h3.2.1
  unfold maxLen at hl2
  have hr1 := h5.1; have hr2 := h5.2.1
  unfold maxLen at hr2
  have hB := (Below.refl w.heap.size w).al le_rfl' (.cells #[.slice mad mons.length mcap, .slice rad roles.length rcap] 45)
  have b1 := heapNew w (.cells #[.slice mad mons.length mcap, .slice rad roles.length rcap] 45)
  cases hte : (tc1 != 0 : Bool)
  · have ht0 : tc1 = 0 := by simpa using hte
    subst ht0
    rw [if_pos rfl] at HCC
    go_enter Tryd.func14, Tryd.ntmps14
    go_upto_region 4 with (go_at_call 20; (with_reducible refine (hc1 _ hB).mono ?_); rintro r wB ⟨rfl, bb1⟩)
    have hB2 := hB.tr le_rfl' bb1
    have b3 := (bb1.block w.heap.size (by simp)).trans b1
    have q0 := cellOf b3 0
    have q1 := cellOf b3 1
    simp at q0 q1
    clear hc1 b1 bb1 hte
    have hz2 := hB2.size
    go_wp2
    go_loopw [28] (fun i wr => ∃ j : Nat, j ≤ mons.length ∧ i = .int .i64 j ∧ Hid (firE Mo.osc mons = firE Mo.osc (mons.drop j)) ∧ Below wB.heap.size wB wr)
      (fun i _ => mons.length - (intOf i).toNat)
    case atStart => exact ⟨0, by omega, rfl, rfl, Below.refl _ _⟩
    case round =>
      obtain ⟨j, hj, rfl, HQ, hbw⟩ := hrel
      have hz1 := hbw.size
      have hbF : Below w.heap.size w wr := hB2.tr le_rfl' hbw
      by_cases hlt : j < mons.length
      · rcases h3.2.2 with h | ⟨kb, koff, rfl, hbn, hrow⟩
        · subst h; simp at hlt
        have HD := hid (firE_drop Mo.osc mons j hlt)
        have HMU : Hid (Mo.osc mons[j] = firE (Me.osc mons[j].name) mons[j].meths) := rfl
        have hmj := h4 _ (List.getElem_mem hlt)
        have hMj := hM _ (List.getElem_mem hlt)
        have hmm2 := hrow.below (hbF.mono hn) hbn
        rcases he' : mons[j] with ⟨mname, vad, vcap, vars, fad, fcap, meths, mpos⟩
        have hc4r := row4 hmm2 j hlt (by rw [he']; rfl)
        rw [he'] at hmj HMU hMj
        rw [he'] at HD
        simp only at hc4r HMU hMj
        obtain ⟨c0, c1, c2, c3⟩ := hc4r
        have hkw : kb < wr.heap.size := by omega
        obtain ⟨⟨hml, -⟩, -, hfs, hfI⟩ := hmj
        simp only at hfs hfI hml
        have hf1 := hfs.1; have hf2 := hfs.2.1
        unfold maxLen at hf2
        clear he' hmm2
        go_upto_region 7 with fail
        obtain ⟨bX, hBX, hzX⟩ := one_box wr #[.string mname, .slice vad vars.length vcap, .slice fad meths.length fcap, .int .i64 mpos] 62
        obtain ⟨Bm, hBm⟩ : ∃ Bm, wr.heap.size = Bm := ⟨_, rfl⟩
        obtain ⟨W1, hW1⟩ : ∃ W1, wr.alloc (.cells #[.string mname, .slice vad vars.length vcap, .slice fad meths.length fcap, .int .i64 mpos] 62) = W1 := ⟨_, rfl⟩
        have hbw1 : Below wB.heap.size wB W1 := by rw [← hW1]; exact hbw.tr le_rfl' hBX
        rw [hW1] at bX ⊢
        rw [hBm] at bX ⊢
        have x2 := cellOf bX 2
        simp at x2
        clear hBX hzX hW1 hBm c0 c1 c2 c3
        obtain ⟨wo, hwo⟩ : ∃ wo : World, wo = wr := ⟨_, rfl⟩
        subst hwo
        go_wp2
        clear x2
        go_loopw [35] (fun i wx => ∃ k : Nat, k ≤ meths.length ∧ i = .int .i64 k ∧ Hid (firE (Me.osc mname) meths = firE (Me.osc mname) (meths.drop k)) ∧ Below W1.heap.size W1 wx)
          (fun i _ => meths.length - (intOf i).toNat)
        case atStart => exact ⟨0, by omega, rfl, rfl, Below.refl _ _⟩
        case round =>
          obtain ⟨k, hk, rfl, HQ2, hbx⟩ := hrel
          have hzx := hbx.size
          have hbx2 : Below wB.heap.size wB wr := hbw1.tr le_rfl' hbx
          have hbF2 : Below w.heap.size w wr := hB2.tr le_rfl' hbx2
          have bXi := (hbx.block Bm (Array.getElem?_eq_some_iff.1 bX).1).trans bX
          by_cases hlk : k < meths.length
          · rcases hfs.2.2 with h | ⟨qb, qoff, rfl, hqn, hqrow⟩
            · subst h; simp at hlk
            have HD2 := hid (firE_drop (Me.osc mname) meths k hlk)
            have HMe : Hid (Me.osc mname meths[k] = meths[k].body.sco (ownF [mname])) := rfl
            have hIf := hfI _ (List.getElem_mem hlk)
            have hMf := hMj _ (List.getElem_mem hlk)
            have hqrow2 := hqrow.below (hbF2.mono hn) hqn
            rcases he2 : meths[k] with ⟨fname, ⟨bad, bcap, bbody⟩, fpos⟩
            have hc3r := row3 hqrow2 k hlk (by rw [he2]; rfl)
            rw [he2] at HMe hIf hMf
            rw [he2] at HD2
            simp only [Bl.slice] at hc3r
            simp only at HMe hMf
            obtain ⟨d0, d1, d2⟩ := hc3r
            have hqw : qb < wr.heap.size := by have := hbF2.size; omega
            obtain ⟨bF, hBF, hzF⟩ := one_box wr #[.string fname, .slice bad bbody.length bcap, .int .i64 fpos] 66
            obtain ⟨W2, hW2⟩ : ∃ W2, wr.alloc (.cells #[.string fname, .slice bad bbody.length bcap, .int .i64 fpos] 66) = W2 := ⟨_, rfl⟩
            rw [hW2] at bF hBF hzF
            have hBN : Below W2.heap.size W2 (W2.alloc (.cells #[.string mname] 9)) := (Below.refl _ _).al le_rfl' _
            have hcg := scope_any (.mk bad bcap bbody) [mname] (some ⟨W2.heap.size, 0, none⟩) 1 (W2.alloc (.cells #[.string mname] 9)).heap.size (W2.alloc (.cells #[.string mname] 9)) (Nat.le_refl _) ((hIf.2.2.below (((hbF2.tr le_rfl' hBF).tr le_rfl' hBN).mono hn)).mono (by have := ((hbF2.tr le_rfl' hBF).tr le_rfl' hBN).size; omega)) (sl_one W2 rfl) (by simp; omega)
            have m0 := (hBF.cell (p := ⟨Bm, 0, none⟩) (by show Bm < _; exact (Array.getElem?_eq_some_iff.1 bXi).1)).trans (cellOf bXi 0)
            simp at m0
            obtain ⟨G, hG⟩ : ∃ G, (Bl.mk bad bcap bbody).sco (ownF [mname]) = G := ⟨_, rfl⟩
            have hG0 := Bl.sco_zero (f := ownF [mname]) (Bl.mk bad bcap bbody)
            rw [hG] at hcg HMe hG0
            simp only [Bl.slice, ScBack, List.length_cons, List.length_nil] at hcg
            have f1 := cellOf bF 1
            simp at f1
            clear he2 hG hqrow2 hIf bF hMf hzF
            obtain ⟨ge, ga⟩ := G
            by_cases hge : ge = 0
            · subst hge
              have hgz := hG0 rfl
              have hga : ga = 0 := congrArg Prod.snd hgz
              subst hga
              rw [HMe.out, fstE_zero] at HD2
              go_wp2_with (go_at_call 10; (with_reducible refine hcg.mono ?_); rintro r wE ⟨rfl, bb5⟩)
              go_roundw
              case rel => exact ⟨k + 1, by omega, by go_num, by show _ = _; rw [HQ2.out, HD2.out], ((hbx.tr le_rfl' hBF).tr le_rfl' hBN).tr le_rfl' bb5⟩
              case measure => simp [intOf]; omega
            · rw [HMe.out, fstE_err (by exact hge)] at HD2
              have hgb : (ge == 0) = false := by rw [beq_eq_false_iff_ne]; exact hge
              have hgb2 : (ge != 0) = true := by rw [bne, hgb]; rfl
              have HE : Hid (cc = (ge, ga)) := by
                show _ = _
                have h1 : Mo.osc { name := mname, vad := vad, vcap := vcap, vars := vars, mad := some ⟨qb, qoff, none⟩, mcap := fcap, meths := meths, pos := mpos } = (ge, ga) := by rw [HMU.out, HQ2.out, HD2.out]
                have h2 : firE Mo.osc mons = (ge, ga) := by rw [HQ.out, HD.out, h1, fstE_err (by exact hge)]
                rw [HCC.out, h2, fstE_err (by exact hge)]
              go_wp2_with (go_at_call 10; (with_reducible refine hcg.mono ?_); rintro r wE ⟨rfl, bb5⟩)
              go_ret2
              exact chkBack_mk HE.out (((hbF2.tr le_rfl' hBF).tr le_rfl' hBN).tr le_rfl' bb5)
          · have hkd : decide ((k : Int) < (meths.length : Int)) = false := by simp; omega
            have HE : Hid (firE Mo.osc mons = firE Mo.osc (mons.drop (j + 1))) := by
              show _ = _
              rw [HQ.out, HD.out, HMU.out, HQ2.out, firE_end _ _ _ (by omega), fstE_zero]
            go_wp2
            go_roundw
            case rel => exact ⟨j + 1, by omega, by go_num, HE, hbx2⟩
            case measure => simp [intOf]; omega
      · have hjd : decide ((j : Int) < (mons.length : Int)) = false := by simp; omega
        have HC2 : Hid (cc = firE Ro.osc roles) := by
          show _ = _
          rw [HCC.out, HQ.out, firE_end _ _ _ (by omega), fstE_zero]
        clear HCC HQ
        have b4 := (hbw.block w.heap.size (Array.getElem?_eq_some_iff.1 b3).1).trans b3
        have q0 := cellOf b4 0
        have q1 := cellOf b4 1
        simp at q0 q1
        obtain ⟨wC, hu3⟩ : ∃ wC : World, wC = wr := ⟨_, rfl⟩
        subst hu3
        go_wp2
        clear q0 q1
        go_loopw [57] (fun i wx => ∃ k : Nat, k ≤ roles.length ∧ i = .int .i64 k ∧ Hid (firE Ro.osc roles = firE Ro.osc (roles.drop k)) ∧ Below wB.heap.size wB wx)
          (fun i _ => roles.length - (intOf i).toNat)
        case atStart => exact ⟨0, by omega, rfl, rfl, hbw⟩
        case round =>
          obtain ⟨k, hk, rfl, HQ2, hbx⟩ := hrel
          have hzx := hbx.size
          have hbF2 : Below w.heap.size w wr := hB2.tr le_rfl' hbx
          by_cases hlk : k < roles.length
          · rcases h5.2.2 with h | ⟨qb, qoff, rfl, hqn, hqrow⟩
            · subst h; simp at hlk
            have HD2 := hid (firE_drop Ro.osc roles k hlk)
            have HMe : Hid (Ro.osc roles[k] = roles[k].body.sco (ownF [])) := rfl
            have hIr := h6 _ (List.getElem_mem hlk)
            have hMr := hR2 _ (List.getElem_mem hlk)
            have hqrow2 := hqrow.below (hbF2.mono hn) hqn
            rcases he2 : roles[k] with ⟨rname, rstar, rcount, ⟨bad, bcap, bbody⟩, rpos⟩
            have hc5r := row5 hqrow2 k hlk (by rw [he2]; rfl)
            rw [he2] at HMe hIr hMr
            rw [he2] at HD2
            simp only [Bl.slice] at hc5r
            simp only at HMe hMr
            obtain ⟨d0, d1, d2, d3, d4⟩ := hc5r
            have hqw : qb < wr.heap.size := by have := hbF2.size; omega
            obtain ⟨bF, hBF, hzF⟩ := one_box wr #[.string rname, .bool rstar, .int .i64 rcount, .slice bad bbody.length bcap, .int .i64 rpos] 51
            have hcg := scope_any (.mk bad bcap bbody) [] none 0 n₀ (wr.alloc (.cells #[.string rname, .bool rstar, .int .i64 rcount, .slice bad bbody.length bcap, .int .i64 rpos] 51)) (by have := (hbF2.tr le_rfl' hBF).size; omega) (hIr.2.2.2.below ((hbF2.tr le_rfl' hBF).mono hn)) ⟨by simp, by unfold maxLen; omega, .inl rfl⟩ (by simp; omega)
            obtain ⟨G, hG⟩ : ∃ G, (Bl.mk bad bcap bbody).sco (ownF []) = G := ⟨_, rfl⟩
            have hG0 := Bl.sco_zero (f := ownF []) (Bl.mk bad bcap bbody)
            rw [hG] at hcg HMe hG0
            simp only [Bl.slice, ScBack, List.length_nil] at hcg
            clear he2 hG hqrow2 hIr hMr hzF
            obtain ⟨ge, ga⟩ := G
            by_cases hge : ge = 0
            · subst hge
              have hgz := hG0 rfl
              have hga : ga = 0 := congrArg Prod.snd hgz
              subst hga
              rw [HMe.out, fstE_zero] at HD2
              go_wp2_with (go_at_call 10; (with_reducible refine hcg.mono ?_); rintro r wE ⟨rfl, bb5⟩)
              go_roundw
              case rel => exact ⟨k + 1, by omega, by go_num, by show _ = _; rw [HQ2.out, HD2.out], (hbx.tr le_rfl' hBF).tr le_rfl' bb5⟩
              case measure => simp [intOf]; omega
            · rw [HMe.out, fstE_err (by exact hge)] at HD2
              have hgb : (ge == 0) = false := by rw [beq_eq_false_iff_ne]; exact hge
              have hgb2 : (ge != 0) = true := by rw [bne, hgb]; rfl
              have HE : Hid (cc = (ge, ga)) := by
                show _ = _
                rw [HC2.out, HQ2.out, HD2.out]
              go_wp2_with (go_at_call 10; (with_reducible refine hcg.mono ?_); rintro r wE ⟨rfl, bb5⟩)
              go_ret2
              exact chkBack_mk HE.out ((hbF2.tr le_rfl' hBF).tr le_rfl' bb5)
          · have hkd : decide ((k : Int) < (roles.length : Int)) = false := by simp; omega
            have HE : Hid (cc = (0, 0)) := by
              show _ = _
              rw [HC2.out, HQ2.out, firE_end _ _ _ (by omega)]
            go_wp2
            go_ret2
            exact chkBack_mk HE.out hbF2
  · have htn : ¬ tc1 = 0 := by simpa using hte
    rw [if_neg htn] at HCC
    go_enter Tryd.func14, Tryd.ntmps14
    go_wp2_with (go_at_call 20; (with_reducible refine (hc1 _ hB).mono ?_); rintro r wB ⟨rfl, bb1⟩)
    go_ret2
    exact chkBack_mk HCC.out (hB.tr le_rfl' bb1)
set_option maxRecDepth 100000 in
set_option maxHeartbeats 4000000 in
theorem Check_small (p : Pr) (n₀ : Nat) (w : World) (hn : n₀ ≤ w.heap.size) (hp : p.Is n₀ w) (hS : Shapes w) (hS3 : 3 ≤ w.heap.size) (hvs : vsum p.mons ≤ 1000000) (hF : Fine0 p) (hR : ∀ r ∈ p.roles, r.body.subs.length ≤ 400000) :
    Calls Tryd.prog 20 #[p.val] w fun r w' => ChkBack p.cchk w w' r := by
  by_cases hok : p.ok = true
  · exact Check_any p n₀ w hn hp hS hS3 hvs (hF.fine hok) (fun r hr => ⟨hR r hr, okB_blocks (by
      unfold Pr.ok at hok
      have h1 := (Bool.and_eq_true_iff.1 hok).2
      unfold Bl.okB
      exact List.all_eq_true.2 fun s hs => List.all_eq_true.1 h1 s (List.mem_append.2 (.inr (List.mem_flatMap.2 ⟨r, hr, hs⟩))))⟩)
  · have htn : p.tchk.1 ≠ 0 := fun h => hok (chk_parts (tchk_pos h)).1
    have hc1 := fun (W : World) (hW : Below w.heap.size w W) => typesCheck_any p hvs n₀ W (by have := hW.size; omega) (hp.below (hW.mono hn)) (hS.below hW hS3)
    have HCC : Hid (p.cchk = p.tchk) := by show _ = _; rw [Pr.cchk, if_neg htn]
    obtain ⟨tc, htc⟩ : ∃ tc, p.tchk = tc := ⟨_, rfl⟩
    obtain ⟨cc, hcc⟩ : ∃ cc, p.cchk = cc := ⟨_, rfl⟩
    rw [htc, hcc] at HCC
    rw [htc] at htn
    simp only [htc] at hc1
    rw [hcc]
    clear htc hcc hok hp hF hR hvs hS
    rcases p with ⟨mad, mcap, mons, rad, rcap, roles⟩
    obtain ⟨tc1, tc2⟩ := tc
    simp only [Pr.val] at hc1 ⊢
    simp only [ChkBack] at hc1
    have hB := (Below.refl w.heap.size w).al le_rfl' (.cells #[.slice mad mons.length mcap, .slice rad roles.length rcap] 45)
    have htb : (tc1 == 0) = false := by rw [beq_eq_false_iff_ne]; exact htn
    have htb2 : (tc1 != 0) = true := by rw [bne, htb]; rfl
    go_enter Tryd.func20, Tryd.ntmps20
    go_wp2_with (go_at_call 29; (with_reducible refine (hc1 _ hB).mono ?_); rintro r wA ⟨rfl, bb1⟩)
    go_ret2
    exact chkBack_mk HCC.out (hB.tr le_rfl' bb1)
theorem small_subs {p : Pr} (h : p.size ≤ 400) : (∀ m ∈ p.mons, ∀ f ∈ m.meths, f.body.subs.length ≤ 400000) ∧ ∀ r ∈ p.roles, r.body.subs.length ≤ 400000 := by
  have h1 : p.stmts.length ≤ 400 := Nat.le_trans (len_le_sz _) h
  have h2 : p.stmts = (p.mons.flatMap fun m => m.meths.flatMap fun x => x.body.subs) ++ p.roles.flatMap fun r => r.body.subs := rfl
  rw [h2, List.length_append] at h1
  refine ⟨fun m hm f hf => ?_, fun r hr => ?_⟩
  · have a1 := len_flat (fun m : Mo => m.meths.flatMap fun x => x.body.subs) p.mons m hm
    have a2 := len_flat (fun x : Me => x.body.subs) m.meths f hf
    omega
  · have a1 := len_flat (fun r : Ro => r.body.subs) p.roles r hr
    omega
set_option maxRecDepth 100000 in
set_option maxHeartbeats 16000000 in
theorem inlined_walk (p : Pr) (w : World) (hS : Shapes w) (hp : p.Is w.heap.size w) : Calls Tryd.prog 6 #[p.val] w fun r w' => r = .returned (.bool true) ∧ Below w.heap.size w w' := by
  have hS3 := hS.size
  have hsm := fun (W : World) (hW : Below w.heap.size w W) => small_any w.heap.size p W hW.size (hp.below hW)
  have hli := fun (W : World) (hW : Below w.heap.size w W) => live_own W (hS.below hW hS3) (by have := hW.size; omega)
  have HCH := hid (fun (h1 : p.size ≤ 400) (h2 : p.mons.length ≤ 20) (h3 : ∀ m ∈ p.mons, m.vars.length ≤ 40) (W : World) (hW : Below w.heap.size w W) => ownCheck_of p w.heap.size W hW.size (hp.below hW) (fun V hV => Check_small p w.heap.size V (Nat.le_trans hW.size hV.size) (hp.below (hW.tr le_rfl' hV)) (hS.below (hW.tr le_rfl' hV) hS3) (by have := (hW.tr le_rfl' hV).size; omega) (vsum_small _ h2 h3) (fine_small h1) (small_subs h1).2) (small_subs h1).2 (small_subs h1).1)
  have HIN := hid (fun (h1 : p.size ≤ 400) (h0 : p.ochk.1 = 0) (r : Ro) (hr : r ∈ p.roles) (W : World) (hW : Below w.heap.size w W) (hI : r.body.Is w.heap.size W) => (Inline_any p r.body w.heap.size W hW.size (hp.below hW) hI (hS.below hW hS3) (by have := hW.size; omega) (fine_small h1) ((small_subs h1).2 r hr)).mono (R' := fun e w' => ∃ ad cap body, e = .returned (.tuple #[.slice ad body.length cap, .int .i64 0]) ∧ (Bl.mk ad cap body).Is w'.heap.size w' ∧ Hid ((Bl.mk ad cap body).sco (ownF []) = (0, 0) ∧ (Bl.mk ad cap body).subs.length ≤ 400) ∧ Below W.heap.size W w') (fun e w' hh => by
    obtain ⟨h5, h6⟩ := role_right h0 hr
    obtain ⟨⟨h7, _⟩ | ⟨_, ad, cap, body, h8, h9, h10⟩, hb⟩ := hh
    · exact absurd h5 h7
    · exact ⟨ad, cap, body, h8, h9, h6 _ h10, hb⟩))
  have hnum := num_own
  obtain ⟨P, hP⟩ : ∃ P : Pr, P = p := ⟨_, rfl⟩
  rcases p with ⟨mad, mcap, mons, rad, rcap, roles⟩
  obtain ⟨-, h5, h6⟩ := hp
  rw [← hP] at hsm HCH HIN
  have hPv : P.val = .agg #[.slice mad mons.length mcap, .slice rad roles.length rcap] := by rw [hP]; rfl
  have hPr : P.roles = roles := by rw [hP]
  have hPm : P.mons = mons := by rw [hP]
  simp only [hPv, hPr, hPm] at hsm HCH HIN
  have hsm : ∀ W, Below w.heap.size w W → Calls Tryd.prog 13 #[.agg #[.slice mad mons.length mcap, .slice rad roles.length rcap], .int .i64 300] W fun r w' => ∃ c : Bool, r = .returned (.bool c) ∧ (c = true → P.size ≤ 400 ∧ mons.length ≤ 20 ∧ ∀ m ∈ mons, m.vars.length ≤ 40) ∧ Below W.heap.size W w' := fun W hW => by
    have h := hsm W hW
    unfold SmallBack at h
    rw [hPm] at h
    exact h
  clear hP hPv hPr hPm
  simp only [Pr.val] at h5 h6 ⊢
  have hr1 := h5.1; have hr2 := h5.2.1
  unfold maxLen at hr2
  obtain ⟨b1, hB, hz0⟩ := one_box w #[.slice mad mons.length mcap, .slice rad roles.length rcap] 45
  go_enter Tryd.func6, Tryd.ntmps6
  go_upto_region 1 with fail
  obtain ⟨W0, hW0⟩ : ∃ W0, w.alloc (.cells #[.slice mad mons.length mcap, .slice rad roles.length rcap] 45) = W0 := ⟨_, rfl⟩
  rw [hW0] at b1 hB hz0 ⊢
  have HZ0 := hid hz0
  have hcell : ∀ W, Below W0.heap.size W0 W → W.cell? ⟨w.heap.size, 0, none⟩ = some (.slice mad mons.length mcap) ∧ W.cell? ⟨w.heap.size, 1, none⟩ = some (.slice rad roles.length rcap) := by
    intro W hW
    have hb := (hW.block w.heap.size (by omega)).trans b1
    exact ⟨by rw [cellOf hb]; rfl, by rw [cellOf hb]; rfl⟩
  clear hW0 b1 hz0
  obtain ⟨p0, p1⟩ := hcell W0 (Below.refl _ _)
  go_upto_if 12 with (go_at_call 13; (with_reducible refine (hsm _ hB).mono ?_); rintro r wa ⟨c, rfl, hsz, ba⟩; have Ba := hB.tr le_rfl' ba; have Ka := (Below.refl W0.heap.size W0).trans ba; cases c)
  · go_wp2_with (go_at_call 9; (with_reducible refine (hli _ Ba).mono ?_); rintro r wz ⟨rfl, bz⟩)
    go_ret
    exact ⟨rfl, Ba.tr le_rfl' bz⟩
  · obtain ⟨s1, s2, s3⟩ := hsz trivial
    have hch := HCH.out s1 s2 s3 wa Ba
    replace HIN := hid (HIN.out s1)
    obtain ⟨oc, hoc⟩ : ∃ oc, P.ochk = oc := ⟨_, rfl⟩
    rw [hoc] at hch HIN
    obtain ⟨oe, oa⟩ := oc
    simp only [ChkBack] at hch
    simp only at HIN
    obtain ⟨q0, q1⟩ := hcell wa Ka
    clear hsm hsz HCH p0 p1 s1 s2 s3 hoc
    by_cases hoe : oe = 0
    · subst hoe
      replace HIN := hid (HIN.out rfl)
      go_upto_region 6 with (first
        | (go_at_call 14; (with_reducible refine hch.mono ?_); rintro r wb ⟨rfl, bb⟩)
        | (go_at_call 12; (with_reducible refine (hnum _ _).mono ?_); rintro rr ww ⟨rfl, hw'⟩; have hw2 := hw'.symm; subst hw2))
      have Bb := Ba.tr le_rfl' bb
      have Kb := Ka.tr le_rfl' bb
      clear q0 q1 hch
      go_wp2
      go_loopw [5] (fun i wr => ∃ j : Nat, j ≤ roles.length ∧ i = .int .i64 j ∧ Below wb.heap.size wb wr)
        (fun i _ => roles.length - (intOf i).toNat)
      case atStart => exact ⟨0, by omega, rfl, Below.refl _ _⟩
      case round =>
        obtain ⟨j, hj, rfl, hbw⟩ := hrel
        have Bw := Bb.tr le_rfl' hbw
        have Kw' := Kb.tr le_rfl' hbw
        obtain ⟨q0, q1⟩ := hcell wr Kw'
        have hzw := Bw.size
        by_cases hlt : j < roles.length
        · rcases h5.2.2 with h | ⟨qb, qoff, rfl, hqn, hqrow⟩
          · subst h; simp at hlt
          have hqw : qb < wr.heap.size := by omega
          have hIr := h6 _ (List.getElem_mem hlt)
          have hin := fun (W : World) (hW : Below wr.heap.size wr W) => HIN.out roles[j] (List.getElem_mem hlt) W (Bw.tr le_rfl' hW) (hIr.2.2.2.below (Bw.tr le_rfl' hW))
          have hqrow2 := hqrow.below Bw hqn
          rcases he2 : roles[j] with ⟨rname, rstar, rcount, ⟨bad, bcap, bbody⟩, rpos⟩
          obtain ⟨d0, d1, d2, d3, d4⟩ := row5 hqrow2 j hlt (by rw [he2]; rfl)
          simp only [he2, Bl.slice] at hin d3
          clear he2 hIr hqrow2 d0 d1 d2 d4
          have HK : Hid (∀ W, Below wr.heap.size wr W → W.cell? ⟨w.heap.size, 0, none⟩ = some (.slice mad mons.length mcap) ∧ W.cell? ⟨w.heap.size, 1, none⟩ = some (.slice (some ⟨qb, qoff, none⟩) roles.length rcap) ∧ W.cell? ⟨qb, qoff + j * 5 + 3, none⟩ = some (.slice bad bbody.length bcap)) := fun W hW => ⟨(hcell W (Kw'.tr le_rfl' hW)).1, (hcell W (Kw'.tr le_rfl' hW)).2, (hW.cell (p := ⟨qb, _, none⟩) hqw).trans d3⟩
          have BB := Below.drew (Below.refl wr.heap.size wr)
          go_upto_region 9 with fail
          go_cut [6, 7] (fun t6 t7 wx => ∃ yad ycap ybody, t6 = .slice yad ybody.length ycap ∧ t7 = .int .i64 0 ∧ (Bl.mk yad ycap ybody).Is wx.heap.size wx ∧ Hid ((Bl.mk yad ycap ybody).sco (ownF []) = (0, 0) ∧ (Bl.mk yad ycap ybody).subs.length ≤ 400) ∧ Below wr.heap.size wr wx)
          case first =>
            go_region_held3 (fun W => W.cell? ⟨w.heap.size, 0, none⟩ = some (.slice mad mons.length mcap) ∧ W.cell? ⟨w.heap.size, 1, none⟩ = some (.slice (some ⟨qb, qoff, none⟩) roles.length rcap) ∧ W.cell? ⟨qb, qoff + j * 5 + 3, none⟩ = some (.slice bad bbody.length bcap)) (exact HK.out _ BB)
              (first | (go_at_call 15; (with_reducible refine (hin _ BB).mono ?_); rintro r wf ⟨yad, ycap, ybody, rfl, hyI, HY, bf⟩; have BB := BB.tr le_rfl' bf))
            all_goals go_wp2
            all_goals go_meet
            all_goals exact ⟨yad, ycap, ybody, rfl, rfl, hyI, HY, BB⟩
          case rest =>
            obtain ⟨yad, ycap, ybody, rfl, rfl, hyI, HY, bz⟩ := hcut
            rename_i wq _ _
            have Bz := Bw.tr le_rfl' bz
            have hs0 := scope_any (.mk yad ycap ybody) [] none 0 _ _ (Nat.le_refl _) hyI ⟨by simp, by unfold maxLen; omega, .inl rfl⟩ (by have := HY.out.2; simp; omega)
            rw [HY.out.1] at hs0
            simp only [ScBack, Bl.slice, List.length_nil] at hs0
            clear q0 q1 hin HK BB d3
            go_wp2_with (first
              | (go_at_call 10; (with_reducible refine hs0.mono ?_); rintro r wg ⟨rfl, bg⟩)
              | (go_at_call 12; (with_reducible refine (hnum _ _).mono ?_); rintro rr ww ⟨rfl, hw'⟩; have hw2 := hw'.symm; subst hw2))
            go_roundw
            case rel => exact ⟨j + 1, by omega, by go_num, (hbw.tr le_rfl' bz).tr le_rfl' bg⟩
            case measure => simp [intOf]; omega
        · have hjd : decide ((j : Int) < (roles.length : Int)) = false := by simp; omega
          go_wp2_with (go_at_call 9; (with_reducible refine (hli _ Bw).mono ?_); rintro r wz ⟨rfl, bz⟩)
          go_ret
          exact ⟨rfl, Bw.tr le_rfl' bz⟩
    · have hob : (oe == 0) = false := by rw [beq_eq_false_iff_ne]; exact hoe
      have hob2 : (oe != 0) = true := by rw [bne, hob]; rfl
      go_wp2_with (first
        | (go_at_call 14; (with_reducible refine hch.mono ?_); rintro r wb ⟨rfl, bb⟩; have Bb := Ba.tr le_rfl' bb)
        | (go_at_call 12; (with_reducible refine (hnum _ _).mono ?_); rintro rr ww ⟨rfl, hw'⟩; have hw2 := hw'.symm; subst hw2)
        | (go_at_call 9; (with_reducible refine (hli _ Bb).mono ?_); rintro r wz ⟨rfl, bz⟩))
      go_ret
      exact ⟨rfl, Bb.tr le_rfl' bz⟩
end Go.Proofs.YtfkabkbnfeiggaaDoor
