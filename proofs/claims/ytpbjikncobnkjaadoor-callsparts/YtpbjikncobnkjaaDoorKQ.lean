/-
  CallsParts: its walk.
-/
import Derived.Test.YtpbjikncobnkjaaDoorKF
import Derived.Test.YtpbjikncobnkjaaDoorKD
import Derived.Test.YtpbjikncobnkjaaDoorNxLs
import Derived.Deep.DeepCutAuto
namespace Go.Proofs.YtpbjikncobnkjaaDoor
open Go.RowKit
/-- Each stands behind those that it calls. -/
def Ord (G : Ref → List Ref) (A : List Ref) : Prop := ∀ (i : Nat) (h : i < A.length), ∀ y ∈ G A[i], y ∈ A.take i
theorem Ord.snoc {G : Ref → List Ref} {A : List Ref} (h : Ord G A) {r : Ref} (hr : ∀ y ∈ G r, y ∈ A) : Ord G (A ++ [r]) := by
  intro i hi y hy
  rw [List.length_append, List.length_singleton] at hi
  by_cases hlt : i < A.length
  · rw [List.getElem_append_left hlt] at hy
    rw [List.take_append_of_le_length (by omega)]
    exact h i hlt y hy
  · have hi2 : i = A.length := by omega
    subst hi2
    rw [List.getElem_append_right (by omega)] at hy
    simp at hy
    rw [List.take_left]
    exact hr y hy
theorem dfs_ord {G : Ref → List Ref} {U : List Ref} {D : Ref → Prop} {rk : Ref → Nat} (hUc : ∀ r ∈ U, ∀ x ∈ G r, x ∈ U) (hU : ∀ r, D r → r ∈ U ∧ ∀ x ∈ G r, D x ∧ rk x < rk r) (n : Nat) : ∀ (st : List Ref × List Ref) (r : Ref), D r → left U st.1 ≤ n → Ord G st.2 → (∀ x ∈ st.1, x ∈ st.2 ∨ rk r < rk x) → Ord G (dfs G n st r).2 := by
  induction n with
  | zero => intro st r _ _ h _; exact h
  | succ n ih =>
    rintro ⟨S, A⟩ r hr hl ho hp
    by_cases hm : r ∈ S
    · rw [dfs_seen hm]; exact ho
    · rw [dfs_new hm]
      have hl2 := left_snoc (hU r hr).1 hm
      simp only at hl ho hp
      have hf : ∀ (l : List Ref), (∀ x ∈ l, D x ∧ rk x < rk r) → ∀ st : List Ref × List Ref, left U st.1 ≤ n → Ord G st.2 → (∀ x ∈ st.1, x ∈ st.2 ∨ rk r ≤ rk x) →
          Ord G (l.foldl (dfs G n) st).2 ∧ (∀ x ∈ (l.foldl (dfs G n) st).1, x ∈ (l.foldl (dfs G n) st).2 ∨ rk r ≤ rk x) ∧ ∀ x ∈ l, x ∈ (l.foldl (dfs G n) st).1 := by
        intro l
        induction l with
        | nil => intro _ st _ h1 h2; exact ⟨h1, h2, fun x hx => by cases hx⟩
        | cons y l ihl =>
          intro hl st hs h1 h2
          obtain ⟨hy1, hy2⟩ := hl y (by simp)
          have hd := dfs_done hUc n st y (hU y hy1).1 hs
          have ho := ih st y hy1 hs h1 (fun x hx => by
            rcases h2 x hx with h | h
            · exact .inl h
            · exact .inr (by omega))
          have hlm := left_mono (U := U) (dfs_mono G n st y)
          obtain ⟨g1, g2, g3⟩ := ihl (fun z hz => hl z (by simp [hz])) (dfs G n st y) (by omega) ho (fun x hx => by
            rcases hd.2 x hx with h | h
            · rcases h2 x h with h | h
              · exact .inl (dfs_mono2 G n st y x h)
              · exact .inr h
            · exact .inl h)
          refine ⟨g1, g2, fun x hx => ?_⟩
          rcases List.mem_cons.1 hx with rfl | hx
          · exact fold_dfs_mono G n l _ x hd.1
          · exact g3 x hx
      obtain ⟨g1, g2, g3⟩ := hf (G r) (hU r hr).2 (S ++ [r], A) (by show left U (S ++ [r]) ≤ n; omega) ho (fun x hx => by
        rcases List.mem_append.1 hx with h | h
        · rcases hp x h with h | h
          · exact .inl h
          · exact .inr (by omega)
        · rw [List.mem_singleton.1 h]; exact .inr (Nat.le_refl _))
      refine g1.snoc fun y hy => ?_
      rcases g2 y (g3 y hy) with h | h
      · exact h
      · have := ((hU r hr).2 y hy).2; omega
theorem reached_ord {p : Pr} {l : List Ref} {D : Ref → Prop} {rk : Ref → Nat} (hC : ∀ r, D r → ∀ x ∈ leadsOf p r, D x ∧ rk x < rk r) (hl : ∀ x ∈ l, D x) : Ord (leadsOf p) (reachedOf p l) := by
  have hU := closedU p l
  have hD : ∀ r, (D r ∧ r ∈ l ++ allRefs p) → r ∈ l ++ allRefs p ∧ ∀ x ∈ leadsOf p r, (D x ∧ x ∈ l ++ allRefs p) ∧ rk x < rk r := fun r hr => ⟨hr.2, fun x hx => ⟨⟨(hC r hr.1 x hx).1, hU r hr.2 x hx⟩, (hC r hr.1 x hx).2⟩⟩
  have key : ∀ (m : List Ref), (∀ x ∈ m, D x ∧ x ∈ l ++ allRefs p) → ∀ st : List Ref × List Ref, left (l ++ allRefs p) st.1 ≤ l.length + (allRefs p).length → (∀ x ∈ st.1, x ∈ st.2) → Ord (leadsOf p) st.2 → Ord (leadsOf p) (m.foldl (dfs (leadsOf p) (l.length + (allRefs p).length)) st).2 := by
    intro m
    induction m with
    | nil => intro _ st _ _ h; exact h
    | cons y m ih =>
      intro hm st hs h ho
      have h1 := dfs_done hU _ st y (hm y (by simp)).2 hs
      have h2 := left_mono (U := l ++ allRefs p) (dfs_mono (leadsOf p) (l.length + (allRefs p).length) st y)
      exact ih (fun x hx => hm x (by simp [hx])) (dfs (leadsOf p) (l.length + (allRefs p).length) st y) (by omega) (fun x hx => by
        rcases h1.2 x hx with h5 | h5
        · exact dfs_mono2 _ _ _ _ x (h x h5)
        · exact h5) (dfs_ord hU hD _ st y (hm y (by simp)) hs ho fun x hx => .inl (h x hx))
  have h2 : left (l ++ allRefs p) [] ≤ l.length + (allRefs p).length := Nat.le_trans (List.length_filter_le _ _) (by simp)
  exact key l (fun x hx => ⟨hl x hx, List.mem_append.2 (.inl hx)⟩) ([], []) h2 (fun x hx => by cases hx) (fun i h => by simp at h)
theorem reached_min {p : Pr} {l C : List Ref} (hC : ∀ r ∈ C, ∀ x ∈ leadsOf p r, x ∈ C) (hl : ∀ x ∈ l, x ∈ C) : ∀ x ∈ reachedOf p l, x ∈ C :=
  fold_dfs_sub hC _ l hl ([], []) (fun x hx => by cases hx)
theorem sizesF_ord {body : Ref → Bl} : ∀ (R : List Ref) (Z : List (Ref × Nat)), (∀ x ∈ Z.map Prod.fst, szGet Z x ≠ 0) → (Z.map Prod.fst ++ R).Nodup → (∀ (i : Nat) (h : i < R.length), ∀ y ∈ callsOf (body R[i]), y ∈ Z.map Prod.fst ++ R.take i) → ∃ Z', sizesF (fun r => callsOf (body r)) body R Z = some Z' := by
  intro R
  induction R with
  | nil => intro Z _ _ _; exact ⟨Z, rfl⟩
  | cons r R ih =>
    intro Z hz hn ho
    have h0 : ¬ ∃ x ∈ callsOf (body r), szGet Z x = 0 := by
      rintro ⟨x, hx, h⟩
      have := ho 0 (by simp) x hx
      simp only [List.take_zero, List.append_nil] at this
      exact hz x this h
    have hrn : r ∉ Z.map Prod.fst := by
      intro hm
      exact (List.nodup_append.1 hn).2.2 r hm r (by simp) rfl
    rw [sizesF, if_neg h0]
    refine ih _ (fun x hx => ?_) (by simpa using hn) (fun i hi y hy => ?_)
    · by_cases hxz : x ∈ Z.map Prod.fst
      · rw [szGet_app hxz]; exact hz x hxz
      · have hxr : x = r := by
          rw [List.map_append] at hx
          rcases List.mem_append.1 hx with h | h
          · exact absurd h hxz
          · simpa using h
        subst hxr
        have := szGet_new (E := []) (v := 1 + min 401 (tot Z (body x))) hrn
        rw [List.append_nil] at this
        rw [this]; omega
    · have := ho (i + 1) (by simpa using hi) y hy
      simpa [or_assoc] using this
theorem cnt_closed {p : Pr} {x : Bl} {C : List Ref} {rk : Ref → Nat} (hC : ∀ r ∈ C, ∀ y ∈ leadsOf p r, y ∈ C ∧ rk y < rk r) (hroot : ∀ r ∈ callsOf x, r ∈ C) (hk : ∀ r ∈ C, methIx p.mons r.1 r.2 ≠ none) :
    ∃ Z, Good p x (reachedOf p (callsOf x)) Z ∧ cntOf p x = if 400 < min 401 (tot Z x) then (0, 81) else (min 401 (tot Z x), 0) := by
  have hmin := reached_min (fun r hr y hy => (hC r hr y hy).1) hroot
  have hord := reached_ord (D := fun r => r ∈ C) hC hroot
  have hnd := reached_nodup p (callsOf x)
  have hkn : ¬ ∃ r ∈ reachedOf p (callsOf x), methIx p.mons r.1 r.2 = none := fun ⟨r, hr, h⟩ => hk r (hmin r hr) h
  obtain ⟨Z, hz⟩ := sizesF_ord (body := bodyOf p) (reachedOf p (callsOf x)) [] (fun x hx => by cases hx) (by simpa using hnd) (fun i hi y hy => by simpa using hord i hi y hy)
  obtain ⟨-, g2, g3, g4⟩ := sizesF_some (body := bodyOf p) _ _ _ hz (by simpa using hnd)
  refine ⟨Z, ⟨reached_has p _, hnd, fun r hr y hy => ?_, g4, fun r hr => hk r (hmin r hr)⟩, ?_⟩
  · obtain ⟨i, hi, rfl⟩ := List.getElem_of_mem hr
    have h2 := hord i hi y hy
    obtain ⟨k, hk2, rfl⟩ := List.getElem_of_mem h2
    rw [List.length_take] at hk2
    rw [List.getElem_take]
    exact ⟨List.getElem_mem _, by rw [rkOf_at hnd, rkOf_at hnd hi]; omega⟩
  · rw [cntOf_eq, if_neg hkn]
    show cntRes _ (sizesF (fun r => callsOf (bodyOf p r)) (bodyOf p) (reachedOf p (callsOf x)) []) = _
    rw [hz]; rfl
theorem size_uniq {p : Pr} {x x' : Bl} {R R' : List Ref} {Z Z' : List (Ref × Nat)} (h : Good p x R Z) (h' : Good p x' R' Z') : ∀ (n : Nat) (r : Ref), r ∈ R → r ∈ R' → rkOf R r < n → szGet Z r = szGet Z' r := by
  intro n
  induction n with
  | zero => intro r _ _ hn; omega
  | succ n ih =>
    intro r hr hr' hn
    rw [h.size r hr, h'.size r hr']
    congr 2
    unfold tot
    refine sumOf_congr fun t ht hk => ?_
    have ht2 : t.ref ∈ leadsOf p r := (callsOf_mem _ _).2 ⟨t, ht, hk, rfl⟩
    have := h.leads r hr _ ht2
    exact ih _ this.1 (h'.leads r hr' _ ht2).1 (by omega)
theorem tot_uniq {p : Pr} {x x' : Bl} {R R' : List Ref} {Z Z' : List (Ref × Nat)} (h : Good p x R Z) (h' : Good p x' R' Z') (y : Bl) (hy : ∀ r ∈ callsOf y, r ∈ R ∧ r ∈ R') : tot Z y = tot Z' y := by
  unfold tot
  refine sumOf_congr fun t ht hk => ?_
  have := hy t.ref ((callsOf_mem _ _).2 ⟨t, ht, hk, rfl⟩)
  exact size_uniq h h' _ _ this.1 this.2 (Nat.lt_succ_self _)
theorem inl_congr {f g : Ref → Bl} (x : Bl) : (∀ s ∈ x.subs, s.kind = 8 → f s.ref = g s.ref) → x.inl f = x.inl g :=
  Bl.ind (P := fun s => (∀ t ∈ s.subs, t.kind = 8 → f t.ref = g t.ref) → s.inl f = s.inl g) (Q := fun b => (∀ t ∈ b.subs, t.kind = 8 → f t.ref = g t.ref) → b.inl f = b.inl g)
    (fun kind mon name n e ad cap blocks pos ih h => by
      by_cases hk : kind = 8
      · subst hk
        rw [St.inl_call, St.inl_call]
        have := h _ (subs_self _) rfl
        rw [show f (mon, name) = g (mon, name) from this]
      · rw [St.inl_other f kind hk, St.inl_other g kind hk]
        congr 1
        refine List.map_congr_left fun b hb => ih b hb fun t ht => h t ?_
        exact subs_block (s := St.mk kind mon name n e ad cap blocks pos) hb t ht)
    (fun ad cap body ih h => by
      rw [Bl.inl_mk, Bl.inl_mk]
      congr 1
      refine List.map_congr_left fun s hs => ih s hs fun t ht => h t ?_
      rw [Bl.subs_mk]
      exact List.mem_flatMap.2 ⟨s, hs, ht⟩) x
theorem inlR_uniq {p : Pr} {x x' : Bl} {R R' : List Ref} {Z Z' : List (Ref × Nat)} (h : Good p x R Z) (h' : Good p x' R' Z') : ∀ (n m : Nat) (r : Ref), r ∈ R → r ∈ R' → rkOf R r < n → rkOf R' r < m → inlR p n r = inlR p m r := by
  intro n
  induction n with
  | zero => intro m r _ _ hn; omega
  | succ n ih =>
    intro m r hr hr' hn hm
    cases m with
    | zero => omega
    | succ m =>
      show (bodyOf p r).inl _ = (bodyOf p r).inl _
      refine inl_congr _ fun t ht hk => ?_
      have ht2 : t.ref ∈ leadsOf p r := (callsOf_mem _ _).2 ⟨t, ht, hk, rfl⟩
      have h1 := h.leads r hr _ ht2
      have h2 := h'.leads r hr' _ ht2
      exact ih m _ h1.1 h2.1 (by omega) (by omega)
/-- One behind the other. -/
theorem cat_subs {x y z : Bl} (hz : z.body = x.body ++ y.body) : z.subs = x.subs ++ y.subs := by
  rcases x with ⟨a1, c1, b1⟩
  rcases y with ⟨a2, c2, b2⟩
  rcases z with ⟨a3, c3, b3⟩
  have hz : b3 = b1 ++ b2 := hz
  rw [Bl.subs_mk, Bl.subs_mk, Bl.subs_mk, hz, List.flatMap_append]
theorem cat_calls {x y z : Bl} (hz : z.body = x.body ++ y.body) (r : Ref) : r ∈ callsOf z ↔ r ∈ callsOf x ∨ r ∈ callsOf y := by
  rw [callsOf_mem, callsOf_mem, callsOf_mem, cat_subs hz]
  constructor
  · rintro ⟨s, hs, h⟩
    rcases List.mem_append.1 hs with hs | hs
    · exact .inl ⟨s, hs, h⟩
    · exact .inr ⟨s, hs, h⟩
  · rintro (⟨s, hs, h⟩ | ⟨s, hs, h⟩)
    · exact ⟨s, List.mem_append.2 (.inl hs), h⟩
    · exact ⟨s, List.mem_append.2 (.inr hs), h⟩
theorem cat_tot {x y z : Bl} (hz : z.body = x.body ++ y.body) (Z : List (Ref × Nat)) : tot Z z = tot Z x + tot Z y := by
  unfold tot; rw [cat_subs hz, sumOf_append]
theorem cat_ok {x y z : Bl} (hz : z.body = x.body ++ y.body) : z.okB = (x.okB && y.okB) := by
  unfold Bl.okB; rw [cat_subs hz, List.all_append]
theorem cnt_small {p : Pr} {x : Bl} {Z : List (Ref × Nat)} (h : cntOf p x = if 400 < min 401 (tot Z x) then (0, 81) else (min 401 (tot Z x), 0)) (ht : tot Z x ≤ 400) : (cntOf p x).2 = 0 := by
  rw [h, if_neg (by omega)]
theorem part_zero {p : Pr} {x z : Bl} {n : Nat} (hpk : p.ok = true) (hxk : x.okB = true) (hc : cntOf p z = (n, 0)) (hx : ∀ r ∈ callsOf x, r ∈ callsOf z) (ht : ∀ Z, tot Z x ≤ tot Z z) : (countOf p x).2 = 0 ∧ x.inl (inlR p (reachedOf p (callsOf x)).length) = x.inl (inlR p (reachedOf p (callsOf z)).length) := by
  obtain ⟨Z, hg, h1, h2⟩ := good_of hc
  obtain ⟨Z', hg', h3⟩ := cnt_closed hg.leads (fun r hr => hg.root r (hx r hr)) hg.known
  have hsub := reached_min (fun r hr y hy => (hg.leads r hr y hy).1) (fun r hr => hg.root r (hx r hr))
  have h4 := tot_uniq hg' hg x (fun r hr => ⟨hg'.root r hr, hg.root r (hx r hr)⟩)
  have h5 := ht Z
  refine ⟨?_, ?_⟩
  · unfold countOf
    rw [hpk, hxk]
    simp only [Bool.and_self, if_true]
    exact cnt_small h3 (by omega)
  · refine inl_congr x fun s hs hk => ?_
    have h6 : s.ref ∈ callsOf x := (callsOf_mem _ _).2 ⟨s, hs, hk, rfl⟩
    have h7 := hg'.root _ h6
    have h8 := hg.root _ (hx _ h6)
    exact inlR_uniq hg' hg _ _ _ h7 h8 (rkOf_lt h7) (rkOf_lt h8)
theorem parts_ok {p : Pr} {x y z : Bl} (hz : z.body = x.body ++ y.body) (h : (countOf p z).2 = 0) :
    (countOf p x).2 = 0 ∧ (countOf p y).2 = 0 ∧ ∀ a b c d : Bl, a.clr = x.inl (inlR p (reachedOf p (callsOf x)).length) → b.clr = y.inl (inlR p (reachedOf p (callsOf y)).length) → c.clr = z.inl (inlR p (reachedOf p (callsOf z)).length) → d.body = a.body ++ b.body → c.same d = true := by
  obtain ⟨hpk, hzk, hc⟩ := countOf_ok (n := (countOf p z).1) (e := (countOf p z).2) rfl h
  rw [cat_ok hz] at hzk
  obtain ⟨hxk, hyk⟩ := Bool.and_eq_true_iff.1 hzk
  obtain ⟨hx1, hx2⟩ := part_zero hpk hxk hc (fun r hr => (cat_calls hz r).2 (.inl hr)) (fun Z => by rw [cat_tot hz]; omega)
  obtain ⟨hy1, hy2⟩ := part_zero hpk hyk hc (fun r hr => (cat_calls hz r).2 (.inr hr)) (fun Z => by rw [cat_tot hz]; omega)
  refine ⟨hx1, hy1, fun a b c d ha hb hc hd => same_of_clr c d ?_⟩
  rw [hx2] at ha
  rw [hy2] at hb
  rw [hc]
  generalize inlR p (reachedOf p (callsOf z)).length = f at ha hb ⊢
  rcases x with ⟨a1, c1, b1⟩
  rcases y with ⟨a2, c2, b2⟩
  rcases z with ⟨a3, c3, b3⟩
  rcases a with ⟨a4, c4, b4⟩
  rcases b with ⟨a5, c5, b5⟩
  rcases d with ⟨a6, c6, b6⟩
  have hz : b3 = b1 ++ b2 := hz
  have hd : b6 = b4 ++ b5 := hd
  rw [Bl.clr_mk, Bl.inl_mk] at ha hb
  injection ha with _ _ ha
  injection hb with _ _ hb
  rw [Bl.inl_mk, Bl.clr_mk, hz, hd, List.map_append, List.map_append, ha, hb]
theorem parts_big {p : Pr} {x y z : Bl} (hz : z.body = x.body ++ y.body) (hx : (countOf p x).2 = 0) (hy : (countOf p y).2 = 0) : (countOf p z).2 = 0 ∨ (countOf p z).2 = 81 := by
  obtain ⟨hpk, hxk, hcx⟩ := countOf_ok (n := (countOf p x).1) (e := (countOf p x).2) rfl hx
  obtain ⟨-, hyk, hcy⟩ := countOf_ok (n := (countOf p y).1) (e := (countOf p y).2) rfl hy
  obtain ⟨Zx, hgx, -, -⟩ := good_of hcx
  obtain ⟨Zy, hgy, -, -⟩ := good_of hcy
  generalize reachedOf p (callsOf x) = Rx at hgx
  generalize reachedOf p (callsOf y) = Ry at hgy
  obtain ⟨Z, hg, h3⟩ := cnt_closed (p := p) (x := z) (C := Rx ++ Ry) (rk := fun r => if r ∈ Rx then rkOf Rx r else Rx.length + rkOf Ry r) (fun r hr s hs => by
    by_cases h1 : r ∈ Rx
    · have h2 := hgx.leads r h1 s hs
      refine ⟨List.mem_append.2 (.inl h2.1), ?_⟩
      simp only [h1, h2.1, if_true]; exact h2.2
    · have h4 : r ∈ Ry := by
        rcases List.mem_append.1 hr with h | h
        · exact absurd h h1
        · exact h
      have h2 := hgy.leads r h4 s hs
      refine ⟨List.mem_append.2 (.inr h2.1), ?_⟩
      by_cases h5 : s ∈ Rx
      · have := rkOf_lt h5
        simp only [h1, h5, if_true, if_false]; omega
      · simp only [h1, h5, if_false]; omega) (fun r hr => by
    rcases (cat_calls hz r).1 hr with h | h
    · exact List.mem_append.2 (.inl (hgx.root r h))
    · exact List.mem_append.2 (.inr (hgy.root r h))) (fun r hr => by
    rcases List.mem_append.1 hr with h | h
    · exact hgx.known r h
    · exact hgy.known r h)
  unfold countOf
  rw [hpk, cat_ok hz, hxk, hyk]
  simp only [Bool.and_self, if_true]
  rw [h3]
  split
  · exact .inr rfl
  · exact .inl rfl
end Go.Proofs.YtpbjikncobnkjaaDoor
namespace Go.Proofs.YtpbjikncobnkjaaDoor
open Go.RowKit
theorem countOf_adr (p : Pr) (ad ad' : Option Addr) (cap cap' : Nat) (body : List St) : countOf p (.mk ad cap body) = countOf p (.mk ad' cap' body) := by
  simp only [countOf, cntOf, callsOf, Bl.okB, tot, Bl.subs_mk]
theorem countOf_err (p : Pr) (x : Bl) : 0 ≤ (countOf p x).2 ∧ (countOf p x).2 ≤ 81 := by
  unfold countOf
  split
  · rw [cntOf_eq]
    split
    · decide
    · cases sizesF (leadsOf p) (bodyOf p) (reachedOf p (callsOf x)) [] with
      | none => show (0 : Int) ≤ 80 ∧ (80 : Int) ≤ 81; decide
      | some Z =>
        show 0 ≤ (if 400 < min 401 (tot Z x) then ((0, 81) : Nat × Int) else (min 401 (tot Z x), 0)).2 ∧ (if 400 < min 401 (tot Z x) then ((0, 81) : Nat × Int) else (min 401 (tot Z x), 0)).2 ≤ 81
        split <;> simp
  · decide
/-- An append of a whole slice at an operation that is wanted, whatever its guard. -/
theorem wpList_append_slG {P : Program} {w : World} {α : Type} {cells : α → List Value} {ops : Array Go.Oper} {rest : List Go.Oper} {o : Go.Oper} {a : Act} {Q : Exit → Act → World → Prop} (hgd : Region.wanted o (yielded ops a.tmps) = true) (s x : Operand) (t : TypeId)
    (ho : o.op = .call { callee := .builtin .append, args := #[s, x], argTypes := #[t, t] })
    (base : Nat) (e : TypeId) (i : TypeInfo) (z : Value) (size bytes : Nat) (ht : P.underlying t = some (.slice e)) (hi : P.info? e = some i) (hz : i.zero = some z)
    (hsize : i.size = size) (hby : i.bytes = bytes) (hzs : z.cells.size = size) (hsz : 0 < size) (hlen : ∀ x, (cells x).length = size) (hone : ∀ x, ∀ u ∈ cells x, u.oneCell' = true)
    (v : Value) (l : List α) (hs : a.eval s = v) (hown : w.ownsRow base e size v l.length (l.flatMap cells)) (ad : Option Addr) (c : Nat) (r : List α) (n₀ : Nat) (hx : a.eval x = .slice ad r.length c) (hsl : SlAt size cells n₀ w ad c r)
    (h63 : l.length + r.length ≤ maxLen) (hbytes : (l.length + r.length) * bytes ≤ 140737488355328) (hbase : base ≤ w.heap.size)
    (h : ∀ v' w', w'.ownsRow base e size v' (l ++ r).length ((l ++ r).flatMap cells) → w.grownBy w' v.ownBlock → wpList P ops Q rest (a.put o.dst v') w') : wpList P ops Q (o :: rest) a w := by
  obtain ⟨v', w', hr, h2, h3, -⟩ := run_append_sl (P := P) w base t o.type e i z size bytes ht hi hz hsize hby hzs hsz hlen hone v l hown ad c r n₀ hsl h63 hbytes hbase
  refine wpList_step fun K hK => ?_
  rw [if_pos hgd]
  unfold Go.Oper.wp execOp
  simp only [ho, resolve, invoke, builtin, Sem.run_bind, Sem.run_pure, Result.andThen_ok, List.map_toArray, List.map_cons, List.map_nil, hs, hx, hr]
  exact hK _ _ (h v' w' h2 h3)
/-- What Inline gives, error or not. -/
def InAny (p : Pr) (x : Bl) (e : Int) (w w' : World) (r : Ending) : Prop :=
  ∃ ad cap body, r = .returned (.tuple #[.slice ad body.length cap, .int .i64 e]) ∧ (Bl.mk ad cap body).Is w'.heap.size w' ∧ Hid (body.length ≤ 400) ∧ Hid (e = 0 → (Bl.mk ad cap body).clr = x.inl (inlR p (reachedOf p (callsOf x)).length)) ∧ Below w.heap.size w w'
theorem InlineBack.any {p : Pr} {x : Bl} {w w' : World} {r : Ending} (h : InlineBack p x w w' r) : InAny p x (countOf p x).2 w w' r := by
  obtain ⟨⟨h1, h2⟩ | ⟨h1, ad, cap, body, h2, h3, h4⟩, hb⟩ := h
  · exact ⟨none, 0, [], h2, Bl.Is.up ⟨⟨by simp, by unfold maxLen; simp, .inl rfl⟩, fun x hx => by cases hx⟩, by show _ ≤ _; simp, fun h => absurd h h1, hb⟩
  · refine ⟨ad, cap, body, by rw [h1]; exact h2, h3, ?_, fun _ => h4, hb⟩
    have h5 := inlined (p := p) (x := x) (y := .mk ad cap body) (n := (countOf p x).1) (by rw [← h1]) h4
    have h6 := body_le_subs (.mk ad cap body)
    show body.length ≤ 400
    have h7 : (Bl.mk ad cap body).body.length = body.length := rfl
    omega
theorem cat_is {w W : World} {ad1 ad2 ad : Option Addr} {c1 c2 c : Nat} {l1 l2 : List St} {n1 n2 : Nat} (h1 : (Bl.mk ad1 c1 l1).Is n1 w) (h2 : (Bl.mk ad2 c2 l2).Is n2 w) (hn1 : n1 ≤ w.heap.size) (hn2 : n2 ≤ w.heap.size) (hB : Below w.heap.size w W) (hs : SlAt 12 St.cells W.heap.size W ad c (l1 ++ l2)) : (Bl.mk ad c (l1 ++ l2)).Is W.heap.size W := by
  refine Bl.Is.up ⟨hs, fun s hs => ?_⟩
  rcases List.mem_append.1 hs with h | h
  · exact ((h1.down.2 s h).below (hB.mono hn1)).mono2 (Nat.le_trans hn1 hB.size)
  · exact ((h2.down.2 s h).below (hB.mono hn2)).mono2 (Nat.le_trans hn2 hB.size)
set_option maxRecDepth 100000 in
set_option maxHeartbeats 16000000 in
theorem parts_walk (p : Pr) (x y : Bl) (w : World) (hS : Shapes w) (hp : p.Is w.heap.size w) (hx : x.Is w.heap.size w) (hy : y.Is w.heap.size w) : Calls Tryd.prog 4 #[p.val, x.slice, y.slice] w fun r w' => r = .returned (.bool true) ∧ Below w.heap.size w w' := by
  obtain ⟨i0, hi0, iz0, iz1, iz2⟩ := info_parts info56
  have hS3 := hS.size
  have hsm := fun (W : World) (hW : Below w.heap.size w W) => small_any w.heap.size p W hW.size (hp.below hW)
  have hrx := fun (W : World) (hW : Below w.heap.size w W) => rest_any w.heap.size x 300 W (by omega) (by omega) hW.size (hx.below hW)
  have hry := fun (W : World) (hW : Below w.heap.size w W) => rest_any w.heap.size y 300 W (by omega) (by omega) hW.size (hy.below hW)
  have hli := fun (W : World) (hW : Below w.heap.size w W) => live_any W (hS.below hW hS3) (by have := hW.size; omega)
  have hin : p.size ≤ 400 → ∀ (z : Bl) (n : Nat) (W : World), z.subs.length ≤ 1000 → n ≤ W.heap.size → w.heap.size ≤ n → Below w.heap.size w W → z.Is n W → Calls Tryd.prog 10 #[p.val, z.slice] W fun r w' => InAny p z (countOf p z).2 W w' r :=
    fun h1 z n W hz hnW hwn hW hzI => (Inline_any p z n W hnW ((hp.below hW).mono hwn) hzI (hS.below hW hS3) (by have := hW.size; omega) (fine_small h1) (by omega)).mono fun r w' h => h.any
  have hnum := num_any
  have HSX : Hid ((x.sz : Int) ≤ 300 → x.subs.length ≤ 300) := fun h2 => by have := len_le_sz x.subs; unfold Bl.sz at h2; omega
  have HSY : Hid ((y.sz : Int) ≤ 300 → y.subs.length ≤ 300) := fun h2 => by have := len_le_sz y.subs; unfold Bl.sz at h2; omega
  obtain ⟨P, hP⟩ : ∃ P : Pr, P = p := ⟨_, rfl⟩
  rcases p with ⟨mad, mcap, mons, rad, rcap, roles⟩
  rcases x with ⟨xad, xcap, xbody⟩
  rcases y with ⟨yad, ycap, ybody⟩
  rw [← hP] at hsm hin
  have hPv : P.val = .agg #[.slice mad mons.length mcap, .slice rad roles.length rcap] := by rw [hP]; rfl
  simp only [hPv, Bl.slice] at hsm hrx hry hin
  clear hP hPv hp
  simp only [Pr.val, Bl.slice]
  have hB := (Below.refl w.heap.size w).al le_rfl' (.cells #[.slice mad mons.length mcap, .slice rad roles.length rcap] 25)
  have b1 := heapNew w (.cells #[.slice mad mons.length mcap, .slice rad roles.length rcap] 25)
  have hcell : ∀ W, Below (w.heap.size + 1) (w.alloc (.cells #[.slice mad mons.length mcap, .slice rad roles.length rcap] 25)) W → W.cell? ⟨w.heap.size, 0, none⟩ = some (.slice mad mons.length mcap) ∧ W.cell? ⟨w.heap.size, 1, none⟩ = some (.slice rad roles.length rcap) := by
    intro W hW
    refine ⟨(hW.cell (p := ⟨w.heap.size, 0, none⟩) (by show w.heap.size < _; omega)).trans ?_, (hW.cell (p := ⟨w.heap.size, 1, none⟩) (by show w.heap.size < _; omega)).trans ?_⟩
    · rw [cellOf b1]; rfl
    · rw [cellOf b1]; rfl
  go_enter Tryd.func4, Tryd.ntmps4
  go_upto_region 1 with fail
  obtain ⟨W0, hW0⟩ : ∃ W0, w.alloc (.cells #[.slice mad mons.length mcap, .slice rad roles.length rcap] 25) = W0 := ⟨_, rfl⟩
  have hz0 : W0.heap.size = w.heap.size + 1 := by rw [← hW0]; simp
  rw [hW0] at hB hcell ⊢
  rw [← hz0] at hcell
  have HZ0 := hid hz0
  clear hW0 b1 hz0
  obtain ⟨p0, p1⟩ := hcell W0 (Below.refl _ _)
  go_upto_if 18 with (first
    | (go_at_call 6; (with_reducible refine (hsm _ hB).mono ?_); rintro r wa ⟨c, rfl, hsz, ba⟩; have Ba := hB.tr le_rfl' ba; have Ka := (Below.refl W0.heap.size W0).trans ba; cases c)
    | (have M := Kb; go_at_call 7; (with_reducible refine (hry _ Bb).mono ?_); rintro r wc ⟨c3, rfl, hd1, hd2, Hd3, bc⟩; have Bc := Bb.tr le_rfl' bc; have Kc := Kb.tr le_rfl' bc; rcases Int.lt_or_le c3 0 with hd0 | hd0)
    | (go_at_call 7; (with_reducible refine (hrx _ Ba).mono ?_); rintro r wb ⟨c2, rfl, hc1, hc2, Hc3, bb⟩; have Bb := Ba.tr le_rfl' bb; have Kb := Ka.tr le_rfl' bb; rcases Int.lt_or_le c2 0 with hc0 | hc0))
  · go_wp2_with (go_at_call 8; (with_reducible refine (hli _ Ba).mono ?_); rintro r wz ⟨rfl, bz⟩)
    go_ret
    exact ⟨rfl, Ba.tr le_rfl' bz⟩
  · go_wp2_with (go_at_call 8; (with_reducible refine (hli _ Bb).mono ?_); rintro r wz ⟨rfl, bz⟩)
    go_ret
    exact ⟨rfl, Bb.tr le_rfl' bz⟩
  · go_wp2_with (go_at_call 8; (with_reducible refine (hli _ Bc).mono ?_); rintro r wz ⟨rfl, bz⟩)
    go_ret
    exact ⟨rfl, Bc.tr le_rfl' bz⟩
  · have hnc : ¬ c2 < 0 := by omega
    have hnd : ¬ c3 < 0 := by omega
    have hps : P.size ≤ 400 := (hsz trivial).1
    have hxs := HSX.out (by have := Hc3.out hc0; omega)
    have hys := HSY.out (by have := Hd3.out hd0; omega)
    have hin := hin hps
    obtain ⟨q0, q1⟩ := hcell wc Kc
    clear hsm hrx hry hsz Hc3 Hd3 hc1 hc2 hd1 hd2 hps p0 p1 HSX HSY
    have hix := fun (W : World) (hW : Below w.heap.size w W) => hin (.mk xad xcap xbody) w.heap.size W (by omega) hW.size (Nat.le_refl _) hW (hx.below hW)
    have hiy := fun (W : World) (hW : Below w.heap.size w W) => hin (.mk yad ycap ybody) w.heap.size W (by omega) hW.size (Nat.le_refl _) hW (hy.below hW)
    have HIZ : Hid (∀ (zad : Option Addr) (zcap n : Nat) (W : World), n ≤ W.heap.size → w.heap.size ≤ n → Below w.heap.size w W → (Bl.mk zad zcap (xbody ++ ybody)).Is n W → Calls Tryd.prog 10 #[.agg #[.slice mad mons.length mcap, .slice rad roles.length rcap], .slice zad (xbody.length + ybody.length) zcap] W fun r w' => InAny P (.mk zad zcap (xbody ++ ybody)) (countOf P (.mk none 0 (xbody ++ ybody))).2 W w' r) := fun zad zcap n W h1 h2 h3 h4 => by
      have h := hin (.mk zad zcap (xbody ++ ybody)) n W (by rw [cat_subs (x := .mk xad xcap xbody) (y := .mk yad ycap ybody) (z := .mk zad zcap (xbody ++ ybody)) rfl, List.length_append]; omega) h1 h2 h3 h4
      rw [countOf_adr P zad none zcap 0] at h
      simp only [List.length_append] at h
      exact h
    have HOK := fun (zad : Option Addr) (zcap : Nat) => parts_ok (p := P) (x := .mk xad xcap xbody) (y := .mk yad ycap ybody) (z := .mk zad zcap (xbody ++ ybody)) rfl
    simp only [countOf_adr P _ none _ 0 (xbody ++ ybody)] at HOK
    have HBG := parts_big (p := P) (x := .mk xad xcap xbody) (y := .mk yad ycap ybody) (z := .mk none 0 (xbody ++ ybody)) rfl
    obtain ⟨hex0, hex1⟩ := countOf_err P (.mk xad xcap xbody)
    obtain ⟨hey0, hey1⟩ := countOf_err P (.mk yad ycap ybody)
    have hxl := body_le_subs (.mk xad xcap xbody)
    have hyl := body_le_subs (.mk yad ycap ybody)
    have hxl : xbody.length ≤ 300 := Nat.le_trans hxl hxs
    have hyl : ybody.length ≤ 300 := Nat.le_trans hyl hys
    obtain ⟨ex, hex⟩ : ∃ e, (countOf P (.mk xad xcap xbody)).2 = e := ⟨_, rfl⟩
    obtain ⟨ey, hey⟩ : ∃ e, (countOf P (.mk yad ycap ybody)).2 = e := ⟨_, rfl⟩
    obtain ⟨ez, hez⟩ : ∃ e, (countOf P (.mk none 0 (xbody ++ ybody))).2 = e := ⟨_, rfl⟩
    simp only [hex, hey, hez] at hex0 hex1 hey0 hey1 hix hiy HIZ HOK HBG
    have HOK := hid HOK
    have HBG := hid HBG
    clear hin hex hey hez hxs hys
    simp only [InAny] at hix hiy
    go_upto_region 5 with (first
      | (have M := Kd; go_at_call 10; (with_reducible refine (hiy _ Bd).mono ?_); rintro r we ⟨bad, bcap, bbody, rfl, hbI, HBl, HBc, be⟩; have Be := Bd.tr le_rfl' be; have Ke := Kd.tr le_rfl' be; obtain ⟨s0, s1⟩ := hcell we Ke)
      | (go_at_call 10; (with_reducible refine (hix _ Bc).mono ?_); rintro r wd ⟨aad, acap, abody, rfl, haI, HAl, HAc, bd⟩; have Bd := Bc.tr le_rfl' bd; have Kd := Kc.tr le_rfl' bd; obtain ⟨t0, t1⟩ := hcell wd Kd))
    have hxS := hx.down.1
    have hyS := hy.down.1
    have HXY := hid (And.intro hx hy)
    have hsize := Be.size
    have HKC := hid (fun (W : World) (hW : Below we.heap.size we W) => hcell W (Ke.tr le_rfl' hW))
    have B := Below.refl we.heap.size we
    have hown0 := World.ownsRow_made (base := we.heap.size) (e := 52) (size := 12) we #[] 0 (Nat.le_refl _) (by unfold maxLen; omega) rfl
    clear t0 t1 q0 q1 hcell hix hiy hx hy
    go_cut [11, 12] (fun s11 s12 wx => ∃ zad zcap cad ccap cbody, s11 = .slice cad cbody.length ccap ∧ s12 = .int .i64 ez ∧ (Bl.mk cad ccap cbody).Is wx.heap.size wx ∧ Hid (ez = 0 → (Bl.mk cad ccap cbody).clr = (Bl.mk zad zcap (xbody ++ ybody)).inl (inlR P (reachedOf P (callsOf (Bl.mk zad zcap (xbody ++ ybody)))).length)) ∧ Below we.heap.size we wx)
    case first =>
      go_region_held3 (fun W => W.cell? ⟨w.heap.size, 0, none⟩ = some (.slice mad mons.length mcap) ∧ W.cell? ⟨w.heap.size, 1, none⟩ = some (.slice rad roles.length rcap)) (exact HKC.out _ (by repeat (first | exact B | with_reducible refine below_drewN ?_ _ | with_reducible refine below_drewV ?_ | with_reducible refine Below.al ?_ le_rfl' _))) (first
        | (go_at_call 10; (with_reducible refine (hcal _ (by repeat (first | exact Below.refl _ _ | with_reducible refine below_drewN ?_ _ | with_reducible refine below_drewV ?_))).mono ?_); rintro r wf ⟨cad, ccap, cbody, rfl, hcI, HCl, HCc, bf⟩; have B := (show Below we.heap.size we _ from (by repeat (first | exact B | with_reducible refine below_drewN ?_ _ | with_reducible refine below_drewV ?_ | with_reducible refine Below.al ?_ le_rfl' _))).tr le_rfl' bf)
        | (have M := hown1; refine step_append_slB (cells := St.cells) (by rfl) _ _ 26 (by rfl) we.heap.size 52 i0 _ 12 160 Tryd.underlying26 hi0 iz0 iz1 iz2 rfl (by decide) St.len St.one v1 xbody (by rfl) ?_ yad ycap ybody w.heap.size (by rfl) ?_ (by unfold maxLen; omega) (by omega) ?_ we ?_ ?_; exact hown1; exact hyS.below (Be.tr le_rfl' (by repeat (first | exact B | with_reducible refine below_drewN ?_ _ | with_reducible refine below_drewV ?_ | with_reducible refine Below.al ?_ le_rfl' _))); exact (show Below we.heap.size we _ from (by repeat (first | exact B | with_reducible refine below_drewN ?_ _ | with_reducible refine below_drewV ?_ | with_reducible refine Below.al ?_ le_rfl' _))).size; exact (by repeat (first | exact B | with_reducible refine below_drewN ?_ _ | with_reducible refine below_drewV ?_ | with_reducible refine Below.al ?_ le_rfl' _)); intro v2 w2 hown2 hg2 hnn2 B; obtain ⟨ad2, cp2, rfl, hsl3⟩ := slOwn St.len hown2; have hzI := cat_is HXY.out.1 HXY.out.2 (Nat.le_refl _) (Nat.le_refl _) (Be.tr le_rfl' B) hsl3; have hcal := fun (W : World) (hW : Below w2.heap.size w2 W) => HIZ.out ad2 cp2 w2.heap.size W hW.size (Nat.le_trans hsize B.size) (Be.tr le_rfl' (B.tr le_rfl' hW)) (hzI.below hW))
        | (refine step_append_slB (cells := St.cells) (by rfl) _ _ 26 (by rfl) we.heap.size 52 i0 _ 12 160 Tryd.underlying26 hi0 iz0 iz1 iz2 rfl (by decide) St.len St.one _ [] (by rfl) ?_ xad xcap xbody w.heap.size (by rfl) ?_ (by unfold maxLen; simp; omega) (by simp; omega) ?_ we ?_ ?_; exact hown0; exact hxS.below (Be.tr le_rfl' (by repeat (first | exact B | with_reducible refine below_drewN ?_ _ | with_reducible refine below_drewV ?_ | with_reducible refine Below.al ?_ le_rfl' _))); exact (show Below we.heap.size we _ from (by repeat (first | exact B | with_reducible refine below_drewN ?_ _ | with_reducible refine below_drewV ?_ | with_reducible refine Below.al ?_ le_rfl' _))).size; exact (by repeat (first | exact B | with_reducible refine below_drewN ?_ _ | with_reducible refine below_drewV ?_ | with_reducible refine Below.al ?_ le_rfl' _)); intro v1 w1 hown1 hg1 hnn1 B; rw [List.nil_append] at hown1))
      all_goals go_wp2
      all_goals go_meet
      all_goals exact ⟨ad2, cp2, cad, ccap, cbody, rfl, rfl, hcI.below (by repeat (first | exact Below.refl _ _ | with_reducible refine below_drewN ?_ _ | with_reducible refine below_drewV ?_)), HCc, (by repeat (first | exact B | with_reducible refine below_drewN ?_ _ | with_reducible refine below_drewV ?_ | with_reducible refine Below.al ?_ le_rfl' _))⟩
    case rest =>
      obtain ⟨zad, zcap, cad, ccap, cbody, rfl, rfl, hcI, HCc, bz⟩ := hcut
      have Bz := Be.tr le_rfl' bz
      clear hown0 HIZ HKC HXY B hxS hyS s0 s1 hsize
      by_cases hz0 : ez = 0
      · subst hz0
        obtain ⟨rfl, rfl, hsame⟩ := HOK.out zad zcap rfl
        have haI2 := ((haI.below be).mono be.size).below bz
        have hbI2 := hbI.below bz
        have hbS := hbI2.down.1
        have haS := haI2.down.1
        have hal := HAl.out
        have hbl := HBl.out
        have HSM : Hid (∀ (ad : Option Addr) (c : Nat), (Bl.mk cad ccap cbody).same (Bl.mk ad c (abody ++ bbody)) = true) := fun ad c => hsame _ _ _ _ (HAc.out rfl) (HBc.out rfl) (HCc.out rfl) rfl
        have HSS : Hid (∀ (ad : Option Addr) (c : Nat) (W2 W : World), Below wc.heap.size wc W2 → Below W2.heap.size W2 W → (Bl.mk ad c (abody ++ bbody)).Is W2.heap.size W2 → Calls Tryd.prog 14 #[.slice cad cbody.length ccap, .slice ad (abody.length + bbody.length) c] W fun r w' => r = .returned (.bool true) ∧ Below W.heap.size W w') := fun ad c W2 W hW2 hW hI => by
          have h := sameStmts_any W2.heap.size (.mk cad ccap cbody) (.mk ad c (abody ++ bbody)) W hW.size (((hcI.below hW2).mono hW2.size).below hW) (hI.below hW)
          rw [HSM.out ad c] at h
          simp only [Bl.slice, List.length_append] at h
          exact h
        have hown0 := World.ownsRow_made (base := wc.heap.size) (e := 52) (size := 12) wc #[] 0 (Nat.le_refl _) (by unfold maxLen; omega) rfl
        have B0 := (Below.refl wc.heap.size wc).al le_rfl' (.cells #[] 52)
        have HAB := hid (And.intro haI2 hbI2)
        have hsz2 := bz.size
        clear hsame haI2 hbI2 hcI HCc HAc HBc haI hbI HOK HBG
        go_wp2_with (first
          | (go_at_call 11; (with_reducible refine (hnum _ _).mono ?_); rintro r wy ⟨rfl, hwy⟩; have hwy2 := hwy.symm; subst hwy2)
          | (have M := hown1; at_builtin; refine wpList_append_slG (cells := St.cells) (by rfl) _ _ 26 rfl wc.heap.size 52 i0 _ 12 160 Tryd.underlying26 hi0 iz0 iz1 iz2 rfl (by decide) St.len St.one v1 abody rfl hown1 bad bcap bbody we.heap.size rfl (hbS.below (B1.mono hsz2)) (by unfold maxLen; omega) (by omega) B1.size ?_; intro v2 w2 hown2 hg2; have B2 := owns_grown_below B1 hown1 hg2 B1.size; obtain ⟨ad2, cp2, rfl, hsl3⟩ := slOwn St.len hown2; have hdI := cat_is HAB.out.1 HAB.out.2 bz.size bz.size B2 hsl3)
          | (at_builtin; refine wpList_append_slG (cells := St.cells) (by rfl) _ _ 26 rfl wc.heap.size 52 i0 _ 12 160 Tryd.underlying26 hi0 iz0 iz1 iz2 rfl (by decide) St.len St.one _ [] rfl hown0 aad acap abody we.heap.size rfl (haS.below (B0.mono hsz2)) (by unfold maxLen; simp; omega) (by simp; omega) B0.size ?_; intro v1 w1 hown1 hg1; have B1 := owns_grown_below B0 hown0 hg1 B0.size; rw [List.nil_append] at hown1)
          | (go_at_call 14; (with_reducible refine (HSS.out ad2 cp2 w2 _ B2 (Below.refl _ _) hdI).mono ?_); rintro r w3 ⟨rfl, b3⟩; have B3 := Bz.tr le_rfl' (B2.tr le_rfl' b3))
          | (go_at_call 8; (with_reducible refine (hli _ B3).mono ?_); rintro r w4 ⟨rfl, b4⟩))
        go_ret
        exact ⟨rfl, B3.tr le_rfl' b4⟩
      · have hzb : (ez == 0) = false := by simpa using hz0
        clear HCc HAc HBc haI hbI hcI HOK
        by_cases hxy : ex = 0 ∧ ey = 0
        · obtain ⟨rfl, rfl⟩ := hxy
          have h81 : ez = 81 := by
            rcases HBG.out rfl rfl with h | h
            · exact absurd h hz0
            · exact h
          subst h81
          clear HBG
          go_wp2_with (first
            | (go_at_call 11; (with_reducible refine (hnum _ _).mono ?_); rintro r wy ⟨rfl, hwy⟩; have hwy2 := hwy.symm; subst hwy2)
            | (go_at_call 8; (with_reducible refine (hli _ Bz).mono ?_); rintro r w4 ⟨rfl, b4⟩))
          go_ret
          exact ⟨rfl, Bz.tr le_rfl' b4⟩
        · have hsum : ¬ ex + ey = 0 := by omega
          have hsb : (ex + ey != 0) = true := by simpa using hsum
          have hlo : 0 ≤ ex + ey := by omega
          have hhi : ex + ey ≤ 200 := by omega
          clear HBG hxy
          go_wp2_with (first
            | (go_at_call 11; (with_reducible refine (hnum _ _).mono ?_); rintro r wy ⟨rfl, hwy⟩; have hwy2 := hwy.symm; subst hwy2)
            | (go_at_call 8; (with_reducible refine (hli _ Bz).mono ?_); rintro r w4 ⟨rfl, b4⟩))
          go_ret
          exact ⟨rfl, Bz.tr le_rfl' b4⟩

end Go.Proofs.YtpbjikncobnkjaaDoor
