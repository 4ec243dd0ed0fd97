/-
  reached of package calls' book: the methods that are reached, each behind those that it calls.
-/
import Derived.Test.YtfkabkbnfeiggaaDoorMpK
import Derived.Test.YtfkabkbnfeiggaaDoorNxN
import Derived.RangeFuncNested
import Derived.Deep.DeepCutAuto
import Derived.Deep.AppendLies
namespace Go.Proofs.YtfkabkbnfeiggaaDoor
open Go.RowKit
instance decMemRef (r : Ref) (S : List Ref) : Decidable (r ∈ S) := decidable_of_iff (∃ x ∈ S, x = r) ⟨fun ⟨_, h, e⟩ => e ▸ h, fun h => ⟨r, h, rfl⟩⟩
def St.kind : St → Int
  | .mk k _ _ _ _ _ _ _ _ => k
def St.ref : St → Ref
  | .mk _ mon name _ _ _ _ _ _ => (mon, name)
/-- One statement more. -/
def cstep (S : List Ref) (s : St) : List Ref := if s.kind = 8 ∧ s.ref ∉ S then S ++ [s.ref] else S
def callsA (S : List Ref) (l : List St) : List Ref := l.foldl cstep S
/-- What a list of statements calls. -/
def callsOf (b : Bl) : List Ref := callsA [] b.subs
theorem cstep_no {S : List Ref} {s : St} (h : ¬ (s.kind = 8 ∧ s.ref ∉ S)) : cstep S s = S := by rw [cstep, if_neg h]
theorem cstep_yes {S : List Ref} {s : St} (h : s.kind = 8 ∧ s.ref ∉ S) : cstep S s = S ++ [s.ref] := by rw [cstep, if_pos h]
theorem callsA_append (S : List Ref) (l m : List St) : callsA S (l ++ m) = callsA (callsA S l) m := by simp [callsA]
theorem callsA_st (S : List Ref) (kind : Int) (mon name : ByteArray) (n : Int) (e : Ex) (ad : Option Addr) (cap : Nat) (blocks : List Bl) (pos : Int) :
    callsA S (St.mk kind mon name n e ad cap blocks pos).subs = callsA (cstep S (.mk kind mon name n e ad cap blocks pos)) (blocks.flatMap Bl.subs) := by rw [St.subs_mk]; rfl
theorem callsA_blocks (S : List Ref) (blocks : List Bl) (j : Nat) (hj : j < blocks.length) : callsA S ((blocks.take (j + 1)).flatMap Bl.subs) = callsA (callsA S ((blocks.take j).flatMap Bl.subs)) blocks[j].subs := by
  rw [flatMap_snoc Bl.subs blocks j hj, callsA_append]
theorem callsA_body (S : List Ref) (body : List St) (j : Nat) (hj : j < body.length) : callsA S ((body.take (j + 1)).flatMap St.subs) = callsA (callsA S ((body.take j).flatMap St.subs)) body[j].subs := by
  rw [flatMap_snoc St.subs body j hj, callsA_append]
theorem cstep_mono (S : List Ref) (s : St) : ∀ x ∈ S, x ∈ cstep S s := by
  intro x hx
  by_cases h : s.kind = 8 ∧ s.ref ∉ S
  · rw [cstep_yes h]; exact List.mem_append.2 (.inl hx)
  · rw [cstep_no h]; exact hx
theorem callsA_mono (l : List St) : ∀ (S : List Ref), ∀ x ∈ S, x ∈ callsA S l := by
  induction l with
  | nil => intro S x hx; exact hx
  | cons s l ih => intro S x hx; exact ih _ x (cstep_mono S s x hx)
theorem callsA_nodup (l : List St) : ∀ (S : List Ref), S.Nodup → (callsA S l).Nodup := by
  induction l with
  | nil => intro S h; exact h
  | cons s l ih =>
    intro S h
    refine ih _ ?_
    by_cases hc : s.kind = 8 ∧ s.ref ∉ S
    · rw [cstep_yes hc]
      exact List.nodup_append.2 ⟨h, by simp, fun a ha c hcc => by simp at hcc; rintro rfl; exact hc.2 (hcc ▸ ha)⟩
    · rw [cstep_no hc]; exact h
theorem callsA_mem (l : List St) : ∀ (S : List Ref) (x : Ref), x ∈ callsA S l ↔ x ∈ S ∨ ∃ s ∈ l, s.kind = 8 ∧ s.ref = x := by
  induction l with
  | nil => intro S x; simp [callsA]
  | cons s l ih =>
    intro S x
    show x ∈ callsA (cstep S s) l ↔ _
    rw [ih]
    by_cases hc : s.kind = 8 ∧ s.ref ∉ S
    · rw [cstep_yes hc]
      constructor
      · rintro (h | ⟨t, ht, h⟩)
        · rcases List.mem_append.1 h with h | h
          · exact .inl h
          · exact .inr ⟨s, by simp, hc.1, (List.mem_singleton.1 h).symm⟩
        · exact .inr ⟨t, by simp [ht], h⟩
      · rintro (h | ⟨t, ht, h⟩)
        · exact .inl (List.mem_append.2 (.inl h))
        · rcases List.mem_cons.1 ht with rfl | ht
          · exact .inl (List.mem_append.2 (.inr (by simp [h.2])))
          · exact .inr ⟨t, ht, h⟩
    · rw [cstep_no hc]
      constructor
      · rintro (h | ⟨t, ht, h⟩)
        · exact .inl h
        · exact .inr ⟨t, by simp [ht], h⟩
      · rintro (h | ⟨t, ht, h⟩)
        · exact .inl h
        · rcases List.mem_cons.1 ht with rfl | ht
          · by_cases hr : t.ref ∈ S
            · exact .inl (h.2 ▸ hr)
            · exact absurd ⟨h.1, hr⟩ hc
          · exact .inr ⟨t, ht, h⟩
theorem callsOf_mem (b : Bl) (x : Ref) : x ∈ callsOf b ↔ ∃ s ∈ b.subs, s.kind = 8 ∧ s.ref = x := by
  rw [callsOf, callsA_mem]; simp
theorem callsOf_nodup (b : Bl) : (callsOf b).Nodup := callsA_nodup _ _ List.nodup_nil
theorem callsA_len (l : List St) : ∀ S : List Ref, (callsA S l).length ≤ S.length + l.length := by
  induction l with
  | nil => intro S; exact Nat.le_refl _
  | cons s l ih =>
    intro S
    have h1 := ih (cstep S s)
    have h2 : (cstep S s).length ≤ S.length + 1 := by unfold cstep; split <;> simp
    show (callsA (cstep S s) l).length ≤ _
    simp only [List.length_cons]; omega
/-- The methods that are reached from one, each behind those that it calls: seen ones, found ones. -/
def dfs (G : Ref → List Ref) : Nat → List Ref × List Ref → Ref → List Ref × List Ref
  | 0, st, _ => st
  | n + 1, st, r => if r ∈ st.1 then st else
      (((G r).foldl (dfs G n) (st.1 ++ [r], st.2)).1, ((G r).foldl (dfs G n) (st.1 ++ [r], st.2)).2 ++ [r])
theorem dfs_seen {G : Ref → List Ref} {n : Nat} {S A : List Ref} {r : Ref} (h : r ∈ S) : dfs G n (S, A) r = (S, A) := by
  cases n with
  | zero => rfl
  | succ n => rw [dfs, if_pos h]
theorem dfs_new {G : Ref → List Ref} {n : Nat} {S A : List Ref} {r : Ref} (h : r ∉ S) : dfs G (n + 1) (S, A) r = (((G r).foldl (dfs G n) (S ++ [r], A)).1, ((G r).foldl (dfs G n) (S ++ [r], A)).2 ++ [r]) := by
  rw [dfs, if_neg h]
theorem fold_mono {α β : Type} {R : α → α → Prop} (hr : ∀ a, R a a) (ht : ∀ a b c, R a b → R b c → R a c) (f : α → β → α) (hf : ∀ a b, R a (f a b)) (l : List β) : ∀ a, R a (l.foldl f a) := by
  induction l with
  | nil => exact hr
  | cons x l ih => intro a; exact ht _ _ _ (hf a x) (ih _)
theorem dfs_mono (G : Ref → List Ref) (n : Nat) : ∀ (st : List Ref × List Ref) (r : Ref), ∀ x ∈ st.1, x ∈ (dfs G n st r).1 := by
  induction n with
  | zero => intro st r x hx; exact hx
  | succ n ih =>
    rintro ⟨S, A⟩ r x hx
    by_cases h : r ∈ S
    · rw [dfs_seen h]; exact hx
    · rw [dfs_new h]
      exact fold_mono (R := fun a b => ∀ x ∈ a.1, x ∈ b.1) (fun _ _ h => h) (fun _ _ _ h1 h2 x hx => h2 x (h1 x hx)) (dfs G n) (fun a b => ih a b) (G r) (S ++ [r], A) x (List.mem_append.2 (.inl hx))
theorem fold_dfs_mono (G : Ref → List Ref) (n : Nat) (l : List Ref) (st : List Ref × List Ref) : ∀ x ∈ st.1, x ∈ (l.foldl (dfs G n) st).1 :=
  fold_mono (R := fun (a b : List Ref × List Ref) => ∀ x ∈ a.1, x ∈ b.1) (fun _ _ h => h) (fun _ _ _ h1 h2 x hx => h2 x (h1 x hx)) (dfs G n) (fun a b => dfs_mono G n a b) l st
/-- How many of U are not seen. -/
def left (U S : List Ref) : Nat := (U.filter fun x => decide (x ∉ S)).length
theorem left_mono {U S S' : List Ref} (h : ∀ x ∈ S, x ∈ S') : left U S' ≤ left U S := by
  unfold left
  induction U with
  | nil => simp
  | cons u U ih =>
    by_cases h1 : u ∈ S
    · have h2 := h u h1
      simp only [List.filter_cons, h1, h2, not_true_eq_false, decide_false]
      exact ih
    · by_cases h2 : u ∈ S'
      · simp only [List.filter_cons, h1, h2, not_true_eq_false, not_false_eq_true, decide_false, decide_true, if_true, List.length_cons]
        have := ih
        simp only [Bool.false_eq_true, if_false]
        omega
      · simp only [List.filter_cons, h1, h2, not_false_eq_true, decide_true, if_true, List.length_cons]
        omega
theorem left_snoc {U S : List Ref} {r : Ref} (hu : r ∈ U) (h : r ∉ S) : left U (S ++ [r]) + 1 ≤ left U S := by
  induction U with
  | nil => cases hu
  | cons u U ih =>
    by_cases e : u = r
    · subst e
      have h1 : u ∈ S ++ [u] := by simp
      have h2 := left_mono (U := U) (S := S) (S' := S ++ [u]) (fun x hx => List.mem_append.2 (.inl hx))
      unfold left at h2 ⊢
      simp only [List.filter_cons, h1, h, not_true_eq_false, not_false_eq_true, decide_false, decide_true, if_true, List.length_cons, Bool.false_eq_true, if_false]
      omega
    · have hu' : r ∈ U := by
        rcases List.mem_cons.1 hu with rfl | h'
        · exact absurd rfl e
        · exact h'
      have h2 := ih hu'
      by_cases h1 : u ∈ S
      · have h3 : u ∈ S ++ [r] := List.mem_append.2 (.inl h1)
        unfold left at h2 ⊢
        simp only [List.filter_cons, h1, h3, not_true_eq_false, decide_false, Bool.false_eq_true, if_false]
        exact h2
      · have h3 : u ∉ S ++ [r] := by simp [h1, e]
        unfold left at h2 ⊢
        simp only [List.filter_cons, h1, h3, not_false_eq_true, decide_true, if_true, List.length_cons]
        omega
/-- A call's size. -/
def szGet (Z : List (Ref × Nat)) (r : Ref) : Nat := ((Z.find? (fun x => decide (x.1 = r))).map Prod.snd).getD 0
def sown (Z : List (Ref × Nat)) (s : St) : Nat := if s.kind = 8 then szGet Z s.ref else 1
def sumOf (Z : List (Ref × Nat)) (l : List St) : Nat := (l.map (sown Z)).sum
theorem sumOf_append (Z : List (Ref × Nat)) (l m : List St) : sumOf Z (l ++ m) = sumOf Z l + sumOf Z m := by simp [sumOf]
/-- How many statements there are. -/
def tot (Z : List (Ref × Nat)) (b : Bl) : Nat := sumOf Z b.subs
theorem sumOf_blocks (Z : List (Ref × Nat)) (blocks : List Bl) (j : Nat) (hj : j < blocks.length) : sumOf Z ((blocks.take (j + 1)).flatMap Bl.subs) = sumOf Z ((blocks.take j).flatMap Bl.subs) + tot Z blocks[j] := by
  rw [flatMap_snoc Bl.subs blocks j hj, sumOf_append]; rfl
theorem sumOf_body (Z : List (Ref × Nat)) (body : List St) (j : Nat) (hj : j < body.length) : sumOf Z ((body.take (j + 1)).flatMap St.subs) = sumOf Z ((body.take j).flatMap St.subs) + sumOf Z body[j].subs := by
  rw [flatMap_snoc St.subs body j hj, sumOf_append]
theorem sumOf_st (Z : List (Ref × Nat)) (kind : Int) (mon name : ByteArray) (n : Int) (e : Ex) (ad : Option Addr) (cap : Nat) (blocks : List Bl) (pos : Int) :
    sumOf Z (St.mk kind mon name n e ad cap blocks pos).subs = sown Z (.mk kind mon name n e ad cap blocks pos) + sumOf Z (blocks.flatMap Bl.subs) := by rw [St.subs_mk]; simp [sumOf]
theorem sumOf_le (Z : List (Ref × Nat)) (l : List St) (j : Nat) : sumOf Z ((l.take j).flatMap St.subs) ≤ sumOf Z (l.flatMap St.subs) := by
  conv => rhs; rw [← List.take_append_drop j l, List.flatMap_append, sumOf_append]
  omega
theorem sumOf_leB (Z : List (Ref × Nat)) (l : List Bl) (j : Nat) : sumOf Z ((l.take j).flatMap Bl.subs) ≤ sumOf Z (l.flatMap Bl.subs) := by
  conv => rhs; rw [← List.take_append_drop j l, List.flatMap_append, sumOf_append]
  omega
/-- The sizes of calls, in order; none: they go round. -/
def sizesF (G : Ref → List Ref) (body : Ref → Bl) : List Ref → List (Ref × Nat) → Option (List (Ref × Nat))
  | [], Z => some Z
  | r :: R, Z => if ∃ x ∈ G r, szGet Z x = 0 then none else sizesF G body R (Z ++ [(r, 1 + min 401 (tot Z (body r)))])
/-- A method's body; what it calls. -/
def bodyOf (p : Pr) (r : Ref) : Bl := match methIx p.mons r.1 r.2 with
  | some m => m.body
  | none => .mk none 0 []
def leadsOf (p : Pr) (r : Ref) : List Ref := callsOf (bodyOf p r)
/-- All that is called anywhere. -/
def allRefs (p : Pr) : List Ref := p.mons.flatMap fun m => m.meths.flatMap fun f => callsOf f.body
def reachedOf (p : Pr) (l : List Ref) : List Ref := (l.foldl (dfs (leadsOf p) (l.length + (allRefs p).length)) ([], [])).2
/-- What Count tells of statements of the right shape. -/
def cntOf (p : Pr) (b : Bl) : Nat × Int :=
  if ∃ r ∈ reachedOf p (callsOf b), methIx p.mons r.1 r.2 = none then (0, 61) else
  match sizesF (leadsOf p) (bodyOf p) (reachedOf p (callsOf b)) [] with
  | none => (0, 80)
  | some Z => if 400 < min 401 (tot Z b) then (0, 81) else (min 401 (tot Z b), 0)
end Go.Proofs.YtfkabkbnfeiggaaDoor
namespace Go.Proofs.YtfkabkbnfeiggaaDoor
open Go.RowKit
def rcells (r : Ref) : List Value := [.string r.1, .string r.2]
theorem rcells_len (r : Ref) : (rcells r).length = 2 := rfl
theorem rcells_one (r : Ref) : ∀ u ∈ rcells r, u.oneCell' = true := by
  intro u hu
  simp only [rcells, List.mem_cons, List.not_mem_nil, or_false] at hu
  rcases hu with rfl | rfl <;> rfl
theorem infoRef : (Tryd.prog.info? 81).map (fun i => (i.zero, i.size, i.bytes)) = some (some (.agg #[.string ⟨#[]⟩, .string ⟨#[]⟩]), 2, 32) := by kernel_rfl
def ones (S : List Ref) : List (Ref × Value) := S.map fun r => (r, .int .i64 1)
theorem ones_fst (S : List Ref) : (ones S).map Prod.fst = S := by
  induction S with
  | nil => rfl
  | cons x S ih => simpa [ones] using ih
theorem ones_snoc (S : List Ref) (r : Ref) : ones (S ++ [r]) = ones S ++ [(r, .int .i64 1)] := by simp [ones]
theorem ones_len (S : List Ref) : (ones S).length = S.length := by simp [ones]
theorem ones_get (S : List Ref) (r : Ref) : (kget (ones S) r).getD (.int .i64 0) = .int .i64 (if r ∈ S then 1 else 0) := by
  by_cases h : r ∈ S
  · rw [if_pos h]
    cases hk : kget (ones S) r with
    | none => exact absurd h (by rw [kget_none, ones_fst] at hk; exact hk)
    | some v =>
      rw [kget] at hk
      obtain ⟨p, hp, rfl⟩ := Option.map_eq_some_iff.1 hk
      obtain ⟨x, _, rfl⟩ := List.mem_map.1 (List.mem_of_find?_eq_some hp)
      rfl
  · rw [if_neg h, kget_none.2 (by rw [ones_fst]; exact h)]; rfl
theorem KMap.not_row {W : World} {b : Nat} {L : List (Ref × Value)} (h : KMap W b L) {base size k : Nat} {e : TypeId} {v : Value} {xs : List Value} (hr : W.ownsRow base e size v k xs) : some b ≠ v.ownBlock := by
  intro e'
  rcases hr.2 with ⟨rfl, _⟩ | ⟨g, cap, cur, rfl, _, hgb, _⟩
  · simp [Value.ownBlock] at e'
  · obtain rfl : b = g := by simpa [Value.ownBlock] using e'
    rw [h.1] at hgb; cases hgb
theorem cells_not_row {W : World} {b : Nat} {cs : Array Value} {t e : TypeId} (h : W.heap[b]? = some (.cells cs t (0, 0))) (hte : t ≠ e) {base size k : Nat} {v : Value} {xs : List Value} (hr : W.ownsRow base e size v k xs) : some b ≠ v.ownBlock := by
  intro e'
  rcases hr.2 with ⟨rfl, _⟩ | ⟨g, cap, cur, rfl, _, hgb, _⟩
  · simp [Value.ownBlock] at e'
  · obtain rfl : b = g := by simpa [Value.ownBlock] using e'
    rw [h] at hgb; cases hgb; exact hte rfl
theorem box_ne_map {W : World} {b m : Nat} {t : TypeId} {v : Value} {L : List (Ref × Value)} (h : Boxed W b t v) (hM : KMap W m L) : some b ≠ some m := by
  intro e
  obtain rfl : b = m := by simpa using e
  have e1 : W.heap[b]? = _ := h
  have e2 := hM.1
  rw [e1] at e2; cases e2
theorem owns_below {W W' : World} {base size k : Nat} {e : TypeId} {v : Value} {xs : List Value} (h : W.ownsRow base e size v k xs) (hb : Below W.heap.size W W') : W'.ownsRow base e size v k xs := by
  obtain ⟨hl, ⟨rfl, hn⟩ | ⟨g, cap, cur, rfl, hB, hh, hc, hm, hcs, hx⟩⟩ := h
  · exact ⟨hl, .inl ⟨rfl, hn⟩⟩
  · exact ⟨hl, .inr ⟨g, cap, cur, rfl, hB, (hb.block g (Array.getElem?_eq_some_iff.1 hh).1).trans hh, hc, hm, hcs, hx⟩⟩
/-- What look keeps: the methods found, in a row and in a map; itself. -/
structure Look (W : World) (base bS bM bA bL : Nat) (S : List Ref) : Prop where
  row : ∃ v, Boxed W bA 85 v ∧ W.ownsRow base 81 2 v S.length (S.flatMap rcells)
  box : Boxed W bS 91 (.map (some bM))
  map : KMap W bM (ones S)
  fn : Boxed W bL 110 (.func (.func 53) #[] #[.pointer (some ⟨bS, 0, none⟩), .pointer (some ⟨bA, 0, none⟩), .pointer (some ⟨bL, 0, none⟩)])
  lo : base ≤ bA ∧ base ≤ bM ∧ bS ≠ bA ∧ bL ≠ bA ∧ base ≤ bS ∧ base ≤ bL
theorem Look.kept {W W' : World} {base bS bM bA bL : Nat} {S : List Ref} (h : Look W base bS bM bA bL S) (hb : Below W.heap.size W W') : Look W' base bS bM bA bL S := by
  obtain ⟨⟨v, h1, h2⟩, h3, h4, h5, h6⟩ := h
  exact ⟨⟨v, boxed_of h1 hb, owns_below h2 hb⟩, boxed_of h3 hb, h4.below hb h4.lt, boxed_of h5 hb, h6⟩
theorem zero3' (W : World) : (zeroValue 3).run Tryd.prog W = .ok (.int .i64 0) W := by kernel_rfl
set_option maxRecDepth 100000 in
theorem callee_any (s : St) (w : World) : Calls Tryd.prog 37 #[s.val] w fun r w' => r = .returned (.agg #[.string s.ref.1, .string s.ref.2]) ∧ Below w.heap.size w w' := by
  rcases s with ⟨kind, mon, name, n, ⟨eop, emon, ename, en, ead, ecap, ekids, epos⟩, ad, cap, blocks, pos⟩
  simp only [St.val, St.cells, Ex.cells, List.cons_append, List.nil_append, St.ref]
  go_enter Tryd.func37, Tryd.ntmps37
  go_wp2
  refine bodyPost_ret (v := .agg #[.string mon, .string name]) ?_ rfl ⟨rfl, ((Below.refl _ w).al le_rfl' _).al le_rfl' _⟩
  simp [results, Tryd.results37, go_sem]
/-- look does a list of statements. -/
def LkBl (base bS bM bA bL : Nat) (x : Bl) : Prop := ∀ (n₀ : Nat) (S : List Ref) (w : World), n₀ ≤ base → base ≤ w.heap.size → x.Is n₀ w → Look w base bS bM bA bL S → S.length + x.subs.length ≤ 1000000 →
  Calls Tryd.prog 53 #[x.slice, .pointer (some ⟨bS, 0, none⟩), .pointer (some ⟨bA, 0, none⟩), .pointer (some ⟨bL, 0, none⟩)] w fun r w' => r = .returned (.tuple #[]) ∧ Look w' base bS bM bA bL (callsA S x.subs) ∧ Below base w w'
theorem vlen_ref {n₀ : Nat} {W : World} {s : St} (h : s.Is n₀ W) : VLen s.ref := by
  rcases s with ⟨kind, mon, name, n, e, ad, cap, blocks, pos⟩
  have h1 := h.down.1.2.2.2
  unfold Len at h1
  unfold VLen maxLen St.ref
  exact ⟨by simp; omega, by simp; omega⟩
set_option maxRecDepth 100000 in
set_option maxHeartbeats 4000000 in
theorem look_step {base bS bM bA bL : Nat} (ad : Option Addr) (cap : Nat) (body : List St) (ih : ∀ s ∈ body, ∀ x ∈ s.blocks, LkBl base bS bM bA bL x) : LkBl base bS bM bA bL (.mk ad cap body) := by
  intro n₀ S w hn hb hI hL hlen
  have HS := hid (Bl.subs_mk ad cap body)
  rw [Bl.subs_mk] at hlen ⊢
  have hIk := hI.down.2
  have hsl := hI.down.1
  have hl1 := hsl.1; have hl2 := hsl.2.1
  unfold maxLen at hl2
  have hz3 := zero3'
  simp only [Bl.slice]
  go_enter Tryd.func53, Tryd.ntmps53
  go_wp2
  go_loopw [12] (fun i wr => ∃ j : Nat, j ≤ body.length ∧ i = .int .i64 j ∧ Look wr base bS bM bA bL (callsA S ((body.take j).flatMap St.subs)) ∧ Below base w wr)
    (fun i _ => body.length - (intOf i).toNat)
  case atStart => exact ⟨0, by omega, rfl, hL, Below.refl _ _⟩
  case round =>
    obtain ⟨j, hj, rfl, hLr, hbw⟩ := hrel
    have hz1 := hbw.size
    have hb0 : Below n₀ w wr := hbw.mono hn
    by_cases hlt : j < body.length
    · rcases hsl.2.2 with h | ⟨kb, koff, rfl, hbn, hrow⟩
      · subst h; simp at hlt
      have HC := hid (callsA_body S body j hlt)
      have hIj := hIk _ (List.getElem_mem hlt)
      have ihj := ih _ (List.getElem_mem hlt)
      have hvl := vlen_ref hIj
      have hrj := hrow.below hb0 hbn
      have hq := fun W => callee_any body[j] W
      have hlj : (body.take j).flatMap St.subs = [] ∨ True := .inr trivial
      have HLN : Hid ((callsA S ((body.take j).flatMap St.subs)).length + body[j].subs.length ≤ 1000000) := by
        have h1 := callsA_len ((body.take j).flatMap St.subs) S
        have h2 : ((body.take (j + 1)).flatMap St.subs).length ≤ (body.flatMap St.subs).length := by
          conv => rhs; rw [← List.take_append_drop (j + 1) body, List.flatMap_append, List.length_append]
          omega
        rw [flatMap_snoc St.subs body j hlt, List.length_append] at h2
        show _ ≤ _
        omega
      obtain ⟨S1, hS1⟩ : ∃ S1, callsA S ((body.take j).flatMap St.subs) = S1 := ⟨_, rfl⟩
      rw [hS1] at hLr HC HLN
      rcases he' : body[j] with ⟨kind', mon', name', n', ⟨eop', emon', ename', en', ead', ecap', ekids', epos'⟩, ad', cap', blocks', pos'⟩
      obtain ⟨c0, c1, c2, c3, c4, c5, c6, c7, c8, c9, c10, c11⟩ := row12 hrj j hlt (by rw [he']; rfl)
      rw [he'] at hIj ihj HC hvl HLN
      rw [callsA_st] at HC
      simp only [he', St.val, St.cells, Ex.cells, List.cons_append, List.nil_append, St.ref] at hq hvl
      clear he' ih
      have hsB := hIj.down.2.2.1
      have hIB := hIj.down.2.2.2
      have hbl1 := hsB.1; have hbl2 := hsB.2.1
      unfold maxLen at hbl2
      simp only [St.blocks] at ihj
      have hkbw : kb < wr.heap.size := by omega
      go_upto_region 4 with (go_at_call 37; (with_reducible refine (hq _).mono ?_); rintro r u1 ⟨rfl, bb1⟩)
      obtain ⟨bX, hBX, hzX⟩ := one_box wr #[.int .i64 kind', .string mon', .string name', .int .i64 n', .int .i64 eop', .string emon', .string ename', .int .i64 en', .slice ead' ekids'.length ecap', .int .i64 epos', .slice ad' blocks'.length cap', .int .i64 pos'] 39
      obtain ⟨bR, hBR, hzR⟩ := one_box u1 #[.string mon', .string name'] 81
      have hz2 := bb1.size
      have bX2 := (hBR.block wr.heap.size (by omega)).trans ((bb1.block wr.heap.size (by omega)).trans bX)
      have hL2 := ((hLr.kept hBX).kept bb1).kept hBR
      have hB2 : Below base w (u1.alloc (.cells #[.string mon', .string name'] 81)) := ((hbw.trans (hBX.mono (by omega))).trans (bb1.mono (by omega))).trans (hBR.mono (by omega))
      obtain ⟨Bs, hBs⟩ : ∃ Bs, wr.heap.size = Bs := ⟨_, rfl⟩
      obtain ⟨Br, hBr⟩ : ∃ Br, u1.heap.size = Br := ⟨_, rfl⟩
      obtain ⟨W2, hW2⟩ : ∃ W2, u1.alloc (.cells #[.string mon', .string name'] 81) = W2 := ⟨_, rfl⟩
      rw [hW2] at bR hzR bX2 hL2 hB2 ⊢
      rw [hBs] at bX2 ⊢
      rw [hBr] at bR ⊢
      have x0 := cellOf bX2 0
      have x10 := cellOf bX2 10
      have y0 := cellOf bR 0
      have y1 := cellOf bR 1
      simp at x0 x10 y0 y1
      have hBsW : Bs < W2.heap.size := (Array.getElem?_eq_some_iff.1 bX2).1
      have HNB : Hid (Bs ≠ bM ∧ Bs ≠ bA ∧ W2.heap.size = Br + 1 ∧ w.heap.size ≤ Bs) := by
        obtain ⟨⟨v, g1, _⟩, _, g2, _, _⟩ := hLr
        have e1 := g1.lt
        have e2 := g2.lt
        refine ⟨by omega, by omega, ?_, by omega⟩
        have := World.size_alloc u1 (.cells #[.string mon', .string name'] 81)
        omega
      have HFT : Hid (List.flatMap St.subs (List.take j body) = List.flatMap St.subs (List.take j body)) := rfl
      have HOUT : Hid (∀ W, Look W base bS bM bA bL (callsA (cstep S1 (St.mk kind' mon' name' n' (Ex.mk eop' emon' ename' en' ead' ecap' ekids' epos') ad' cap' blocks' pos')) (blocks'.flatMap Bl.subs)) → Look W base bS bM bA bL (callsA S ((body.take (j + 1)).flatMap St.subs))) := fun W h => by rw [HC.out]; exact h
      have HLN2 : Hid (∀ k, k ≤ blocks'.length → (callsA (cstep S1 (St.mk kind' mon' name' n' (Ex.mk eop' emon' ename' en' ead' ecap' ekids' epos') ad' cap' blocks' pos')) ((blocks'.take k).flatMap Bl.subs)).length + ((blocks'.drop k).flatMap Bl.subs).length ≤ 1000000) := by
        intro k hk
        have h1 := callsA_len ((blocks'.take k).flatMap Bl.subs) (cstep S1 (St.mk kind' mon' name' n' (Ex.mk eop' emon' ename' en' ead' ecap' ekids' epos') ad' cap' blocks' pos'))
        have h2 : (cstep S1 (St.mk kind' mon' name' n' (Ex.mk eop' emon' ename' en' ead' ecap' ekids' epos') ad' cap' blocks' pos')).length ≤ S1.length + 1 := by unfold cstep; split <;> simp
        have h3 := HLN.out
        rw [St.subs_mk, List.length_cons] at h3
        have h4 : (blocks'.flatMap Bl.subs).length = ((blocks'.take k).flatMap Bl.subs).length + ((blocks'.drop k).flatMap Bl.subs).length := by
          conv => lhs; rw [← List.take_append_drop k blocks', List.flatMap_append, List.length_append]
        omega
      clear c0 c1 c2 c3 c4 c5 c6 c7 c8 c9 c10 c11 bX hBX hzX hBR hzR bb1 hLr hW2 hBr hBs hq hIj hlj HC HLN hS1 hL hIk hI hrow hrj hz2
      have cS := hL2.box.cell
      cases hkind : (kind' == 8 : Bool)
      · have hcs : cstep S1 (St.mk kind' mon' name' n' (Ex.mk eop' emon' ename' en' ead' ecap' ekids' epos') ad' cap' blocks' pos') = S1 := cstep_no (fun h => by have : kind' = 8 := h.1; rw [this] at hkind; simp at hkind)
        rw [hcs] at HOUT HLN2
        clear hcs
        go_wp2
        have hL3 := hL2
        have hB3 := hB2
        obtain ⟨W3, hW3⟩ : ∃ W3, W2 = W3 := ⟨_, rfl⟩
        rw [hW3] at hL3 hB3 ⊢
        clear hW3 hL2 hB2 bX2 bR x0 x10 y0 y1 cS hBsW HNB
        go_loopw [40] (fun i wx => ∃ k : Nat, k ≤ blocks'.length ∧ i = .int .i64 k ∧ Look wx base bS bM bA bL (callsA S1 ((blocks'.take k).flatMap Bl.subs)) ∧ Below base w wx)
          (fun i _ => blocks'.length - (intOf i).toNat)
        case atStart => exact ⟨0, by omega, rfl, hL3, hB3⟩
        case round =>
          obtain ⟨k, hk, rfl, hLx, hbx⟩ := hrel
          have hzx := hbx.size
          have hbx0 := hbx.mono hn
          by_cases hlk : k < blocks'.length
          · rcases hsB.2.2 with h | ⟨qb, qoff, rfl, hqn, hqrow⟩
            · subst h; simp at hlk
            have HCB := hid (callsA_blocks S1 blocks' k hlk)
            have d0 := (hqrow.below hbx0 hqn) k hlk 0 (by omega)
            have hqw : qb < wr.heap.size := by omega
            have HLk : Hid ((callsA S1 ((blocks'.take k).flatMap Bl.subs)).length + blocks'[k].subs.length ≤ 1000000) := by
              have h1 := HLN2.out k hk
              have h2 : blocks'.drop k = blocks'[k] :: blocks'.drop (k + 1) := by rw [List.drop_eq_getElem_cons hlk]
              rw [h2, List.flatMap_cons, List.length_append] at h1
              show _ ≤ _
              omega
            have hq := ihj _ (List.getElem_mem hlk) n₀ _ wr hn (by omega) ((hIB _ (List.getElem_mem hlk)).below hbx0) hLx HLk.out
            obtain ⟨S2, hS2⟩ : ∃ S2, callsA (callsA S1 ((blocks'.take k).flatMap Bl.subs)) blocks'[k].subs = S2 := ⟨_, rfl⟩
            rw [hS2] at hq HCB
            clear hS2 HLk
            rcases hbk : blocks'[k] with ⟨qad, qcap, qbody⟩
            simp only [hbk, Bl.slice, Bl.cells] at hq d0
            simp at d0
            have cL := hLx.fn.cell
            clear hbk hLx
            go_wp2_with (go_at_call 53; (with_reducible refine hq.mono ?_); rintro r w5 ⟨rfl, hL5, hb5⟩)
            go_roundw
            case rel => exact ⟨k + 1, by omega, by go_num, by rw [HCB.out]; exact hL5, hbx.trans hb5⟩
            case measure => simp [intOf]; omega
          · have hkd : decide ((k : Int) < (blocks'.length : Int)) = false := by simp; omega
            have hke : k = blocks'.length := by omega
            have hL6 := HOUT.out wr (by rw [hke, List.take_length] at hLx; exact hLx)
            clear hke hLx
            go_wp2
            go_roundw
            case rel => exact ⟨j + 1, by omega, by go_num, hL6, hbx⟩
            case measure => simp [intOf]; omega
      · have hk8 : kind' = 8 := by simpa using hkind
        by_cases hm : (mon', name') ∈ S1
        · have hcs : cstep S1 (St.mk kind' mon' name' n' (Ex.mk eop' emon' ename' en' ead' ecap' ekids' epos') ad' cap' blocks' pos') = S1 := cstep_no (fun h => h.2 hm)
          rw [hcs] at HOUT HLN2
          clear hcs
          have hlk := look_km hL2.map Tryd.underlying91 (hz3 W2) hvl
          rw [ones_get, if_pos hm] at hlk
          simp only at hlk
          clear hm
          go_wp2
          have hL3 := hL2
          have hB3 := hB2
          obtain ⟨W3, hW3⟩ : ∃ W3, W2 = W3 := ⟨_, rfl⟩
          rw [hW3] at hL3 hB3 ⊢
          clear hW3 hL2 hB2 bX2 bR x0 x10 y0 y1 cS hBsW HNB hlk
          go_loopw [40] (fun i wx => ∃ k : Nat, k ≤ blocks'.length ∧ i = .int .i64 k ∧ Look wx base bS bM bA bL (callsA S1 ((blocks'.take k).flatMap Bl.subs)) ∧ Below base w wx)
            (fun i _ => blocks'.length - (intOf i).toNat)
          case atStart => exact ⟨0, by omega, rfl, hL3, hB3⟩
          case round =>
            obtain ⟨k, hk, rfl, hLx, hbx⟩ := hrel
            have hzx := hbx.size
            have hbx0 := hbx.mono hn
            by_cases hlk : k < blocks'.length
            · rcases hsB.2.2 with h | ⟨qb, qoff, rfl, hqn, hqrow⟩
              · subst h; simp at hlk
              have HCB := hid (callsA_blocks S1 blocks' k hlk)
              have d0 := (hqrow.below hbx0 hqn) k hlk 0 (by omega)
              have hqw : qb < wr.heap.size := by omega
              have HLk : Hid ((callsA S1 ((blocks'.take k).flatMap Bl.subs)).length + blocks'[k].subs.length ≤ 1000000) := by
                have h1 := HLN2.out k hk
                have h2 : blocks'.drop k = blocks'[k] :: blocks'.drop (k + 1) := by rw [List.drop_eq_getElem_cons hlk]
                rw [h2, List.flatMap_cons, List.length_append] at h1
                show _ ≤ _
                omega
              have hq := ihj _ (List.getElem_mem hlk) n₀ _ wr hn (by omega) ((hIB _ (List.getElem_mem hlk)).below hbx0) hLx HLk.out
              obtain ⟨S2, hS2⟩ : ∃ S2, callsA (callsA S1 ((blocks'.take k).flatMap Bl.subs)) blocks'[k].subs = S2 := ⟨_, rfl⟩
              rw [hS2] at hq HCB
              clear hS2 HLk
              rcases hbk : blocks'[k] with ⟨qad, qcap, qbody⟩
              simp only [hbk, Bl.slice, Bl.cells] at hq d0
              simp at d0
              have cL := hLx.fn.cell
              clear hbk hLx
              go_wp2_with (go_at_call 53; (with_reducible refine hq.mono ?_); rintro r w5 ⟨rfl, hL5, hb5⟩)
              go_roundw
              case rel => exact ⟨k + 1, by omega, by go_num, by rw [HCB.out]; exact hL5, hbx.trans hb5⟩
              case measure => simp [intOf]; omega
            · have hkd : decide ((k : Int) < (blocks'.length : Int)) = false := by simp; omega
              have hke : k = blocks'.length := by omega
              have hL6 := HOUT.out wr (by rw [hke, List.take_length] at hLx; exact hLx)
              clear hke hLx
              go_wp2
              go_roundw
              case rel => exact ⟨j + 1, by omega, by go_num, hL6, hbx⟩
              case measure => simp [intOf]; omega
        · have hcs : cstep S1 (St.mk kind' mon' name' n' (Ex.mk eop' emon' ename' en' ead' ecap' ekids' epos') ad' cap' blocks' pos') = S1 ++ [(mon', name')] := cstep_yes ⟨hk8, hm⟩
          rw [hcs] at HOUT HLN2
          clear hcs
          have hlk := look_km hL2.map Tryd.underlying91 (hz3 W2) hvl
          rw [ones_get, if_neg hm] at hlk
          simp only at hlk
          have hmk : (mon', name') ∉ (ones S1).map Prod.fst := by rw [ones_fst]; exact hm
          have hMd : KMap W2.drew bM (ones S1) := hL2.map
          have E0 := entry_km hMd Tryd.underlying91 hvl hmk
          have hMe : KMap (kmW W2.drew bM (ones S1 ++ [((mon', name'), .int .i64 0)])) bM (ones S1 ++ [((mon', name'), .int .i64 0)]) := kmW_map hMd (vlen_snoc hMd.2.1 hvl _) (nodup_snoc hMd.2.2 _ hmk)
          have L0 := look_km hMd Tryd.underlying91 (hz3 _) hvl
          rw [ones_get, if_neg hm] at L0
          have L1 := look_km hMe Tryd.underlying91 (hz3 _) hvl
          have hkg : kget (ones S1 ++ [((mon', name'), .int .i64 0)]) (mon', name') = some (.int .i64 0) := by
            have := kget_put (ones S1) (mon', name') (.int .i64 0) (mon', name')
            rw [kput_new _ _ _ hmk, if_pos rfl] at this
            exact this
          rw [hkg] at L1
          have E1 := store_km (T := 91) hMe
          rw [kmW_twice, ones_len] at E1
          rw [ones_len] at E0
          simp only [Option.getD_some] at L0 L1 E0 E1
          clear hm hkg hMe hMd
          go_upto_region 5 with fail
          go_region
          have gW := kmW_drew W2 bM (ones S1 ++ [((mon', name'), .int .i64 1)])
          have hM4 : KMap (kmW W2.drew bM (ones S1 ++ [((mon', name'), .int .i64 1)])) bM (ones (S1 ++ [(mon', name')])) := by
            rw [ones_snoc]
            exact kmW_map (L := ones S1) hL2.map (vlen_snoc hL2.map.2.1 hvl _) (nodup_snoc hL2.map.2.2 _ hmk)
          obtain ⟨⟨v, hA, hown⟩, hS, hM, hF, hlo⟩ := hL2
          have HM2 := hid hM
          have hbAM := box_ne_map hA hM
          have hbSM := box_ne_map hS hM
          have hbLM := box_ne_map hF hM
          have hA4 := hA.kept gW hbAM
          have hS4 := hS.kept gW hbSM
          have hF4 := hF.kept gW hbLM
          have hown4 := hown.kept gW (.inr (hM.not_row hown).symm)
          have bX4 := (gW.block Bs hBsW (fun e => HNB.out.1 (by cases e; rfl))).trans bX2
          have hBrW : Br < W2.heap.size := (Array.getElem?_eq_some_iff.1 bR).1
          have bR4 := (gW.block Br hBrW (fun e => by
            obtain rfl : Br = bM := by simpa using e
            have e2 := HM2.out.1
            rw [bR] at e2; cases e2)).trans bR
          have hB4 : Below base w (kmW W2.drew bM (ones S1 ++ [((mon', name'), .int .i64 1)])) := hB2.grown gW (by have := hB2.size; omega) (fun k e => by cases e; exact hlo.2.1)
          have hz4 : (kmW W2.drew bM (ones S1 ++ [((mon', name'), .int .i64 1)])).heap.size = W2.heap.size := kmW_size _ _ _
          obtain ⟨W4, hW4⟩ : ∃ W4, kmW W2.drew bM (ones S1 ++ [((mon', name'), .int .i64 1)]) = W4 := ⟨_, rfl⟩
          rw [hW4] at hM4 hA4 hS4 hF4 hown4 bX4 bR4 hB4 hz4 ⊢
          have HZ4 := hid hz4
          clear hz4 hW4 gW E0 E1 L0 L1 hlk hM hA hS hF hown bX2 bR x0 x10 y0 y1 cS hmk HM2 hbAM hbSM hbLM
          have cA := hA4.cell
          have r0 := cellOf bR4 0
          have r1 := cellOf bR4 1
          simp at r0 r1
          obtain ⟨i0, hi, hz0, hz1, hz2⟩ := info_parts infoRef
          have hbase4 : base ≤ W4.heap.size := by have := hB4.size; omega
          have hS1l : S1.length ≤ 1000000 := by
            have h1 := HLN2.out 0 (by omega)
            simp [callsA] at h1
            omega
          have hsrc : SlAt 2 rcells (W4.heap.size + 1) (W4.alloc (.cells #[.string mon', .string name'] 81)) (some ⟨W4.heap.size, 0, none⟩) 1 [(mon', name')] := by
            refine ⟨by simp, by unfold maxLen; omega, .inr ⟨W4.heap.size, 0, rfl, by omega, fun q hq i hi => ?_⟩⟩
            obtain rfl : q = 0 := by simp at hq; omega
            rw [cellOf (heapNew W4 _)]
            rcases i with _ | _ | i
            · rfl
            · rfl
            · omega
          have hownA := hown4.alloc (.cells #[.string mon', .string name'] 81)
          go_upto_region 7 with (at_builtin; refine wpList_append_sl (cells := rcells) rfl _ _ 85 rfl base 81 i0 _ 2 32 Tryd.underlying85 hi hz0 hz1 hz2 rfl (by decide) rcells_len rcells_one _ S1 rfl hownA (some ⟨W4.heap.size, 0, none⟩) 1 [(mon', name')] _ rfl hsrc (by unfold maxLen; simp; omega) (by simp; omega) (by simp; omega) ?_; intro v' w1 hown' hgrow hnn; obtain ⟨hw1, hw2, hw3, hw4, hw5⟩ := hA4.appended (by decide) hown4 hbase4 hlo.1 hown' hgrow; obtain ⟨ad2, cp2, rfl, -⟩ := slOwn rcells_len hown'; have hc1 := hw1.cell; have hf1 := hw1.frozen)
          have hll : (S1 ++ [(mon', name')]).length = S1.length + 1 := by simp
          simp only [hll] at hw2 hw3 hw4 hw5
          have hneS : bS ≠ bA := hlo.2.2.1
          have hneL : bL ≠ bA := hlo.2.2.2.1
          have hS5 := ((hS4.alloc _).kept hgrow (hS4.not_row (by decide) hown4)).other hneS (.slice ad2 (S1.length + 1) cp2)
          have hF5 := ((hF4.alloc _).kept hgrow (hF4.not_row (by decide) hown4)).other hneL (.slice ad2 (S1.length + 1) cp2)
          have hM5 := hM4.kept (hw4.same _ _ hM4.1 rfl |>.trans hM4.1.symm)
          have hL3 : Look (w1.setCell ⟨bA, 0, none⟩ (.slice ad2 (S1.length + 1) cp2)) base bS bM bA bL (S1 ++ [(mon', name')]) := ⟨⟨_, hw2, by rw [hll]; exact hw3⟩, hS5, hM5, hF5, hlo⟩
          have hB3 : Below base w (w1.setCell ⟨bA, 0, none⟩ (.slice ad2 (S1.length + 1) cp2)) := hB4.trans hw5
          have bX5 : (w1.setCell ⟨bA, 0, none⟩ (.slice ad2 (S1.length + 1) cp2)).heap[Bs]? = _ := (Below.heap_setCell _ ⟨bA, 0, none⟩ _ Bs HNB.out.2.1).trans ((hgrow.block Bs (by have := (Array.getElem?_eq_some_iff.1 bX4).1; simp; omega) (cells_not_row bX4 (by decide) hown4)).trans ((Below.heap_alloc _ _ _ (Array.getElem?_eq_some_iff.1 bX4).1).trans bX4))
          obtain ⟨W5, hW5⟩ : ∃ W5, w1.setCell ⟨bA, 0, none⟩ (.slice ad2 (S1.length + 1) cp2) = W5 := ⟨_, rfl⟩
          rw [hW5] at hL3 hB3 bX5 ⊢
          have x0 := cellOf bX5 0
          have x10 := cellOf bX5 10
          simp at x0 x10
          clear hW5 hS5 hF5 hM5 hw1 hw2 hw3 hw4 hw5 hc1 hf1 hgrow hown' hnn hownA hsrc cA r0 r1 bR4 bX4 hA4 hS4 hF4 hown4 hM4 hB4 bX5 hS1l hbase4 hll hBsW HNB hB2
          go_wp2
          go_loopw [40] (fun i wx => ∃ k : Nat, k ≤ blocks'.length ∧ i = .int .i64 k ∧ Look wx base bS bM bA bL (callsA (S1 ++ [(mon', name')]) ((blocks'.take k).flatMap Bl.subs)) ∧ Below base w wx)
            (fun i _ => blocks'.length - (intOf i).toNat)
          case atStart => exact ⟨0, by omega, rfl, hL3, hB3⟩
          case round =>
            obtain ⟨k, hk, rfl, hLx, hbx⟩ := hrel
            have hzx := hbx.size
            have hbx0 := hbx.mono hn
            by_cases hlk : k < blocks'.length
            · rcases hsB.2.2 with h | ⟨qb, qoff, rfl, hqn, hqrow⟩
              · subst h; simp at hlk
              have HCB := hid (callsA_blocks (S1 ++ [(mon', name')]) blocks' k hlk)
              have d0 := (hqrow.below hbx0 hqn) k hlk 0 (by omega)
              have hqw : qb < wr.heap.size := by omega
              have HLk : Hid ((callsA (S1 ++ [(mon', name')]) ((blocks'.take k).flatMap Bl.subs)).length + blocks'[k].subs.length ≤ 1000000) := by
                have h1 := HLN2.out k hk
                have h2 : blocks'.drop k = blocks'[k] :: blocks'.drop (k + 1) := by rw [List.drop_eq_getElem_cons hlk]
                rw [h2, List.flatMap_cons, List.length_append] at h1
                show _ ≤ _
                omega
              have hq := ihj _ (List.getElem_mem hlk) n₀ _ wr hn (by omega) ((hIB _ (List.getElem_mem hlk)).below hbx0) hLx HLk.out
              obtain ⟨S2, hS2⟩ : ∃ S2, callsA (callsA (S1 ++ [(mon', name')]) ((blocks'.take k).flatMap Bl.subs)) blocks'[k].subs = S2 := ⟨_, rfl⟩
              rw [hS2] at hq HCB
              clear hS2 HLk
              rcases hbk : blocks'[k] with ⟨qad, qcap, qbody⟩
              simp only [hbk, Bl.slice, Bl.cells] at hq d0
              simp at d0
              have cL := hLx.fn.cell
              clear hbk hLx
              go_wp2_with (go_at_call 53; (with_reducible refine hq.mono ?_); rintro r w5 ⟨rfl, hL5, hb5⟩)
              go_roundw
              case rel => exact ⟨k + 1, by omega, by go_num, by rw [HCB.out]; exact hL5, hbx.trans hb5⟩
              case measure => simp [intOf]; omega
            · have hkd : decide ((k : Int) < (blocks'.length : Int)) = false := by simp; omega
              have hke : k = blocks'.length := by omega
              have hL6 := HOUT.out wr (by rw [hke, List.take_length] at hLx; exact hLx)
              clear hke hLx
              go_wp2
              go_roundw
              case rel => exact ⟨j + 1, by omega, by go_num, hL6, hbx⟩
              case measure => simp [intOf]; omega
    · have hjd : decide ((j : Int) < (body.length : Int)) = false := by simp; omega
      have hje : j = body.length := by omega
      have hL6 : Look wr base bS bM bA bL (callsA S (body.flatMap St.subs)) := by rw [hje, List.take_length] at hLr; exact hLr
      clear hje hLr
      go_wp2
      go_end0
      exact ⟨rfl, hL6, hbw⟩
theorem look_any {base bS bM bA bL : Nat} (x : Bl) : LkBl base bS bM bA bL x :=
  Bl.ind (P := fun s => ∀ x ∈ s.blocks, LkBl base bS bM bA bL x) (Q := fun x => LkBl base bS bM bA bL x) (fun _ _ _ _ _ _ _ _ _ ih x hx => ih x hx) (fun ad cap body ih => look_step ad cap body ih) x
/-- What Calls gives. -/
def CallsBack (S : List Ref) (w w' : World) (r : Ending) : Prop := ∃ v, r = .returned v ∧ w'.ownsRow w.heap.size 81 2 v S.length (S.flatMap rcells) ∧ Below w.heap.size w w'
set_option maxRecDepth 100000 in
set_option maxHeartbeats 4000000 in
theorem calls_any (x : Bl) (n₀ : Nat) (w : World) (hn : n₀ ≤ w.heap.size) (hI : x.Is n₀ w) (hlen : x.subs.length ≤ 1000000) : Calls Tryd.prog 33 #[x.slice] w fun r w' => CallsBack (callsOf x) w w' r := by
  have hmm := @run_makeMap Tryd.prog
  have hq : ∀ (bS bM bA bL : Nat) (W : World), Below w.heap.size w W → Look W w.heap.size bS bM bA bL [] → Calls Tryd.prog 53 #[x.slice, .pointer (some ⟨bS, 0, none⟩), .pointer (some ⟨bA, 0, none⟩), .pointer (some ⟨bL, 0, none⟩)] W fun r w' => r = .returned (.tuple #[]) ∧ Look w' w.heap.size bS bM bA bL (callsOf x) ∧ Below w.heap.size W w' :=
    fun bS bM bA bL W hW hL => look_any x n₀ [] W hn hW.size (hI.below (hW.mono hn)) hL (by simpa using hlen)
  rcases x with ⟨ad, cap, body⟩
  simp only [Bl.slice] at hq ⊢
  obtain ⟨S, hS⟩ : ∃ S, callsOf (.mk ad cap body) = S := ⟨_, rfl⟩
  rw [hS] at hq ⊢
  clear hS
  go_enter Tryd.func33, Tryd.ntmps33
  go_upto_region 5 with fail
  have hL0 : Look ((((w.alloc (.cells #[.slice none 0 0] 85)).alloc (.map #[] 0)).alloc (.cells #[.map (some (w.heap.size + 1))] 91)).alloc (.cells #[.func (.func 53) #[] #[.pointer (some ⟨w.heap.size + 1 + 1, 0, none⟩), .pointer (some ⟨w.heap.size, 0, none⟩), .pointer (some ⟨w.heap.size + 1 + 1 + 1, 0, none⟩)]] 110)) w.heap.size (w.heap.size + 1 + 1) (w.heap.size + 1) w.heap.size (w.heap.size + 1 + 1 + 1) [] := by
    refine ⟨⟨_, ((((Boxed.new w 85 _).alloc _).alloc _).alloc _), World.ownsRow_nil _ _ _ _⟩, ?_, ?_, ?_, ⟨Nat.le_refl _, by omega, by omega, by omega, by omega, by omega⟩⟩
    · have := (Boxed.new ((w.alloc (.cells #[.slice none 0 0] 85)).alloc (.map #[] 0)) 91 (.map (some (w.heap.size + 1)))).alloc (.cells #[.func (.func 53) #[] #[.pointer (some ⟨w.heap.size + 1 + 1, 0, none⟩), .pointer (some ⟨w.heap.size, 0, none⟩), .pointer (some ⟨w.heap.size + 1 + 1 + 1, 0, none⟩)]] 110)
      rwa [World.size_alloc, World.size_alloc] at this
    · have := ((KMap.new (w.alloc (.cells #[.slice none 0 0] 85))).al (.cells #[.map (some (w.heap.size + 1))] 91)).al (.cells #[.func (.func 53) #[] #[.pointer (some ⟨w.heap.size + 1 + 1, 0, none⟩), .pointer (some ⟨w.heap.size, 0, none⟩), .pointer (some ⟨w.heap.size + 1 + 1 + 1, 0, none⟩)]] 110)
      rwa [World.size_alloc] at this
    · have := Boxed.new (((w.alloc (.cells #[.slice none 0 0] 85)).alloc (.map #[] 0)).alloc (.cells #[.map (some (w.heap.size + 1))] 91)) 110 (.func (.func 53) #[] #[.pointer (some ⟨w.heap.size + 1 + 1, 0, none⟩), .pointer (some ⟨w.heap.size, 0, none⟩), .pointer (some ⟨w.heap.size + 1 + 1 + 1, 0, none⟩)])
      rwa [World.size_alloc, World.size_alloc, World.size_alloc] at this
  have hB0 : Below w.heap.size w ((((w.alloc (.cells #[.slice none 0 0] 85)).alloc (.map #[] 0)).alloc (.cells #[.map (some (w.heap.size + 1))] 91)).alloc (.cells #[.func (.func 53) #[] #[.pointer (some ⟨w.heap.size + 1 + 1, 0, none⟩), .pointer (some ⟨w.heap.size, 0, none⟩), .pointer (some ⟨w.heap.size + 1 + 1 + 1, 0, none⟩)]] 110)) := ((((Below.refl _ w).al le_rfl' _).al le_rfl' _).al le_rfl' _).al le_rfl' _
  obtain ⟨W0, hW0⟩ : ∃ W0, (((w.alloc (.cells #[.slice none 0 0] 85)).alloc (.map #[] 0)).alloc (.cells #[.map (some (w.heap.size + 1))] 91)).alloc (.cells #[.func (.func 53) #[] #[.pointer (some ⟨w.heap.size + 1 + 1, 0, none⟩), .pointer (some ⟨w.heap.size, 0, none⟩), .pointer (some ⟨w.heap.size + 1 + 1 + 1, 0, none⟩)]] 110) = W0 := ⟨_, rfl⟩
  rw [hW0] at hL0 hB0 ⊢
  clear hW0
  have hqc := hq _ _ _ _ W0 hB0 hL0
  have cL := hL0.fn.cell
  clear hq
  go_wp2_with (go_at_call 53; (with_reducible refine hqc.mono ?_); rintro r w5 ⟨rfl, hL5, hb5⟩; obtain ⟨v5, hv5, ho5⟩ := hL5.row; have cA := hv5.cell)
  go_ret
  exact ⟨v5, rfl, ho5, hB0.trans hb5⟩
end Go.Proofs.YtfkabkbnfeiggaaDoor
namespace Go.Proofs.YtfkabkbnfeiggaaDoor
open Go.RowKit
theorem foldl_snoc {α β : Type} (f : α → β → α) (a : α) (l : List β) (k : Nat) (h : k < l.length) : (l.take (k + 1)).foldl f a = f ((l.take k).foldl f a) l[k] := by
  rw [List.take_succ_eq_append_getElem h, List.foldl_append]; rfl
theorem dfs_len {G : Ref → List Ref} {U : List Ref} (hU : ∀ r ∈ U, ∀ x ∈ G r, x ∈ U) (n : Nat) : ∀ (st : List Ref × List Ref) (r : Ref), r ∈ U → (dfs G n st r).2.length + left U (dfs G n st r).1 ≤ st.2.length + left U st.1 := by
  induction n with
  | zero => intro st r _; exact Nat.le_refl _
  | succ n ih =>
    rintro ⟨S, A⟩ r hr
    by_cases h : r ∈ S
    · rw [dfs_seen h]; exact Nat.le_refl _
    · rw [dfs_new h]
      have hf : ∀ (l : List Ref), (∀ x ∈ l, x ∈ U) → ∀ st : List Ref × List Ref, (l.foldl (dfs G n) st).2.length + left U (l.foldl (dfs G n) st).1 ≤ st.2.length + left U st.1 := by
        intro l
        induction l with
        | nil => intro _ st; exact Nat.le_refl _
        | cons x l ihl => intro hl st; exact Nat.le_trans (ihl (fun y hy => hl y (by simp [hy])) _) (ih st x (hl x (by simp)))
      have h1 := hf (G r) (hU r hr) (S ++ [r], A)
      have h2 := left_snoc hr h
      simp only [List.length_append, List.length_cons, List.length_nil] at h1 ⊢
      omega
theorem fold_dfs_len {G : Ref → List Ref} {U : List Ref} (hU : ∀ r ∈ U, ∀ x ∈ G r, x ∈ U) (n : Nat) (l : List Ref) : (∀ x ∈ l, x ∈ U) → ∀ st : List Ref × List Ref, (l.foldl (dfs G n) st).2.length + left U (l.foldl (dfs G n) st).1 ≤ st.2.length + left U st.1 := by
  induction l with
  | nil => intro _ st; exact Nat.le_refl _
  | cons x l ihl => intro hl st; exact Nat.le_trans (ihl (fun y hy => hl y (by simp [hy])) _) (dfs_len hU n st x (hl x (by simp)))
theorem callsOf_mk (b : Bl) (ad : Option Addr) (cap : Nat) : callsOf (.mk ad cap b.body) = callsOf b := by
  rcases b with ⟨ad', cap', body⟩
  rw [callsOf, callsOf, Bl.subs_mk, Bl.subs_mk]; rfl
theorem methIx_mem {l : List Mo} {a c : ByteArray} {f : Me} (h : methIx l a c = some f) : ∃ m ∈ l, f ∈ m.meths := by
  unfold methIx at h
  split at h
  · cases h
  · split at h
    · cases h
    · rename_i m hm
      split at h
      · cases h
      · exact ⟨m, List.mem_of_getElem? hm, List.mem_of_getElem? h⟩
theorem leads_all (p : Pr) (r : Ref) : ∀ x ∈ leadsOf p r, x ∈ allRefs p := by
  intro x hx
  rw [leadsOf, bodyOf] at hx
  split at hx
  · rename_i f hf
    obtain ⟨m, hm, hfm⟩ := methIx_mem hf
    exact List.mem_flatMap.2 ⟨m, hm, List.mem_flatMap.2 ⟨f, hfm, hx⟩⟩
  · rw [callsOf, Bl.subs_mk] at hx; simp [callsA] at hx
theorem closedU (p : Pr) (l : List Ref) : ∀ r ∈ l ++ allRefs p, ∀ x ∈ leadsOf p r, x ∈ l ++ allRefs p := fun r _ x hx => List.mem_append.2 (.inr (leads_all p r x hx))
/-- The book of a program lies in block b: of each method its body, and what it calls. -/
def Book (W : World) (n b : Nat) (p : Pr) : Prop := b < n ∧ ∃ L, KMap W b L ∧ ∀ r : Ref, (methIx p.mons r.1 r.2 = none ∧ kget L r = none) ∨
  ∃ m ad cap cad ccap, methIx p.mons r.1 r.2 = some m ∧ kget L r = some (.agg #[.slice ad m.body.body.length cap, .slice cad (callsOf m.body).length ccap]) ∧ (Bl.mk ad cap m.body.body).Is n W ∧ SlAt 2 rcells n W cad ccap (callsOf m.body)
theorem Book.below {W W' : World} {n b : Nat} {p : Pr} (h : Book W n b p) (hb : Below n W W') : Book W' n b p := by
  obtain ⟨h1, L, h2, h3⟩ := h
  refine ⟨h1, L, h2.below hb h1, fun r => ?_⟩
  rcases h3 r with h | ⟨m, ad, cap, cad, ccap, e1, e2, e3, e4⟩
  · exact .inl h
  · exact .inr ⟨m, ad, cap, cad, ccap, e1, e2, e3.below hb, e4.below hb⟩
theorem zero80 (W : World) : (zeroValue 88).run Tryd.prog W = .ok (.agg #[.slice none 0 0, .slice none 0 0]) W := by kernel_rfl
theorem Book.look {W : World} {n b : Nat} {p : Pr} (h : Book W n b p) {r : Ref} (hr : VLen r) :
    ∃ ad cap cad ccap, (Instr.lookup 69 (.map (some b)) (.agg #[.string r.1, .string r.2]) false).run Tryd.prog W = .ok (.agg #[.slice ad (bodyOf p r).body.length cap, .slice cad (leadsOf p r).length ccap]) W ∧ (Bl.mk ad cap (bodyOf p r).body).Is n W ∧ SlAt 2 rcells n W cad ccap (leadsOf p r) := by
  obtain ⟨h1, L, h2, h3⟩ := h
  have hl := look_km h2 Tryd.underlying69 (zero80 W) hr
  rcases h3 r with ⟨e1, e2⟩ | ⟨m, ad, cap, cad, ccap, e1, e2, e3, e4⟩
  · have hb : bodyOf p r = .mk none 0 [] := by rw [bodyOf, e1]
    have hc : leadsOf p r = [] := by rw [leadsOf, hb, callsOf, Bl.subs_mk]; rfl
    rw [e2] at hl
    refine ⟨none, 0, none, 0, ?_, ?_, ?_⟩
    · rw [hb, hc]; exact hl
    · rw [hb]; exact Bl.Is.up ⟨⟨by simp [Bl.body], by unfold maxLen; omega, .inl rfl⟩, fun s hs => by simp [Bl.body] at hs⟩
    · rw [hc]; exact ⟨by simp, by unfold maxLen; omega, .inl rfl⟩
  · have hb : bodyOf p r = m.body := by rw [bodyOf, e1]
    rw [e2] at hl
    exact ⟨ad, cap, cad, ccap, by rw [leadsOf, hb]; exact hl, by rw [hb]; exact e3, by rw [leadsOf, hb]; exact e4⟩
theorem Book.look2 {W : World} {n b : Nat} {p : Pr} (h : Book W n b p) {r : Ref} (hr : VLen r) :
    ∃ ad cap cad ccap, (Instr.lookup 69 (.map (some b)) (.agg #[.string r.1, .string r.2]) true).run Tryd.prog W = .ok (.tuple #[.agg #[.slice ad (bodyOf p r).body.length cap, .slice cad (leadsOf p r).length ccap], .bool (methIx p.mons r.1 r.2).isSome]) W := by
  obtain ⟨h1, L, h2, h3⟩ := h
  have hl := look2_km h2 Tryd.underlying69 (zero80 W) hr
  rcases h3 r with ⟨e1, e2⟩ | ⟨m, ad, cap, cad, ccap, e1, e2, e3, e4⟩
  · have hb : bodyOf p r = .mk none 0 [] := by rw [bodyOf, e1]
    have hc : leadsOf p r = [] := by rw [leadsOf, hb, callsOf, Bl.subs_mk]; rfl
    rw [e2] at hl; rw [e1, hb, hc]; exact ⟨none, 0, none, 0, hl⟩
  · have hb : bodyOf p r = m.body := by rw [bodyOf, e1]
    rw [e2] at hl; rw [e1, leadsOf, hb]; exact ⟨ad, cap, cad, ccap, hl⟩
theorem fld80 (ad cad : Option Addr) (l c k d : Nat) (W : World) : (Instr.field 88 (.agg #[.slice ad l c, .slice cad k d]) 1).run Tryd.prog W = .ok (.slice cad k d) W := by kernel_rfl
/-- What reach keeps. -/
structure Rch (W : World) (base bS bM bB b bR bA : Nat) (S A : List Ref) : Prop where
  row : ∃ v, Boxed W bA 85 v ∧ W.ownsRow base 81 2 v A.length (A.flatMap rcells)
  box : Boxed W bS 91 (.map (some bM))
  map : KMap W bM (ones S)
  bk : Boxed W bB 69 (.map (some b))
  fn : Boxed W bR 111 (.func (.func 54) #[] #[.pointer (some ⟨bS, 0, none⟩), .pointer (some ⟨bB, 0, none⟩), .pointer (some ⟨bR, 0, none⟩), .pointer (some ⟨bA, 0, none⟩)])
  lo : base ≤ bA ∧ base ≤ bM ∧ bS ≠ bA ∧ bR ≠ bA ∧ bB ≠ bA
theorem Rch.kept {W W' : World} {base bS bM bB b bR bA : Nat} {S A : List Ref} (h : Rch W base bS bM bB b bR bA S A) (hb : Below W.heap.size W W') : Rch W' base bS bM bB b bR bA S A := by
  obtain ⟨⟨v, h1, h2⟩, h3, h4, h5, h6, h7⟩ := h
  exact ⟨⟨v, boxed_of h1 hb, owns_below h2 hb⟩, boxed_of h3 hb, h4.below hb h4.lt, boxed_of h5 hb, boxed_of h6 hb, h7⟩
/-- Block k is not the row that the box bA holds. -/
def Apart (W : World) (bA k : Nat) : Prop := ∀ v, Boxed W bA 85 v → v.ownBlock ≠ some k
/-- All blocks stand but the map, the box of the row, and the row. -/
def Kr (bM bA : Nat) (w w' : World) : Prop := w.heap.size ≤ w'.heap.size ∧ ∀ k, k < w.heap.size → k ≠ bM → k ≠ bA → Apart w bA k → w'.heap[k]? = w.heap[k]? ∧ Apart w' bA k
theorem Kr.refl (bM bA : Nat) (w : World) : Kr bM bA w w := ⟨Nat.le_refl _, fun _ _ _ _ h => ⟨rfl, h⟩⟩
theorem Kr.trans {bM bA : Nat} {w u x : World} (h : Kr bM bA w u) (g : Kr bM bA u x) : Kr bM bA w x :=
  ⟨Nat.le_trans h.1 g.1, fun k hk h1 h2 h3 => by
    obtain ⟨a, b⟩ := h.2 k hk h1 h2 h3
    obtain ⟨c, d⟩ := g.2 k (Nat.lt_of_lt_of_le hk h.1) h1 h2 b
    exact ⟨c.trans a, d⟩⟩
theorem Kr.below {bM bA : Nat} {w w' : World} (hb : Below w.heap.size w w') (hA : bA < w.heap.size) : Kr bM bA w w' :=
  ⟨hb.size, fun k hk _ _ h3 => ⟨hb.block k hk, fun v hv => h3 v ((hb.block bA hA).symm.trans hv)⟩⟩
theorem Kr.grown {bM bA : Nat} {w w' : World} (hg : w.grownBy w' (some bM)) (hA : bA < w.heap.size) (hne : some bA ≠ some bM) : Kr bM bA w w' :=
  ⟨hg.size, fun k hk h1 _ h3 => ⟨hg.block k hk (fun e => h1 (by cases e; rfl)), fun v hv => h3 v ((hg.block bA hA hne).symm.trans hv)⟩⟩
theorem Apart.of {W : World} {bA k base e size n : Nat} {v : Value} {xs : List Value} (hA : Boxed W bA 85 v) (ho : W.ownsRow base e size v n xs) (hk : W.heap.size ≤ k) : Apart W bA k := by
  intro u hu
  have : u = v := by
    have e1 : W.heap[bA]? = some (.cells #[u] 85 (0, 0)) := hu
    have e2 : W.heap[bA]? = some (.cells #[v] 85 (0, 0)) := hA
    rw [e1] at e2; simpa using e2
  subst this
  rcases ho.2 with ⟨rfl, _⟩ | ⟨g, cap, cur, rfl, _, hgb, _⟩
  · simp [Value.ownBlock]
  · intro e'
    obtain rfl : g = k := by simpa [Value.ownBlock] using e'
    have := (Array.getElem?_eq_some_iff.1 hgb).1
    omega
theorem Kr.app {bM bA g n cap : Nat} {W w1 : World} {v : Value} {tmp : Obj} (hA : Boxed W bA 85 v) (hgrow : (W.alloc tmp).grownBy w1 v.ownBlock) (hat : v.ownBlock = some g ∨ W.heap.size ≤ g) (hfin : Boxed (w1.setCell ⟨bA, 0, none⟩ (.slice (some ⟨g, 0, none⟩) n cap)) bA 85 (.slice (some ⟨g, 0, none⟩) n cap)) :
    Kr bM bA W (w1.setCell ⟨bA, 0, none⟩ (.slice (some ⟨g, 0, none⟩) n cap)) := by
  have hs := hgrow.size
  simp at hs
  refine ⟨by have := (grownBy_setCell' w1 bA (.slice (some ⟨g, 0, none⟩) n cap)).size; omega, fun k hk _ h2 h3 => ⟨?_, fun u hu => ?_⟩⟩
  · refine (Below.heap_setCell _ ⟨bA, 0, none⟩ _ k h2).trans ((hgrow.block k (by simp; omega) (fun e => h3 v hA e.symm)).trans (Below.heap_alloc _ _ _ hk))
  · have : u = .slice (some ⟨g, 0, none⟩) n cap := by
      have e1 : (w1.setCell ⟨bA, 0, none⟩ (.slice (some ⟨g, 0, none⟩) n cap)).heap[bA]? = some (.cells #[u] 85 (0, 0)) := hu
      have e2 : (w1.setCell ⟨bA, 0, none⟩ (.slice (some ⟨g, 0, none⟩) n cap)).heap[bA]? = some (.cells #[.slice (some ⟨g, 0, none⟩) n cap] 85 (0, 0)) := hfin
      rw [e1] at e2; simpa using e2
    subst this
    intro e
    obtain rfl : g = k := by simpa [Value.ownBlock] using e
    rcases hat with h | h
    · exact h3 v hA h
    · omega
/-- reach does a method, with so much fuel. -/
def RcOk (p : Pr) (U : List Ref) (base bS bM bB b bR bA n : Nat) : Prop := ∀ (n₀ : Nat) (S A : List Ref) (r : Ref) (w : World), n₀ ≤ base → base ≤ w.heap.size → Book w n₀ b p → Rch w base bS bM bB b bR bA S A → r ∈ U → left U S ≤ n → A.length + left U S ≤ 1000000 →
  Calls Tryd.prog 54 #[.agg #[.string r.1, .string r.2], .pointer (some ⟨bS, 0, none⟩), .pointer (some ⟨bB, 0, none⟩), .pointer (some ⟨bR, 0, none⟩), .pointer (some ⟨bA, 0, none⟩)] w fun e w' => e = .returned (.tuple #[]) ∧ Rch w' base bS bM bB b bR bA (dfs (leadsOf p) n (S, A) r).1 (dfs (leadsOf p) n (S, A) r).2 ∧ Below base w w' ∧ Kr bM bA w w'
set_option maxRecDepth 100000 in
set_option maxHeartbeats 4000000 in
theorem reach_old {p : Pr} {U : List Ref} {base bS bM bB b bR bA n : Nat} (hV : ∀ r ∈ U, VLen r) (S A : List Ref) (r : Ref) (w : World) (hb : base ≤ w.heap.size) (hR : Rch w base bS bM bB b bR bA S A) (hr : r ∈ U) (hm : r ∈ S) :
    Calls Tryd.prog 54 #[.agg #[.string r.1, .string r.2], .pointer (some ⟨bS, 0, none⟩), .pointer (some ⟨bB, 0, none⟩), .pointer (some ⟨bR, 0, none⟩), .pointer (some ⟨bA, 0, none⟩)] w fun e w' => e = .returned (.tuple #[]) ∧ Rch w' base bS bM bB b bR bA (dfs (leadsOf p) n (S, A) r).1 (dfs (leadsOf p) n (S, A) r).2 ∧ Below base w w' ∧ Kr bM bA w w' := by
  rw [dfs_seen hm]
  have hvl := hV r hr
  obtain ⟨bX, hBX, hzX⟩ := one_box w #[.string r.1, .string r.2] 81
  have hR0 := hR.kept hBX
  have hlk := look_km hR0.map Tryd.underlying91 (zero3' _) hvl
  rw [ones_get, if_pos hm] at hlk
  have cS := hR0.box.cell
  have hB0 := hBX.mono hb
  have hK0 : Kr bM bA w (w.alloc (.cells #[.string r.1, .string r.2] 81)) := Kr.below hBX (by obtain ⟨⟨_, g, _⟩, _⟩ := hR; exact g.lt)
  clear hm hzX bX
  go_enter Tryd.func54, Tryd.ntmps54
  go_wp2
  refine bodyPost_ret (results_none rfl _ _ _) rfl ?_
  exact ⟨rfl, hR0, hB0, hK0⟩
set_option maxRecDepth 100000 in
set_option maxHeartbeats 4000000 in
theorem reach_new {p : Pr} {U : List Ref} {base bS bM bB b bR bA m : Nat} (hV : ∀ r ∈ U, VLen r) (hU : ∀ r ∈ U, ∀ x ∈ leadsOf p r, x ∈ U) (ih : RcOk p U base bS bM bB b bR bA m)
    (n₀ : Nat) (S A : List Ref) (r : Ref) (w : World) (hn : n₀ ≤ base) (hb : base ≤ w.heap.size) (hBk : Book w n₀ b p) (hR : Rch w base bS bM bB b bR bA S A) (hr : r ∈ U) (hm : r ∉ S) (hlf : left U S ≤ m + 1) (hlen : A.length + left U S ≤ 1000000) :
    Calls Tryd.prog 54 #[.agg #[.string r.1, .string r.2], .pointer (some ⟨bS, 0, none⟩), .pointer (some ⟨bB, 0, none⟩), .pointer (some ⟨bR, 0, none⟩), .pointer (some ⟨bA, 0, none⟩)] w fun e w' => e = .returned (.tuple #[]) ∧ Rch w' base bS bM bB b bR bA (dfs (leadsOf p) (m + 1) (S, A) r).1 (dfs (leadsOf p) (m + 1) (S, A) r).2 ∧ Below base w w' ∧ Kr bM bA w w' := by
  rw [dfs_new hm]
  have hvl := hV r hr
  have hlf2 := left_snoc hr hm
  have hUr := hU r hr
  rcases r with ⟨mon, name⟩
  obtain ⟨gs, hgs⟩ : ∃ gs, leadsOf p (mon, name) = gs := ⟨_, rfl⟩
  rw [hgs] at hUr ⊢
  have HG := hid hgs
  clear hgs
  obtain ⟨bX, hBX, hzX⟩ := one_box w #[.string mon, .string name] 81
  have hR0 := hR.kept hBX
  have hB0 := hBX.mono hb
  go_enter Tryd.func54, Tryd.ntmps54
  go_upto_region 1 with fail
  obtain ⟨Bs, hBs⟩ : ∃ Bs, w.heap.size = Bs := ⟨_, rfl⟩
  obtain ⟨W2, hW2⟩ : ∃ W2, w.alloc (.cells #[.string mon, .string name] 81) = W2 := ⟨_, rfl⟩
  have hBk0 : Book W2 n₀ b p := by rw [← hW2]; exact hBk.below (hBX.mono (by omega))
  rw [hW2] at bX hR0 hB0 ⊢
  rw [hBs] at bX ⊢
  have hBsW : Bs < W2.heap.size := (Array.getElem?_eq_some_iff.1 bX).1
  have hK0 : Kr bM bA w W2 := by rw [← hW2]; exact Kr.below hBX (by obtain ⟨⟨_, g, _⟩, _⟩ := hR; exact g.lt)
  have hAp0 : Apart W2 bA Bs := by
    obtain ⟨⟨v, g1, g2⟩, _⟩ := hR
    have h1 := Apart.of g1 g2 (Nat.le_of_eq hBs)
    intro u hu
    exact h1 u (((hBX.block bA g1.lt).symm.trans (by rw [hW2]; exact hu)))
  have HNB : Hid (Bs ≠ bM ∧ Bs ≠ bA) := by
    obtain ⟨⟨v, g1, _⟩, _, g2, _, _⟩ := hR
    have e1 := g1.lt
    have e2 := g2.lt
    exact ⟨by omega, by omega⟩
  have y0 := cellOf bX 0
  have y1 := cellOf bX 1
  simp at y0 y1
  have cS := hR0.box.cell
  have hlk := look_km hR0.map Tryd.underlying91 (zero3' _) hvl
  rw [ones_get, if_neg hm] at hlk
  have hmk : (mon, name) ∉ (ones S).map Prod.fst := by rw [ones_fst]; exact hm
  have hMd : KMap W2.drew bM (ones S) := hR0.map
  have E0 := entry_km hMd Tryd.underlying91 hvl hmk
  have hMe : KMap (kmW W2.drew bM (ones S ++ [((mon, name), .int .i64 0)])) bM (ones S ++ [((mon, name), .int .i64 0)]) := kmW_map hMd (vlen_snoc hMd.2.1 hvl _) (nodup_snoc hMd.2.2 _ hmk)
  have L0 := look_km hMd Tryd.underlying91 (zero3' _) hvl
  rw [ones_get, if_neg hm] at L0
  have L1 := look_km hMe Tryd.underlying91 (zero3' _) hvl
  have hkg : kget (ones S ++ [((mon, name), .int .i64 0)]) (mon, name) = some (.int .i64 0) := by
    have := kget_put (ones S) (mon, name) (.int .i64 0) (mon, name)
    rw [kput_new _ _ _ hmk, if_pos rfl] at this
    exact this
  rw [hkg] at L1
  have E1 := store_km (T := 91) hMe
  rw [kmW_twice, ones_len] at E1
  rw [ones_len] at E0
  simp only [Option.getD_some] at hlk L0 L1 E0 E1
  have HM := hid hm
  clear hm hkg hMe hMd hW2 hBs hR hBX hzX hBk
  go_upto_region 2 with fail
  go_region
  have gW := kmW_drew W2 bM (ones S ++ [((mon, name), .int .i64 1)])
  have hM4 : KMap (kmW W2.drew bM (ones S ++ [((mon, name), .int .i64 1)])) bM (ones (S ++ [(mon, name)])) := by
    rw [ones_snoc]
    exact kmW_map (L := ones S) hR0.map (vlen_snoc hR0.map.2.1 hvl _) (nodup_snoc hR0.map.2.2 _ hmk)
  obtain ⟨⟨v, hA, hown⟩, hS, hMp, hK, hF, hlo⟩ := hR0
  have hR4 : Rch (kmW W2.drew bM (ones S ++ [((mon, name), .int .i64 1)])) base bS bM bB b bR bA (S ++ [(mon, name)]) A := ⟨⟨v, hA.kept gW (box_ne_map hA hMp), hown.kept gW (.inr (hMp.not_row hown).symm)⟩, hS.kept gW (box_ne_map hS hMp), hM4, hK.kept gW (box_ne_map hK hMp), hF.kept gW (box_ne_map hF hMp), hlo⟩
  have hK4 := Kr.grown (bM := bM) (bA := bA) gW hA.lt (box_ne_map hA hMp)
  have hAp4 := (hK4.2 Bs hBsW HNB.out.1 HNB.out.2 hAp0).2
  have hK4 := hK0.trans hK4
  have bX4 := (gW.block Bs hBsW (fun e => HNB.out.1 (by cases e; rfl))).trans bX
  have hB4 : Below base w (kmW W2.drew bM (ones S ++ [((mon, name), .int .i64 1)])) := hB0.grown gW (by have := hB0.size; omega) (fun k e => by cases e; exact hlo.2.1)
  have hBk4 : Book (kmW W2.drew bM (ones S ++ [((mon, name), .int .i64 1)])) n₀ b p := hBk0.below ((Below.refl _ _).grown gW (by have := hB0.size; omega) (fun k e => by cases e; omega))
  obtain ⟨W4, hW4⟩ : ∃ W4, kmW W2.drew bM (ones S ++ [((mon, name), .int .i64 1)]) = W4 := ⟨_, rfl⟩
  rw [hW4] at hR4 bX4 hB4 hBk4 hK4 hAp4 ⊢
  clear hW4 gW E0 E1 L0 L1 hlk hMp hA hS hF hK hown bX y0 y1 cS hmk hM4 hBk0 hB0
  have cB := hR4.bk.cell
  have y0 := cellOf bX4 0
  have y1 := cellOf bX4 1
  simp at y0 y1
  obtain ⟨gad, gcap, cad, ccap, hlook, -, hcl⟩ := hBk4.look hvl
  simp only at hlook
  rw [HG.out] at hlook hcl
  obtain ⟨gl, hgl⟩ : ∃ gl, (bodyOf p (mon, name)).body.length = gl := ⟨_, rfl⟩
  rw [hgl] at hlook
  clear hgl
  have hf80 := fld80
  have hcl1 := hcl.1; have hcl2 := hcl.2.1
  unfold maxLen at hcl2
  go_wp2
  clear hlook cB y0 y1
  have hz40 := hB4.size
  go_loopw [23] (fun i wr => ∃ k : Nat, k ≤ gs.length ∧ i = .int .i64 k ∧ Rch wr base bS bM bB b bR bA ((gs.take k).foldl (dfs (leadsOf p) m) (S ++ [(mon, name)], A)).1 ((gs.take k).foldl (dfs (leadsOf p) m) (S ++ [(mon, name)], A)).2 ∧ Below base W4 wr ∧ Kr bM bA W4 wr)
    (fun i _ => gs.length - (intOf i).toNat)
  case atStart => exact ⟨0, by omega, rfl, hR4, Below.refl _ _, Kr.refl _ _ _⟩
  case round =>
    obtain ⟨k, hk, rfl, hRr, hbw, hKr⟩ := hrel
    have hBs4 := (Array.getElem?_eq_some_iff.1 bX4).1
    obtain ⟨bXr, hApr⟩ := hKr.2 Bs hBs4 HNB.out.1 HNB.out.2 hAp4
    have bXr := bXr.trans bX4
    have hz1 := hbw.size
    have hmn := fold_dfs_mono (leadsOf p) m (gs.take k) (S ++ [(mon, name)], A)
    have hln := fold_dfs_len hU m (gs.take k) (fun x hx => hUr x (List.mem_of_mem_take hx)) (S ++ [(mon, name)], A)
    have hlm := left_mono (U := U) hmn
    simp only at hln hlm
    obtain ⟨st, hst⟩ : ∃ st, (gs.take k).foldl (dfs (leadsOf p) m) (S ++ [(mon, name)], A) = st := ⟨_, rfl⟩
    rw [hst] at hRr hln hlm
    clear hmn
    by_cases hlt : k < gs.length
    · rcases hcl.2.2 with h | ⟨qb, qoff, rfl, hqn, hqrow⟩
      · subst h; simp at hlt
      have HF := hid ((foldl_snoc (dfs (leadsOf p) m) (S ++ [(mon, name)], A) gs k hlt).trans (by rw [hst]))
      have hqrow2 := hqrow.below (hbw.mono hn) hqn
      have d0 := hqrow2 k hlt 0 (by omega)
      have d1 := hqrow2 k hlt 1 (by omega)
      have hqw : qb < wr.heap.size := by omega
      have hgU := hUr _ (List.getElem_mem hlt)
      obtain ⟨bN, hBN, hzN⟩ := one_box wr #[.string gs[k].1, .string gs[k].2] 81
      have hq := ih n₀ st.1 st.2 gs[k] (wr.alloc (.cells #[.string gs[k].1, .string gs[k].2] 81)) hn (by simp; omega) (hBk4.below ((hbw.trans (hBN.mono (by omega))).mono hn)) (hRr.kept hBN) hgU (by omega) (by omega)
      have bXn := (hBN.block Bs (Array.getElem?_eq_some_iff.1 bXr).1).trans bXr
      have cR := (boxed_of hRr.fn hBN).cell
      simp only [rcells] at d0 d1
      simp at d0 d1
      obtain ⟨g1, hg1⟩ : ∃ g1, gs[k] = g1 := ⟨_, rfl⟩
      rw [hg1] at d0 d1 hq HF bN hBN hzN bXn cR hgU
      clear hg1
      obtain ⟨gm, gn⟩ := g1
      simp only at d0 d1 hq bN hBN hzN bXn cR
      have hBN2 : Below base wr (wr.alloc (.cells #[.string gm, .string gn] 81)) := hBN.mono (by omega)
      have HDB : Hid (dfs (leadsOf p) m (st.1, st.2) (gm, gn) = dfs (leadsOf p) m st (gm, gn)) := rfl
      have hKn : Kr bM bA wr (wr.alloc (.cells #[.string gm, .string gn] 81)) := Kr.below hBN (by obtain ⟨⟨_, g, _⟩, _⟩ := hRr; exact g.lt)
      clear hst hRr hBk4 bX4 bXr ih
      go_wp2_with (go_at_call 54; (with_reducible refine hq.mono ?_); rintro r w5 ⟨rfl, hR5, hb5, hk5⟩)
      go_roundw
      case rel => exact ⟨k + 1, by omega, by go_num, by rw [HF.out]; exact hR5, (hbw.trans hBN2).trans hb5, (hKr.trans hKn).trans hk5⟩
      case measure => simp [intOf]; omega
    · have hkd : decide ((k : Int) < (gs.length : Int)) = false := by simp; omega
      have hke : k = gs.length := by omega
      have HST : Hid (gs.foldl (dfs (leadsOf p) m) (S ++ [(mon, name)], A) = st) := by
        show _ = _
        rw [hke, List.take_length] at hst; exact hst
      clear hke hst
      obtain ⟨⟨v, hA, hown⟩, hSb, hMp, hKb, hF, hlo⟩ := hRr
      have cA := hA.cell
      have y0 := cellOf bXr 0
      have y1 := cellOf bXr 1
      simp at y0 y1
      obtain ⟨i0, hi, hz0, hz1, hz2⟩ := info_parts infoRef
      have hbase4 : base ≤ wr.heap.size := by omega
      have hstl : st.2.length ≤ 1000000 := by omega
      have hownA := hown.alloc (.cells #[.string mon, .string name] 81)
      have hcn : ∀ j u, ([.string mon, .string name] : List Value)[j]? = some u → (wr.alloc (.cells #[.string mon, .string name] 81)).cell? ((⟨wr.heap.size, 0, none⟩ : Addr).add j) = some u := by
        intro j u hju
        rcases j with _ | _ | j
        · show (wr.alloc _).cell? ⟨wr.heap.size, 0 + 0, none⟩ = _
          rw [cellOf (heapNew wr _)]; simpa using hju
        · show (wr.alloc _).cell? ⟨wr.heap.size, 0 + 1, none⟩ = _
          rw [cellOf (heapNew wr _)]; simpa using hju
        · simp at hju
      go_wp2_with (at_builtin; refine wpList_append_lies _ rfl _ _ 85 rfl base 81 i0 _ 2 32 Tryd.underlying85 hi hz0 hz1 hz2 rfl (by decide) _ _ _ rfl hownA ⟨wr.heap.size, 0, none⟩ 1 1 [.string mon, .string name] rfl rfl hcn (by simp [Value.oneCell']) (by omega) (by unfold maxLen; omega) (by omega) (by simp; omega) _ rfl ?_; intro g cap w1 hown' hgrow hat hlt; obtain ⟨hw1, hw2, hw3, hw4, hw5⟩ := hA.appended (by decide) hown hbase4 hlo.1 hown' hgrow; have hc1 := hw1.cell; have hf1 := hw1.frozen)
      go_end0
      rw [HST.out]
      have hat2 : v.ownBlock = some g ∨ wr.heap.size ≤ g := by
        rcases hat with h | h
        · exact .inl h
        · right; simp at h; omega
      refine ⟨rfl, ⟨⟨_, hw2, by simpa [rcells] using hw3⟩, ((hSb.alloc _).kept hgrow (hSb.not_row (by decide) hown)).other hlo.2.2.1 _, hMp.kept (hw4.same _ _ hMp.1 rfl |>.trans hMp.1.symm), ((hKb.alloc _).kept hgrow (hKb.not_row (by decide) hown)).other hlo.2.2.2.2 _, ((hF.alloc _).kept hgrow (hF.not_row (by decide) hown)).other hlo.2.2.2.1 _, hlo⟩, (hB4.trans hbw).trans hw5, (hK4.trans hKr).trans (Kr.app hA hgrow hat2 hw2)⟩
theorem reach_any {p : Pr} {U : List Ref} {base bS bM bB b bR bA : Nat} (hV : ∀ r ∈ U, VLen r) (hU : ∀ r ∈ U, ∀ x ∈ leadsOf p r, x ∈ U) (n : Nat) : RcOk p U base bS bM bB b bR bA n := by
  induction n with
  | zero =>
    intro n₀ S A r w hn hb hBk hR hr hl hlen
    refine reach_old hV S A r w hb hR hr ?_
    by_cases hm : r ∈ S
    · exact hm
    · have := left_snoc hr hm; omega
  | succ m ih =>
    intro n₀ S A r w hn hb hBk hR hr hl hlen
    by_cases hm : r ∈ S
    · exact reach_old hV S A r w hb hR hr hm
    · exact reach_new hV hU ih n₀ S A r w hn hb hBk hR hr hm hl hlen
set_option maxRecDepth 100000 in
set_option maxHeartbeats 4000000 in
theorem reached_any (p : Pr) (l : List Ref) (ad : Option Addr) (cap n₀ b : Nat) (w : World) (hn : n₀ ≤ w.heap.size) (hBk : Book w n₀ b p) (hsl : SlAt 2 rcells n₀ w ad cap l) (hV : ∀ r ∈ l ++ allRefs p, VLen r) (hsm : l.length + (allRefs p).length ≤ 1000000) :
    Calls Tryd.prog 34 #[.map (some b), .slice ad l.length cap] w fun r w' => CallsBack (reachedOf p l) w w' r := by
  have hU := closedU p l
  have hlU : ∀ x ∈ l, x ∈ l ++ allRefs p := fun x hx => List.mem_append.2 (.inl hx)
  have hlf0 : left (l ++ allRefs p) [] ≤ l.length + (allRefs p).length := by
    refine Nat.le_trans (List.length_filter_le _ _) ?_
    simp
  have HR := hid (show reachedOf p l = (l.foldl (dfs (leadsOf p) (l.length + (allRefs p).length)) ([], [])).2 from rfl)
  have hra := fun (bS bM bB bR bA : Nat) => reach_any (base := w.heap.size) (bS := bS) (bM := bM) (bB := bB) (b := b) (bR := bR) (bA := bA) hV hU (l.length + (allRefs p).length)
  have hmm := @run_makeMap Tryd.prog
  have hl1 := hsl.1; have hl2 := hsl.2.1
  unfold maxLen at hl2
  go_enter Tryd.func34, Tryd.ntmps34
  go_upto_region 5 with fail
  have hR0 : Rch (((((w.alloc (.cells #[.map (some b)] 69)).alloc (.cells #[.slice none 0 0] 85)).alloc (.map #[] 0)).alloc (.cells #[.map (some (w.heap.size + 1 + 1))] 91)).alloc (.cells #[.func (.func 54) #[] #[.pointer (some ⟨w.heap.size + 1 + 1 + 1, 0, none⟩), .pointer (some ⟨w.heap.size, 0, none⟩), .pointer (some ⟨w.heap.size + 1 + 1 + 1 + 1, 0, none⟩), .pointer (some ⟨w.heap.size + 1, 0, none⟩)]] 111)) w.heap.size (w.heap.size + 1 + 1 + 1) (w.heap.size + 1 + 1) w.heap.size b (w.heap.size + 1 + 1 + 1 + 1) (w.heap.size + 1) [] [] := by
    refine ⟨⟨.slice none 0 0, ?_, World.ownsRow_nil _ _ _ _⟩, ?_, ?_, ?_, ?_, ⟨by omega, by omega, by omega, by omega, by omega⟩⟩
    · have := (((Boxed.new (w.alloc (.cells #[.map (some b)] 69)) 85 (.slice none 0 0)).alloc (.map #[] 0)).alloc (.cells #[.map (some (w.heap.size + 1 + 1))] 91)).alloc (.cells #[.func (.func 54) #[] #[.pointer (some ⟨w.heap.size + 1 + 1 + 1, 0, none⟩), .pointer (some ⟨w.heap.size, 0, none⟩), .pointer (some ⟨w.heap.size + 1 + 1 + 1 + 1, 0, none⟩), .pointer (some ⟨w.heap.size + 1, 0, none⟩)]] 111)
      rwa [World.size_alloc] at this
    · have := (Boxed.new (((w.alloc (.cells #[.map (some b)] 69)).alloc (.cells #[.slice none 0 0] 85)).alloc (.map #[] 0)) 91 (.map (some (w.heap.size + 1 + 1)))).alloc (.cells #[.func (.func 54) #[] #[.pointer (some ⟨w.heap.size + 1 + 1 + 1, 0, none⟩), .pointer (some ⟨w.heap.size, 0, none⟩), .pointer (some ⟨w.heap.size + 1 + 1 + 1 + 1, 0, none⟩), .pointer (some ⟨w.heap.size + 1, 0, none⟩)]] 111)
      rwa [World.size_alloc, World.size_alloc, World.size_alloc] at this
    · have := ((KMap.new ((w.alloc (.cells #[.map (some b)] 69)).alloc (.cells #[.slice none 0 0] 85))).al (.cells #[.map (some (w.heap.size + 1 + 1))] 91)).al (.cells #[.func (.func 54) #[] #[.pointer (some ⟨w.heap.size + 1 + 1 + 1, 0, none⟩), .pointer (some ⟨w.heap.size, 0, none⟩), .pointer (some ⟨w.heap.size + 1 + 1 + 1 + 1, 0, none⟩), .pointer (some ⟨w.heap.size + 1, 0, none⟩)]] 111)
      rwa [World.size_alloc, World.size_alloc] at this
    · exact ((((Boxed.new w 69 (.map (some b))).alloc _).alloc _).alloc _).alloc _
    · have := Boxed.new ((((w.alloc (.cells #[.map (some b)] 69)).alloc (.cells #[.slice none 0 0] 85)).alloc (.map #[] 0)).alloc (.cells #[.map (some (w.heap.size + 1 + 1))] 91)) 111 (.func (.func 54) #[] #[.pointer (some ⟨w.heap.size + 1 + 1 + 1, 0, none⟩), .pointer (some ⟨w.heap.size, 0, none⟩), .pointer (some ⟨w.heap.size + 1 + 1 + 1 + 1, 0, none⟩), .pointer (some ⟨w.heap.size + 1, 0, none⟩)])
      rwa [World.size_alloc, World.size_alloc, World.size_alloc, World.size_alloc] at this
  have hB0 : Below w.heap.size w (((((w.alloc (.cells #[.map (some b)] 69)).alloc (.cells #[.slice none 0 0] 85)).alloc (.map #[] 0)).alloc (.cells #[.map (some (w.heap.size + 1 + 1))] 91)).alloc (.cells #[.func (.func 54) #[] #[.pointer (some ⟨w.heap.size + 1 + 1 + 1, 0, none⟩), .pointer (some ⟨w.heap.size, 0, none⟩), .pointer (some ⟨w.heap.size + 1 + 1 + 1 + 1, 0, none⟩), .pointer (some ⟨w.heap.size + 1, 0, none⟩)]] 111)) := (((((Below.refl _ w).al le_rfl' _).al le_rfl' _).al le_rfl' _).al le_rfl' _).al le_rfl' _
  obtain ⟨W0, hW0⟩ : ∃ W0, (((((w.alloc (.cells #[.map (some b)] 69)).alloc (.cells #[.slice none 0 0] 85)).alloc (.map #[] 0)).alloc (.cells #[.map (some (w.heap.size + 1 + 1))] 91)).alloc (.cells #[.func (.func 54) #[] #[.pointer (some ⟨w.heap.size + 1 + 1 + 1, 0, none⟩), .pointer (some ⟨w.heap.size, 0, none⟩), .pointer (some ⟨w.heap.size + 1 + 1 + 1 + 1, 0, none⟩), .pointer (some ⟨w.heap.size + 1, 0, none⟩)]] 111)) = W0 := ⟨_, rfl⟩
  rw [hW0] at hR0 hB0 ⊢
  clear hW0
  have hq := hra (w.heap.size + 1 + 1 + 1) (w.heap.size + 1 + 1) w.heap.size (w.heap.size + 1 + 1 + 1 + 1) (w.heap.size + 1)
  clear hra hmm
  obtain ⟨N, hN⟩ : ∃ N, l.length + (allRefs p).length = N := ⟨_, rfl⟩
  rw [hN] at hq HR hlf0 hsm
  clear hN
  go_wp2
  go_loopw [14] (fun i wr => ∃ k : Nat, k ≤ l.length ∧ i = .int .i64 k ∧ Rch wr w.heap.size (w.heap.size + 1 + 1 + 1) (w.heap.size + 1 + 1) w.heap.size b (w.heap.size + 1 + 1 + 1 + 1) (w.heap.size + 1) ((l.take k).foldl (dfs (leadsOf p) N) ([], [])).1 ((l.take k).foldl (dfs (leadsOf p) N) ([], [])).2 ∧ Below w.heap.size w wr)
    (fun i _ => l.length - (intOf i).toNat)
  case atStart => exact ⟨0, by omega, rfl, hR0, hB0⟩
  case round =>
    obtain ⟨k, hk, rfl, hRr, hbw⟩ := hrel
    have hz1 := hbw.size
    have hln := fold_dfs_len hU N (l.take k) (fun x hx => hlU x (List.mem_of_mem_take hx)) ([], [])
    have hlm := left_mono (U := l ++ allRefs p) (fold_dfs_mono (leadsOf p) N (l.take k) ([], []))
    simp only [List.length_nil] at hln hlm
    obtain ⟨st, hst⟩ : ∃ st, (l.take k).foldl (dfs (leadsOf p) N) ([], []) = st := ⟨_, rfl⟩
    rw [hst] at hRr hln hlm
    by_cases hlt : k < l.length
    · rcases hsl.2.2 with h | ⟨qb, qoff, rfl, hqn, hqrow⟩
      · subst h; simp at hlt
      have HF := hid ((foldl_snoc (dfs (leadsOf p) N) ([], []) l k hlt).trans (by rw [hst]))
      have hqrow2 := hqrow.below (hbw.mono hn) hqn
      have d0 := hqrow2 k hlt 0 (by omega)
      have d1 := hqrow2 k hlt 1 (by omega)
      have hqw : qb < wr.heap.size := by omega
      have hgU := hlU _ (List.getElem_mem hlt)
      obtain ⟨bN, hBN, hzN⟩ := one_box wr #[.string l[k].1, .string l[k].2] 81
      have hqc := hq n₀ st.1 st.2 l[k] (wr.alloc (.cells #[.string l[k].1, .string l[k].2] 81)) hn (by simp; omega) (hBk.below ((hbw.trans (hBN.mono (by omega))).mono hn)) (hRr.kept hBN) hgU (by omega) (by omega)
      have cR := (boxed_of hRr.fn hBN).cell
      simp only [rcells] at d0 d1
      simp at d0 d1
      obtain ⟨g1, hg1⟩ : ∃ g1, l[k] = g1 := ⟨_, rfl⟩
      rw [hg1] at d0 d1 hqc HF bN hBN hzN cR
      clear hg1 hq hgU
      obtain ⟨gm, gn⟩ := g1
      simp only at d0 d1 hqc bN hBN hzN cR
      have hBN2 : Below w.heap.size wr (wr.alloc (.cells #[.string gm, .string gn] 81)) := hBN.mono (by omega)
      clear hst hRr hR0
      go_wp2_with (go_at_call 54; (with_reducible refine hqc.mono ?_); rintro r w5 ⟨rfl, hR5, hb5, hk5⟩)
      go_roundw
      case rel => exact ⟨k + 1, by omega, by go_num, by rw [HF.out]; exact hR5, (hbw.trans hBN2).trans hb5⟩
      case measure => simp [intOf]; omega
    · have hkd : decide ((k : Int) < (l.length : Int)) = false := by simp; omega
      have hke : k = l.length := by omega
      have HST : Hid (reachedOf p l = st.2) := by
        show _ = _
        rw [hke, List.take_length] at hst; rw [HR.out, hst]
      clear hke hst
      obtain ⟨v, hA, hown⟩ := hRr.row
      have cA := hA.cell
      go_wp2
      go_ret
      exact ⟨v, rfl, by rw [HST.out]; exact hown, hbw⟩
end Go.Proofs.YtfkabkbnfeiggaaDoor
