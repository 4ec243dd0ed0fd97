/-
  Plain: whether nests go round (P13.3): a way round is there just where taking away what nothing leads into leaves something. Nothing is walked here.
-/
import Derived.Test.YthdkgfmlihgceaaHdM
namespace Go.Proofs.Ythdkgfmlihgceaa
/-- A way along nests, of one or more. -/
inductive Tr (l : List (Int × Int)) : Int → Int → Prop
  | one {n : Int × Int} (h : n ∈ l) : Tr l n.1 n.2
  | snoc {a : Int} {n : Int × Int} (h : Tr l a n.1) (hn : n ∈ l) : Tr l a n.2
theorem Tr.trans {l : List (Int × Int)} {a b c : Int} (h : Tr l a b) (k : Tr l b c) : Tr l a c := by
  induction k with
  | one hn => exact .snoc h hn
  | snoc _ hn ih => exact .snoc (ih h) hn
theorem Tr.mono {l m : List (Int × Int)} (hs : ∀ n ∈ l, n ∈ m) {a b : Int} (h : Tr l a b) : Tr m a b := by
  induction h with
  | one hn => exact .one (hs _ hn)
  | snoc _ hn ih => exact .snoc ih (hs _ hn)
/-- There is a way round (P13.3). -/
def Rnd (l : List (Int × Int)) : Prop := ∃ a, Tr l a a
theorem Tr.head {l : List (Int × Int)} {a b : Int} (h : Tr l a b) : ∃ n ∈ l, n.1 = a ∧ (n.2 = b ∨ Tr l n.2 b) := by
  induction h with
  | @one n hn => exact ⟨n, hn, rfl, .inl rfl⟩
  | @snoc a n h hn ih =>
    obtain ⟨m, hm, h1, h2⟩ := ih
    refine ⟨m, hm, h1, .inr ?_⟩
    rcases h2 with h2 | h2
    · rw [h2]; exact .one hn
    · exact .snoc h2 hn
theorem Tr.last {l : List (Int × Int)} {a b : Int} (h : Tr l a b) : ∃ n ∈ l, n.2 = b ∧ (n.1 = a ∨ Tr l a n.1) := by
  cases h with
  | @one n hn => exact ⟨n, hn, rfl, .inl rfl⟩
  | @snoc _ n h hn => exact ⟨n, hn, rfl, .inr h⟩
theorem min_of {R : Int → Int → Prop} (ht : ∀ a b c, R a b → R b c → R a c) (hi : ∀ a, ¬ R a a) : ∀ (L : List Int), L ≠ [] → ∃ m ∈ L, ∀ y ∈ L, ¬ R y m := by
  intro L
  induction L with
  | nil => intro h; exact absurd rfl h
  | cons x L ih =>
    intro _
    by_cases hL : L = []
    · subst hL
      exact ⟨x, by simp, fun y hy => by rw [List.mem_singleton.1 hy]; exact hi x⟩
    · obtain ⟨m, hm, hmin⟩ := ih hL
      by_cases hx : R x m
      · refine ⟨x, by simp, fun y hy hyx => ?_⟩
        rcases List.mem_cons.1 hy with rfl | hy
        · exact hi _ hyx
        · exact hmin y hy (ht _ _ _ hyx hx)
      · refine ⟨m, by simp [hm], fun y hy => ?_⟩
        rcases List.mem_cons.1 hy with rfl | hy
        · exact hx
        · exact hmin y hy
/-- The nests that are left when those of the first of a list are taken away. -/
def remN (l : List (Int × Int)) (fr : List Int) : List (Int × Int) := l.filter fun n => !fr.contains n.1
theorem remN_mem {l : List (Int × Int)} {fr : List Int} {n : Int × Int} : n ∈ remN l fr ↔ n ∈ l ∧ n.1 ∉ fr := by simp [remN]
def innerN (l : List (Int × Int)) (k : Int) : Nat := (l.filter fun n => decide (n.2 = k)).length
/-- Where a monitor leads. -/
def leadsN (l : List (Int × Int)) (v : Int) : List Int := (l.filter fun n => decide (n.1 = v)).map Prod.snd
theorem remN_split (l : List (Int × Int)) (fr : List Int) (v : Int) (hv : v ∉ fr) (k : Int) :
    innerN (remN l fr) k = innerN (remN l (fr ++ [v])) k + (leadsN l v).count k ∧ (remN l fr).length = (remN l (fr ++ [v])).length + (leadsN l v).length := by
  induction l with
  | nil => exact ⟨rfl, rfl⟩
  | cons n l ih =>
    obtain ⟨h1, h2⟩ := ih
    by_cases e : n.1 = v
    · have e1 : n.1 ∉ fr := by rw [e]; exact hv
      have r1 : remN (n :: l) fr = n :: remN l fr := by simp [remN, e1]
      have r2 : remN (n :: l) (fr ++ [v]) = remN l (fr ++ [v]) := by simp [remN, e]
      have r3 : leadsN (n :: l) v = n.2 :: leadsN l v := by simp [leadsN, e]
      rw [r1, r2, r3]
      refine ⟨?_, by simp only [List.length_cons]; omega⟩
      by_cases ek : n.2 = k
      · have : innerN (n :: remN l fr) k = innerN (remN l fr) k + 1 := by simp [innerN, ek]
        rw [this, List.count_cons, h1]; simp [ek]; omega
      · have : innerN (n :: remN l fr) k = innerN (remN l fr) k := by simp [innerN, ek]
        rw [this, List.count_cons, h1]; simp [ek]
    · have r3 : leadsN (n :: l) v = leadsN l v := by simp [leadsN, e]
      rw [r3]
      by_cases e1 : n.1 ∈ fr
      · have r1 : remN (n :: l) fr = remN l fr := by simp [remN, e1]
        have r2 : remN (n :: l) (fr ++ [v]) = remN l (fr ++ [v]) := by simp [remN, e1]
        rw [r1, r2]; exact ⟨h1, h2⟩
      · have r1 : remN (n :: l) fr = n :: remN l fr := by simp [remN, e1]
        have r2 : remN (n :: l) (fr ++ [v]) = n :: remN l (fr ++ [v]) := by simp [remN, e1, e]
        rw [r1, r2]
        refine ⟨?_, by simp only [List.length_cons]; omega⟩
        by_cases ek : n.2 = k
        · simp only [innerN, ek, decide_true, List.filter_cons_of_pos, List.length_cons] at h1 ⊢; omega
        · have a1 : innerN (n :: remN l fr) k = innerN (remN l fr) k := by simp [innerN, ek]
          have a2 : innerN (n :: remN l (fr ++ [v])) k = innerN (remN l (fr ++ [v])) k := by simp [innerN, ek]
          rw [a1, a2]; exact h1
theorem innerN_pos {l : List (Int × Int)} {k : Int} : 0 < innerN l k ↔ ∃ n ∈ l, n.2 = k := by
  rw [innerN, List.length_pos_iff_exists_mem]
  simp
/-- Taking away what nothing leads into: i are done, and of the next one all but K. -/
structure Ki (l : List (Int × Int)) (fr : List Int) (i : Nat) (K : List Int) (into : Int → Int) (left : Int) : Prop where
  le : i ≤ fr.length
  nodup : fr.Nodup
  cnt : ∀ k, into k = (innerN (remN l (fr.take i)) k : Int) + (K.count k : Int)
  lft : left = ((remN l (fr.take i)).length : Int) + (K.length : Int)
  zero : ∀ k ∈ fr, into k = 0
  all : ∀ n ∈ l, into n.1 = 0 → n.1 ∈ fr
  top : ∀ (j : Nat) (h : j < fr.length), ∀ n ∈ l, n.2 = fr[j] → n.1 ∈ fr.take j
variable {l : List (Int × Int)} {fr : List Int} {i : Nat} {K : List Int} {into : Int → Int} {left : Int}
theorem Ki.first (hn : fr.Nodup) (h0 : ∀ k, into k = (innerN l k : Int)) (hz : ∀ k ∈ fr, into k = 0) (ha : ∀ n ∈ l, into n.1 = 0 → n.1 ∈ fr) : Ki l fr 0 [] into (l.length : Int) := by
  have hr : remN l (fr.take 0) = l := by simp [remN]
  refine ⟨Nat.zero_le _, hn, fun k => by rw [hr, h0]; simp, by rw [hr]; simp, hz, ha, fun j h n hnl e => ?_⟩
  have h1 := hz _ (List.getElem_mem h)
  rw [h0] at h1
  have : 0 < innerN l fr[j] := innerN_pos.2 ⟨n, hnl, e⟩
  omega
/-- The next one is begun. -/
theorem Ki.begin (h : Ki l fr i [] into left) (hi : i < fr.length) : Ki l fr (i + 1) (leadsN l fr[i]) into left := by
  have hv : fr[i] ∉ fr.take i := by
    intro hm
    obtain ⟨j, hj, e⟩ := List.getElem_of_mem hm
    rw [List.getElem_take] at e
    have hj2 : j < i := by simp at hj; omega
    exact (List.pairwise_iff_getElem.1 h.nodup) j i (by omega) hi hj2 e
  have ht : fr.take (i + 1) = fr.take i ++ [fr[i]] := List.take_succ_eq_append_getElem hi
  refine ⟨hi, h.nodup, fun k => ?_, ?_, h.zero, h.all, h.top⟩
  · have := h.cnt k
    rw [(remN_split l (fr.take i) fr[i] hv k).1] at this
    rw [ht, this]; simp
  · have := h.lft
    rw [(remN_split l (fr.take i) fr[i] hv 0).2] at this
    rw [ht, this]; simp
def decF (into : Int → Int) (c : Int) : Int → Int := fun k => if k = c then into k - 1 else into k
theorem Ki.bound (h : Ki l fr i K into left) (k : Int) : 0 ≤ into k := by rw [h.cnt k]; omega
/-- One that it leads into has others that lead into it. -/
theorem Ki.skip {c : Int} (h : Ki l fr i (c :: K) into left) (hc : into c ≠ 1) : Ki l fr i K (decF into c) (left - 1) := by
  have hpos : 1 ≤ into c := by rw [h.cnt c]; simp; omega
  refine ⟨h.le, h.nodup, fun k => ?_, by rw [h.lft]; simp only [List.length_cons]; omega, fun k hk => ?_, fun n hn hz => ?_, h.top⟩
  · have := h.cnt k
    unfold decF
    by_cases e : k = c
    · subst e; rw [if_pos rfl, this]; simp; omega
    · have e' : ¬ c = k := fun x => e x.symm
      rw [if_neg e, this]; simp [e']
  · have := h.zero k hk
    unfold decF
    by_cases e : k = c
    · subst e; omega
    · rw [if_neg e]; exact this
  · unfold decF at hz
    by_cases e : n.1 = c
    · rw [if_pos e] at hz; rw [e] at hz; omega
    · rw [if_neg e] at hz; exact h.all n hn hz
/-- Nothing leads into it any more. -/
theorem Ki.free {c : Int} (h : Ki l fr i (c :: K) into left) (hc : into c = 1) : Ki l (fr ++ [c]) i K (decF into c) (left - 1) := by
  have hnm : c ∉ fr := fun hm => by have := h.zero c hm; omega
  have htk : (fr ++ [c]).take i = fr.take i := List.take_append_of_le_length h.le
  have hK : innerN (remN l (fr.take i)) c = 0 ∧ K.count c = 0 := by
    have := h.cnt c
    rw [hc] at this; simp at this; omega
  refine ⟨by simp; have := h.le; omega, ?_, fun k => ?_, by rw [h.lft, htk]; simp only [List.length_cons]; omega, fun k hk => ?_, fun n hn hz => ?_, fun j hj n hn e => ?_⟩
  · exact List.nodup_append.2 ⟨h.nodup, by simp, fun a ha b hb => by simp at hb; rintro rfl; exact hnm (hb ▸ ha)⟩
  · have := h.cnt k
    rw [htk]
    unfold decF
    by_cases e : k = c
    · subst e; rw [if_pos rfl, this]; simp; omega
    · have e' : ¬ c = k := fun x => e x.symm
      rw [if_neg e, this]; simp [e']
  · unfold decF
    rcases List.mem_append.1 hk with hk | hk
    · have := h.zero k hk
      have e : k ≠ c := fun e => hnm (e ▸ hk)
      rw [if_neg e]; exact this
    · rw [List.mem_singleton.1 hk, if_pos rfl, hc]; rfl
  · unfold decF at hz
    by_cases e : n.1 = c
    · rw [e]; simp
    · rw [if_neg e] at hz; exact List.mem_append.2 (.inl (h.all n hn hz))
  · by_cases hj2 : j < fr.length
    · rw [List.getElem_append_left hj2] at e
      rw [List.take_append_of_le_length (by omega)]
      exact h.top j hj2 n hn e
    · have hj3 : j = fr.length := by simp at hj; omega
      subst hj3
      simp at e
      have : n.1 ∈ fr.take i := by
        refine Classical.byContradiction fun hx => ?_
        have : 0 < innerN (remN l (fr.take i)) c := innerN_pos.2 ⟨n, remN_mem.2 ⟨hn, hx⟩, e⟩
        omega
      have h2 : n.1 ∈ fr := List.mem_of_mem_take this
      simpa using h2
theorem Ki.before (h : Ki l fr i K into left) {a b : Int} (hab : Tr l a b) : ∀ (j : Nat) (hj : j < fr.length), b = fr[j] → a ∈ fr.take j := by
  induction hab with
  | @one n hn => intro j hj e; exact h.top j hj n hn e
  | @snoc a n _ hn ih =>
    intro j hj e
    obtain ⟨q, hq, e2⟩ := List.getElem_of_mem (h.top j hj n hn e)
    rw [List.getElem_take] at e2
    have hq2 : q < j := by simp at hq; omega
    obtain ⟨r, hr, e3⟩ := List.getElem_of_mem (ih q (by omega) e2.symm)
    rw [List.getElem_take] at e3
    have hr2 : r < q := by simp at hr; omega
    rw [← e3]
    exact List.mem_of_getElem (i := r) (h := by simp; omega) (by simp)
theorem Ki.end (h : Ki l fr fr.length [] into left) : 0 < left ↔ Rnd l := by
  have hl := h.lft
  rw [List.take_length] at hl
  simp at hl
  constructor
  · intro hp
    have hpos : 0 < (remN l fr).length := by omega
    refine Classical.byContradiction fun hno => ?_
    have hne : (remN l fr).map Prod.fst ≠ [] := by intro e; rw [List.map_eq_nil_iff] at e; rw [e] at hpos; simp at hpos
    obtain ⟨m, hm, hmin⟩ := min_of (R := Tr l) (fun a b c => Tr.trans) (fun a ha => hno ⟨a, ha⟩) _ hne
    obtain ⟨n, hn, rfl⟩ := List.mem_map.1 hm
    obtain ⟨hnl, hnf⟩ := remN_mem.1 hn
    have hz : into n.1 ≠ 0 := fun e => hnf (h.all n hnl e)
    have h1 := h.cnt n.1
    rw [List.take_length] at h1
    simp at h1
    have : 0 < innerN (remN l fr) n.1 := by omega
    obtain ⟨k, hk, e⟩ := innerN_pos.1 this
    refine hmin k.1 (List.mem_map.2 ⟨k, hk, rfl⟩) ?_
    rw [← e]
    exact .one (remN_mem.1 hk).1
  · rintro ⟨a, ha⟩
    refine Classical.byContradiction fun hno => ?_
    have hz : (remN l fr).length = 0 := by omega
    have hall : ∀ n ∈ l, n.1 ∈ fr := fun n hn => Classical.byContradiction fun hx => by
      have := List.length_pos_of_mem (remN_mem.2 ⟨hn, hx⟩); omega
    obtain ⟨n, hn, e, _⟩ := ha.head
    have haf := hall n hn
    rw [e] at haf
    obtain ⟨j, hj, e2⟩ := List.getElem_of_mem haf
    obtain ⟨q, hq, e3⟩ := List.getElem_of_mem (h.before ha j hj e2.symm)
    rw [List.getElem_take] at e3
    have hq2 : q < j := by simp at hq; omega
    exact (List.pairwise_iff_getElem.1 h.nodup) q j (by omega) hj hq2 (e3.trans e2.symm)
/-- What goes round does so with more. -/
theorem Rnd.more {m : List (Int × Int)} (h : Rnd l) (hs : ∀ n ∈ l, n ∈ m) : Rnd m := by
  obtain ⟨a, ha⟩ := h
  exact ⟨a, ha.mono hs⟩
theorem Rnd.self {n : Int × Int} (h : n ∈ l) (e : n.2 = n.1) : Rnd l := ⟨n.1, by have := Tr.one h; rwa [e] at this⟩
/-- One more at an end makes no way round. -/
theorem Rnd.ends {n : Int × Int} (he : ∀ x ∈ l, x.1 ≠ n.2) (hn : n.2 ≠ n.1) (h : Rnd (l ++ [n])) : Rnd l := by
  have key : ∀ a b, Tr (l ++ [n]) a b → b ≠ n.2 → Tr l a b := by
    intro a b h
    induction h with
    | @one x hx =>
      intro hb
      rcases List.mem_append.1 hx with hx | hx
      · exact .one hx
      · rw [List.mem_singleton.1 hx] at hb; exact absurd rfl hb
    | @snoc a x h hx ih =>
      intro hb
      rcases List.mem_append.1 hx with hx | hx
      · exact .snoc (ih (he x hx)) hx
      · rw [List.mem_singleton.1 hx] at hb; exact absurd rfl hb
  obtain ⟨a, ha⟩ := h
  refine ⟨a, key a a ha fun e => ?_⟩
  obtain ⟨x, hx, e1, _⟩ := ha.head
  rcases List.mem_append.1 hx with hx | hx
  · exact he x hx (e1.trans e)
  · rw [List.mem_singleton.1 hx] at e1; exact hn (e.symm.trans e1.symm)
end Go.Proofs.Ythdkgfmlihgceaa
