/-
  The document's Held tells what Held tells.
-/
import Derived.Test.YthdkgfmlihgceaaHdO
import Derived.Test.YthdkgfmlihgceaaHdR
namespace Go.Proofs.Ythdkgfmlihgceaa
open Go.RowKit
/-- Done: all edges from the first n places, and from the next one those of the first i edges. -/
def Dq (es : List Eg) (l : List Int) (n i : Nat) (y : Eg) : Prop := (∃ j, j < n ∧ l[j]? = some y.src) ∨ ∃ q, q < i ∧ es[q]? = some y ∧ l[n]? = some y.src
theorem Dq.start {es : List Eg} {l : List Int} {n : Nat} {y : Eg} (h : Dq es l n 0 y) : ∃ j, j < n ∧ l[j]? = some y.src := by
  rcases h with h | ⟨q, hq, _⟩
  · exact h
  · omega
theorem Dq.step {es : List Eg} {l : List Int} {n i : Nat} {x y : Eg} (hx : es[i]? = some x) (h : Dq es l n (i + 1) y) : Dq es l n i y ∨ y = x := by
  rcases h with h | ⟨q, hq, h1, h2⟩
  · exact .inl (.inl h)
  · by_cases e : q = i
    · subst e
      rw [hx] at h1
      exact .inr (Option.some.inj h1).symm
    · exact .inl (.inr ⟨q, by omega, h1, h2⟩)
theorem Dq.skip {es : List Eg} {l : List Int} {n i : Nat} {x y : Eg} (hx : es[i]? = some x) (hne : l[n]? ≠ some x.src) (h : Dq es l n (i + 1) y) : Dq es l n i y := by
  rcases h with h | ⟨q, hq, h1, h2⟩
  · exact .inl h
  · by_cases e : q = i
    · subst e
      rw [hx] at h1
      obtain rfl := Option.some.inj h1
      exact absurd h2 hne
    · exact .inr ⟨q, by omega, h1, h2⟩
theorem Dq.grow {es : List Eg} {l : List Int} {n i : Nat} {y : Eg} {z : Int} (hn : n < l.length) (h : Dq es (l ++ [z]) n i y) : Dq es l n i y := by
  rcases h with ⟨j, hj, h⟩ | ⟨q, hq, h1, h2⟩
  · exact .inl ⟨j, hj, by rwa [List.getElem?_append_left (by omega)] at h⟩
  · exact .inr ⟨q, hq, h1, by rwa [List.getElem?_append_left hn] at h2⟩
theorem Dq.next {es : List Eg} {l : List Int} {n i : Nat} {y : Eg} (hi : es.length ≤ i) (hy : y ∈ es) (h : ∃ j, j < n + 1 ∧ l[j]? = some y.src) : Dq es l n i y := by
  obtain ⟨j, hj, h⟩ := h
  by_cases e : j = n
  · subst e
    obtain ⟨q, hq, he⟩ := List.getElem_of_mem hy
    exact .inr ⟨q, by omega, by rw [List.getElem?_eq_getElem hq, he], h⟩
  · exact .inl ⟨j, by omega, h⟩
/-- The rows and the marks hold what is found. -/
def Kept (F : Int → Option (List Int)) (rs : List Rw) (ss : List Bool) : Prop := ∀ (k : Nat) (h : k < rs.length) (h2 : k < ss.length), rs[k].l = (F (k : Int)).getD [] ∧ ss[k] = (F (k : Int)).isSome
theorem Kept.first (L N : Nat) (ad : Option Addr) (cp : Nat) : Kept (fun k => if k = 0 then some (List.replicate N 0) else none) ((List.replicate L (⟨none, 0, []⟩ : Rw)).set 0 ⟨ad, cp, List.replicate N 0⟩) ((List.replicate L false).set 0 true) := by
  intro k h h2
  rw [List.getElem_set, List.getElem_set]
  by_cases e : 0 = k
  · subst e; simp
  · have e3 : ¬ k = 0 := fun h => e h.symm
    rw [if_neg e, if_neg e]; simp [e3]
theorem Kept.grow {F : Int → Option (List Int)} {rs : List Rw} {ss : List Bool} (h : Kept F rs ss) (m : Nat) (ad : Option Addr) (cp : Nat) (o : List Int) : Kept (upF F (m : Int) o) (rs.set m ⟨ad, cp, o⟩) (ss.set m true) := by
  intro k hk hk2
  have h1 : k < rs.length := by simpa using hk
  have h2 : k < ss.length := by simpa using hk2
  rw [List.getElem_set, List.getElem_set]
  unfold upF
  by_cases e : m = k
  · subst e; simp
  · have e2 : ¬ ((k : Int) = (m : Int)) := by omega
    rw [if_neg e, if_neg e, if_neg e2]
    exact h k h1 h2
theorem Kept.rows {F : Int → Option (List Int)} {rs : List Rw} {ss : List Bool} (h : Kept F rs ss) (he : ss.length = rs.length) : rs.map Rw.l = rowsOf F rs.length := by
  apply List.ext_getElem
  · simp [rowsOf]
  · intro k h1 h2
    have hk : k < rs.length := by simpa using h1
    rw [List.getElem_map, (h k hk (by omega)).1]
    simp [rowsOf]
theorem Kept.clear {F : Int → Option (List Int)} {rs : List Rw} {ss : List Bool} (h : Kept F rs ss) {m : Nat} (hm : m < ss.length) (hs : ss[m] = false) : Kept F (rs.set m ⟨none, 0, []⟩) ss := by
  intro k hk hk2
  have h1 : k < rs.length := by simpa using hk
  rw [List.getElem_set]
  by_cases e : m = k
  · subst e
    have := (h m h1 hm).2
    rw [hs] at this
    rw [if_pos rfl]
    cases e2 : F (m : Int) with
    | none => exact ⟨rfl, hs⟩
    | some o => rw [e2] at this; cases this
  · rw [if_neg e]; exact h k h1 hk2
/-- All rows lie below what is made next, and apart from three blocks. -/
def RowsApart (W : World) (R S : Nat) (g : Option Nat) (rs : List Rw) : Prop := ∀ x ∈ rs, SlAt 1 icell W.heap.size W x.ad x.cap x.l ∧ ∀ a, x.ad = some a → a.block < W.heap.size ∧ a.block ≠ R ∧ a.block ≠ S ∧ some a.block ≠ g
theorem RowsApart.below {W W' : World} {R S : Nat} {g : Option Nat} {rs : List Rw} (h : RowsApart W R S g rs) (hb : Below W.heap.size W W') : RowsApart W' R S g rs := fun x hx => ⟨((h x hx).1.below hb).mono hb.size, fun a ha => ⟨Nat.lt_of_lt_of_le ((h x hx).2 a ha).1 hb.size, ((h x hx).2 a ha).2⟩⟩
theorem RowsApart.set {W : World} {R S : Nat} {g : Option Nat} {rs : List Rw} (h : RowsApart W R S g rs) {b i : Nat} (hb : b = R ∨ b = S) (v : Value) : RowsApart (W.setCell ⟨b, i, none⟩ v) R S g rs := fun x hx => by
  obtain ⟨h1, h2⟩ := h x hx
  have hz : (W.setCell ⟨b, i, none⟩ v).heap.size = W.heap.size := by simp only [World.setCell, Array.size_modify]
  exact ⟨(h1.set (fun a ha => by rcases hb with rfl | rfl; exact (h2 a ha).2.1; exact (h2 a ha).2.2.1) v).mono (Nat.le_of_eq hz.symm), fun a ha => ⟨by rw [hz]; exact (h2 a ha).1, (h2 a ha).2⟩⟩
theorem RowsApart.put {W : World} {R S : Nat} {g : Option Nat} {rs : List Rw} (h : RowsApart W R S g rs) {r : Rw} (hr : SlAt 1 icell W.heap.size W r.ad r.cap r.l ∧ ∀ a, r.ad = some a → a.block < W.heap.size ∧ a.block ≠ R ∧ a.block ≠ S ∧ some a.block ≠ g) (m : Nat) : RowsApart W R S g (rs.set m r) := fun x hx => by
  rcases List.mem_or_eq_of_mem_set hx with hx | rfl
  · exact h x hx
  · exact hr
theorem RowsApart.grown {W W' : World} {R S g g' : Nat} {rs : List Rw} (h : RowsApart W R S (some g) rs) (hg : W.grownBy W' (some g)) (hs : W.heap.size ≤ W'.heap.size) (hat : g' = g ∨ W.heap.size ≤ g') : RowsApart W' R S (some g') rs := fun x hx => by
  obtain ⟨h1, h2⟩ := h x hx
  refine ⟨(h1.grown (Nat.le_refl _) hg (fun a ha e => (h2 a ha).2.2.2 (by rw [e]))).mono hs, fun a ha => ⟨Nat.lt_of_lt_of_le (h2 a ha).1 hs, (h2 a ha).2.1, (h2 a ha).2.2.1, fun e => ?_⟩⟩
  have h3 := (h2 a ha).1
  injection e with e
  rcases hat with rfl | hat
  · exact (h2 a ha).2.2.2 (by rw [e])
  · omega
theorem owns_at {W W' : World} {base size n m cp g : Nat} {e : TypeId} {xs : List Value} (h : W.ownsRow base e size (.slice (some ⟨g, 0, none⟩) m cp) n xs) (hb : W'.heap[g]? = W.heap[g]?) : W'.ownsRow base e size (.slice (some ⟨g, 0, none⟩) m cp) n xs := by
  obtain ⟨hl, ⟨hv, _⟩ | ⟨g', cap, cur, hv, hB, hh, hc, hm, hcs, hx⟩⟩ := h
  · cases hv
  · cases hv
    exact ⟨hl, .inr ⟨g, cp, cur, rfl, hB, hb.trans hh, hc, hm, hcs, hx⟩⟩
theorem iget {l : List Int} {m : Nat} (h : m < l.length) : (ints l)[m]? = some (.int .i64 l[m]) := by
  unfold ints; rw [List.getElem?_map, List.getElem?_eq_getElem h]; rfl
theorem iset (l : List Int) (m : Nat) (z : Int) : (ints l).set m (.int .i64 z) = ints (l.set m z) := by
  unfold ints; rw [List.map_set]
/-- One number of a row of its own is set. -/
theorem own_set {W : World} {base : Nat} {v : Value} {o : List Int} (h : W.ownsRow base 3 1 v o.length (ints o)) {m : Nat} (hm : m < o.length) : ∃ g cp, v = .slice (some ⟨g, 0, none⟩) o.length cp ∧ base ≤ g ∧ g < W.heap.size ∧ o.length ≤ cp ∧ W.cell? ⟨g, m, none⟩ = some (.int .i64 o[m]) ∧ W.frozen? ⟨g, m, none⟩ = false ∧
    ∀ z : Int, (W.setCell ⟨g, m, none⟩ (.int .i64 z)).ownsRow base 3 1 (.slice (some ⟨g, 0, none⟩) o.length cp) (o.set m z).length (ints (o.set m z)) := by
  rcases h.2 with ⟨_, hn⟩ | ⟨g, cp, cur, rfl, h2, h3, h4, _⟩
  · omega
  · refine ⟨g, cp, rfl, h2, (Array.getElem?_eq_some_iff.1 h3).1, h4, ?_, h.frozenAt m, fun z => ?_⟩
    · have h6 := h.cells (g := g) rfl m _ (iget hm)
      rwa [Addr.add_lit, Nat.zero_add] at h6
    · have h7 := h.stored m (.int .i64 z)
      rw [iset] at h7
      rw [List.length_set]
      exact h7.1
end Go.Proofs.Ythdkgfmlihgceaa
