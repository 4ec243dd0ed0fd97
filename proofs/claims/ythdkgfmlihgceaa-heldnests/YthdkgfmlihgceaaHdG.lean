/-
  Maps from numbers to rows of numbers of the call's own: what a look-up finds, what 'm[k] = append(m[k], x)' leaves.
-/
import Derived.Test.YthdkgfmlihgceaaHdE
namespace Go.Proofs.Ythdkgfmlihgceaa
open Go.RowKit
/-- The value of a key, nil where there is none. -/
def nilS : Value := .slice none 0 0
/-- Block k is a map from numbers to rows of its own, no two in one block. -/
structure GMap (W : World) (base k : Nat) (G : Int → List Int) : Prop where
  lo : base ≤ k
  val : ∃ V : Int → Option Value, IMap W k V ∧ (∀ n, W.ownsRow base 3 1 ((V n).getD (.slice none 0 0)) (G n).length (ints (G n))) ∧ (∀ n, (V n).isSome = true ↔ G n ≠ []) ∧
    ∀ n m g, n ≠ m → ((V n).getD (.slice none 0 0)).ownBlock = some g → ((V m).getD (.slice none 0 0)).ownBlock ≠ some g
theorem GMap.lt {W : World} {base k : Nat} {G : Int → List Int} (h : GMap W base k G) : k < W.heap.size := by
  obtain ⟨_, V, h, _⟩ := h; exact h.lt
theorem owns_notMap {W : World} {base k : Nat} {V : Int → Option Value} {v : Value} {e size n : Nat} {xs : List Value} (hm : IMap W k V) (h : W.ownsRow base e size v n xs) : v.ownBlock ≠ some k := by
  rcases h.2 with ⟨rfl, _⟩ | ⟨g, cap, cur, rfl, hb, hgb, _⟩
  · simp [Value.ownBlock]
  · intro e'
    obtain rfl : g = k := by simpa [Value.ownBlock] using e'
    exact hm.not_cells hgb rfl
/-- It stands where its own blocks stand. -/
theorem GMap.kept {W W' : World} {base k : Nat} {G : Int → List Int} (h : GMap W base k G) {row : Option Nat} (hg : W.grownBy W' row) (hr : ∀ j, row = some j → j < base ∨ ∃ a T f, W.heap[j]? = some (.cells a T f) ∧ T ≠ 3) : GMap W' base k G := by
  obtain ⟨h0, V, h1, h2, h3, h4⟩ := h
  refine ⟨h0, V, h1.grown hg (fun e => ?_), fun n => (h2 n).kept hg ?_, h3, h4⟩
  · rcases hr k e.symm with h | ⟨a, T, f, h, _⟩
    · omega
    · exact h1.not_cells h rfl
  · rcases (h2 n).2 with ⟨e, _⟩ | ⟨g, cap, cur, e, hb, hgb, _⟩
    · exact .inl (by rw [e]; rfl)
    · right
      rw [e]
      intro e2
      rcases hr g e2.symm with h | ⟨a, T, f, h, hT⟩
      · omega
      · rw [hgb] at h; simp at h; exact hT h.2.1.symm
theorem GMap.below {W W' : World} {base k : Nat} {G : Int → List Int} (h : GMap W base k G) (hb : Below W.heap.size W W') : GMap W' base k G := by
  obtain ⟨h0, V, h1, h2, h3, h4⟩ := h
  exact ⟨h0, V, h1.below hb h1.lt, fun n => owns_below (h2 n) hb, h3, h4⟩
theorem GMap.new (W : World) (base : Nat) (hb : base ≤ W.heap.size) : GMap (W.alloc (.map #[] 0)) base W.heap.size (fun _ => []) :=
  ⟨hb, _, IMap.new W, fun n => World.ownsRow_nil _ _ _ _, fun n => by simp, fun n m g _ h => by cases h⟩
def putG (G : Int → List Int) (n : Int) (xs : List Int) : Int → List Int := fun x => if x = n then xs else G x
theorem getD_putV (V : Int → Option Value) (n m : Int) (v z : Value) : (putV V n v m).getD z = if m = n then v else (V m).getD z := by
  by_cases h : m = n
  · rw [h, putV_at, if_pos rfl]; rfl
  · rw [putV_ne _ _ h, if_neg h]
/-- What a look-up finds, and what a store of the row that was made longer leaves. -/
theorem GMap.look {W₀ : World} {base k : Nat} {G : Int → List Int} {T : TypeId} (h : GMap W₀ base k G) (hT : Try.prog.underlying T = some (.map 3 32)) (hz : ∀ W, (zeroValue 32).run Try.prog W = .ok (.slice none 0 0) W) (n : Int) :
    ∃ v, (∀ W, Below W₀.heap.size W₀ W → (Instr.lookup T (.map (some k)) (.int .i64 n) false).run Try.prog W = .ok v W) ∧ W₀.ownsRow base 3 1 v (G n).length (ints (G n)) ∧
      ∀ (W W1 : World) (g len cap : Nat) (xs : List Int), Below W₀.heap.size W₀ W → W.grownBy W1 v.ownBlock → W1.ownsRow base 3 1 (.slice (some ⟨g, 0, none⟩) len cap) xs.length (ints xs) → xs ≠ [] → (v.ownBlock = some g ∨ W₀.heap.size ≤ g) →
        ∃ W2, (Instr.mapUpdate T (.map (some k)) (.int .i64 n) (.slice (some ⟨g, 0, none⟩) len cap)).run Try.prog W1 = .ok () W2 ∧ GMap W2 base k (putG G n xs) ∧ W1.grownBy W2 (some k) ∧ W2.heap.size = W1.heap.size := by
  obtain ⟨h0, V, h1, h2, h3, h4⟩ := h
  refine ⟨(V n).getD (.slice none 0 0), fun W hW => (h1.below hW h1.lt).look hT (hz W) n, h2 n, ?_⟩
  intro W W1 g len cap xs hW hg hown hxs hat
  have hm1 : IMap W1 k V := (h1.below hW h1.lt).grown hg (fun e => owns_notMap h1 (h2 n) e.symm)
  obtain ⟨W2, r1, r2, r3, r4⟩ := hm1.put hT n (.slice (some ⟨g, 0, none⟩) len cap)
  refine ⟨W2, r1, ⟨h0, _, r2, fun m => ?_, fun m => ?_, fun m j q hne hq => ?_⟩, r3, r4⟩
  · rw [getD_putV]
    unfold putG
    by_cases e : m = n
    · rw [if_pos e, if_pos e]; exact hown.kept r3 (.inr (owns_notMap hm1 hown))
    · rw [if_neg e, if_neg e]
      have o1 := (owns_below (h2 m) hW)
      have o2 := o1.kept hg (by
        cases hv : ((V m).getD (.slice none 0 0)).ownBlock with
        | none => exact .inl rfl
        | some q => exact .inr (fun e2 => h4 m n q e hv e2.symm))
      exact o2.kept r3 (.inr (owns_notMap h1 (h2 m)))
  · unfold putV putG
    by_cases e : m = n
    · rw [if_pos e, if_pos e]; simp [hxs]
    · rw [if_neg e, if_neg e]; exact h3 m
  · rw [getD_putV] at hq ⊢
    have hnew : ∀ i, i ≠ n → ((V i).getD (.slice none 0 0)).ownBlock ≠ some g := by
      intro i hi e
      rcases hat with hat | hat
      · exact h4 n i g (fun x => hi x.symm) hat e
      · have := ((h2 i).lt g e).2; omega
    by_cases e : m = n
    · rw [if_pos e] at hq
      rw [if_neg (fun x => hne (e.trans x.symm))]
      obtain rfl : g = q := by simpa [Value.ownBlock] using hq
      exact hnew j (fun x => hne (e.trans x.symm))
    · rw [if_neg e] at hq
      by_cases e2 : j = n
      · rw [if_pos e2]
        intro e3
        obtain rfl : g = q := by simpa [Value.ownBlock] using e3
        exact hnew m e hq
      · rw [if_neg e2]; exact h4 m j q hne hq
/-- Where which edges lead from a place: their numbers, in order. -/
def outI (v : Int) : List Eg → Nat → List Int
  | [], _ => []
  | x :: l, i => (if x.src = v then [(i : Int)] else []) ++ outI v l (i + 1)
theorem outI_app (v : Int) (l m : List Eg) : ∀ i, outI v (l ++ m) i = outI v l i ++ outI v m (i + l.length) := by
  induction l with
  | nil => intro i; simp [outI]
  | cons x l ih => intro i; rw [List.cons_append, outI, outI, ih, List.length_cons, List.append_assoc, show i + 1 + l.length = i + (l.length + 1) by omega]
theorem outI_snoc (v : Int) (l : List Eg) (j : Nat) (h : j < l.length) : outI v (l.take (j + 1)) 0 = outI v (l.take j) 0 ++ if l[j].src = v then [(j : Int)] else [] := by
  rw [List.take_succ_eq_append_getElem h, outI_app]
  simp [outI, Nat.min_eq_left (Nat.le_of_lt h)]
theorem outI_mem {v : Int} {l : List Eg} {z : Int} : ∀ {i : Nat}, z ∈ outI v l i ↔ ∃ (j : Nat) (h : j < l.length), z = ((i + j : Nat) : Int) ∧ l[j].src = v := by
  induction l with
  | nil => intro i; simp [outI]
  | cons x l ih =>
    intro i
    rw [outI, List.mem_append, ih]
    constructor
    · rintro (h | ⟨j, hj, h1, h2⟩)
      · by_cases e : x.src = v
        · rw [if_pos e] at h
          exact ⟨0, by simp, by simpa using h, by simpa using e⟩
        · rw [if_neg e] at h; cases h
      · exact ⟨j + 1, by simp; omega, by rw [h1]; congr 1; omega, by simpa using h2⟩
    · rintro ⟨j, hj, h1, h2⟩
      rcases j with _ | j
      · left
        have : x.src = v := by simpa using h2
        rw [if_pos this]; simpa using h1
      · right
        exact ⟨j, by simpa using hj, by rw [h1]; congr 1; omega, by simpa using h2⟩
theorem outI_len (v : Int) (l : List Eg) : ∀ i, (outI v l i).length ≤ l.length := by
  induction l with
  | nil => intro i; simp [outI]
  | cons x l ih =>
    intro i
    rw [outI, List.length_append, List.length_cons]
    have := ih (i + 1)
    split <;> simp <;> omega
theorem ledG_snoc (l : List Eg) (j : Nat) (h : j < l.length) : (fun v => outI v (l.take (j + 1)) 0) = putG (fun v => outI v (l.take j) 0) l[j].src (outI l[j].src (l.take j) 0 ++ [(j : Int)]) := by
  funext v
  unfold putG
  rw [outI_snoc v l j h]
  by_cases e : v = l[j].src
  · rw [if_pos e, e, if_pos rfl]
  · rw [if_neg e, if_neg (fun x => e x.symm), List.append_nil]
end Go.Proofs.Ythdkgfmlihgceaa
