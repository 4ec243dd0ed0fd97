/-
  slices.Clone at statements, and Method of package names.
-/
import Derived.Test.YtopiceoofdlkbaaDoorNxM
namespace Go.Proofs.YtopiceoofdlkbaaDoor
open Go.RowKit
theorem slOwn2 {α : Type} {size : Nat} {cells : α → List Value} (hlen : ∀ x, (cells x).length = size) {base : Nat} {T : TypeId} {v : Value} {l : List α} {w : World} (h : w.ownsRow base T size v l.length (l.flatMap cells)) :
    ∃ ad cp, v = .slice ad l.length cp ∧ (l.length ≤ cp ∧ cp ≤ maxLen ∧ (l = [] ∨ ∃ b, ad = some ⟨b, 0, none⟩ ∧ base ≤ b ∧ b < w.heap.size ∧ RowAt size cells w b 0 l)) := by
  obtain ⟨ad, cp, rfl, h1, h2, h3⟩ := slOwn hlen h
  refine ⟨ad, cp, rfl, h1, h2, ?_⟩
  rcases h3 with h3 | ⟨b, off, rfl, h4, h5⟩
  · exact .inl h3
  · rcases h.2 with ⟨h6, _⟩ | ⟨g, c, cur, h6, h7, _⟩
    · cases h6
    · cases h6; exact .inr ⟨b, rfl, h7, h4, h5⟩
def CloneBack (body : List St) (w w' : World) (r : Ending) : Prop := ∃ ad cap, r = .returned (.slice ad body.length cap) ∧ (body.length ≤ cap ∧ cap ≤ maxLen ∧ (body = [] ∨ ∃ b, ad = some ⟨b, 0, none⟩ ∧ w.heap.size ≤ b ∧ b < w'.heap.size ∧ RowAt 12 St.cells w' b 0 body)) ∧ Below w.heap.size w w'
/-- The first method of that name of the first monitor of that name. -/
def methIx (l : List Mo) (mon name : ByteArray) : Option Me :=
  match monIx l mon with
  | none => none
  | some i => match l[i]? with
    | none => none
    | some m => match m.meths.findIdx? (fun v => decide (v.name = name)) with
      | none => none
      | some k => m.meths[k]?
theorem methIx_no {l : List Mo} {mon name : ByteArray} (h : monIx l mon = none) : methIx l mon name = none := by rw [methIx, h]
theorem methIx_no2 {l : List Mo} {mon name : ByteArray} {i : Nat} (h : monIx l mon = some i) (hi : i < l.length) (h2 : l[i].meths.findIdx? (fun v => decide (v.name = name)) = none) : methIx l mon name = none := by
  rw [methIx, h]
  simp only [List.getElem?_eq_getElem hi, h2]
theorem methIx_at {l : List Mo} {mon name : ByteArray} {i k : Nat} (h : monIx l mon = some i) (hi : i < l.length) (h2 : l[i].meths.findIdx? (fun v => decide (v.name = name)) = some k) (hk : k < l[i].meths.length) : methIx l mon name = some l[i].meths[k] := by
  rw [methIx, h]
  simp only [List.getElem?_eq_getElem hi, h2, List.getElem?_eq_getElem hk]
theorem St.Is.mono2 {n₀ n₁ : Nat} {W : World} {s : St} (h : s.Is n₀ W) (hn : n₀ ≤ n₁) : s.Is n₁ W :=
  St.ind (P := fun s => s.Is n₀ W → s.Is n₁ W) (Q := fun b => b.Is n₀ W → b.Is n₁ W) (fun _ _ _ _ _ _ _ _ _ ih h => St.Is.up ⟨h.down.1, h.down.2.1.mono hn, h.down.2.2.1.mono hn, fun b hb' => ih b hb' (h.down.2.2.2 b hb')⟩)
    (fun _ _ _ ih h => Bl.Is.up ⟨h.down.1.mono hn, fun s hs => ih s hs (h.down.2 s hs)⟩) s h
def MethBack (o : Option Me) (w w' : World) (r : Ending) : Prop :=
  ((o = none ∧ r = .returned (.tuple #[.agg #[.string ⟨#[]⟩, .slice none 0 0, .int .i64 0], .bool false])) ∨ (∃ m ad cap, o = some m ∧ r = .returned (.tuple #[.agg #[.string m.name, .slice ad m.body.body.length cap, .int .i64 m.pos], .bool true]) ∧ (Bl.mk ad cap m.body.body).Is w'.heap.size w')) ∧ Below w.heap.size w w'
theorem three_box (w : World) (a x y : Array Value) (s t v : TypeId) : (((w.alloc (.cells a s)).alloc (.cells x t)).alloc (.cells y v)).heap[w.heap.size]? = some (.cells a s (0, 0)) ∧ (((w.alloc (.cells a s)).alloc (.cells x t)).alloc (.cells y v)).heap[w.heap.size + 1]? = some (.cells x t (0, 0)) ∧ (((w.alloc (.cells a s)).alloc (.cells x t)).alloc (.cells y v)).heap[w.heap.size + 2]? = some (.cells y v (0, 0)) ∧ Below w.heap.size w (((w.alloc (.cells a s)).alloc (.cells x t)).alloc (.cells y v)) ∧ (((w.alloc (.cells a s)).alloc (.cells x t)).alloc (.cells y v)).heap.size = w.heap.size + 3 := by
  obtain ⟨h1, h2, h3, h4⟩ := two_box w a x s t
  refine ⟨(Below.heap_alloc _ _ _ (by omega)).trans h1, (Below.heap_alloc _ _ _ (by omega)).trans h2, ?_, h3.al (by omega) _, by rw [World.size_alloc, h4]⟩
  have := heapNew ((w.alloc (.cells a s)).alloc (.cells x t)) (.cells y v)
  rwa [h4] at this
end Go.Proofs.YtopiceoofdlkbaaDoor
