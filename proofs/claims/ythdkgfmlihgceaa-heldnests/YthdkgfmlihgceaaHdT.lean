/-
  Package held: HeldMore tells, for every nests and every nest, what the document tells. No condition besides.
-/
import Derived.Test.YthdkgfmlihgceaaHdS
import Derived.Test.YthdkgfmlihgceaaRows
import Derived.ProofKit
import Derived.OpenShut
import Derived.SizedLaws
import Derived.Deep.Slices
import Derived.Lib.SmallJoins
import Derived.Carry
namespace Go.Proofs.Ythdkgfmlihgceaa
open Go.ChangeShapes Go.WideShapes Go.ChangeAt Go.RowKit Go.Deep
theorem own : ownKnob Try.prog.godebug = none := by kernel_rfl
theorem laidOut : laidOutB Try.prog = true := by kernel_rfl
theorem oc3 : Try.prog.cellsOf 3 = 1 := by kernel_rfl
theorem oc42 : Try.prog.cellsOf 42 = 2 := by kernel_rfl
/-- A slice that comes in. -/
theorem open_sl {α : Type} (inh : Inhabited α) {H : Type} {enc : TypeId × Value → H} {W : World} {size : Nat} {cells : α → List Value} {Is : α → Prop} {t e : TypeId} {fuel : Nat} {cs : List Value} {x : DataW H × List MemPlace}
    (hu : Try.prog.underlying t = some (.slice e)) (hce : Try.prog.cellsOf e = size) (hlen : ∀ a, (cells a).length = size) (hpos : 0 < size)
    (h : DataW.trod enc Try.prog W 0 (fun _ => true) true fuel t cs = some x)
    (each : ∀ n', n' < fuel → ∀ cs x, DataW.trod enc Try.prog W 0 (fun _ => true) true n' e cs = some x → ∃ a : α, cs = cells a ∧ Is a) :
    ∃ (ad : Option Addr) (cap : Nat) (l : List α), cs = [.slice ad l.length cap] ∧ SlAt size cells W.heap.size W ad cap l ∧ ∀ a ∈ l, Is a := by
  haveI := inh
  rcases DataW.trod_slice hu h with ⟨hv, _⟩ | ⟨a, len, cap, elems, rest, n', rfl, hv, rfl, _, hlc, hcm, hel, hE, _, _⟩
  · exact ⟨none, 0, [], hv, ⟨Nat.le_refl _, by unfold maxLen; omega, .inl rfl⟩, fun x hx => by cases hx⟩
  · have each2 : ∀ i, i < len → ∃ q : α, W.cells? 0 (a.add (i * size)) size = some (cells q) ∧ Is q := by
      intro i hi
      have hb := hE i hi
      rw [hce] at hb
      obtain ⟨y, hy⟩ : ∃ y, elems[i]? = some y := ⟨elems[i], List.getElem?_eq_getElem (by omega)⟩
      rw [hy] at hb
      obtain ⟨cs', hc1, hc2⟩ := Option.bind_eq_some_iff.1 hb
      obtain ⟨q, rfl, hq⟩ := each n' (by omega) cs' y hc2
      exact ⟨q, hc1, hq⟩
    obtain ⟨q, hq⟩ := choose_lt each2
    refine ⟨some a, cap, (List.range len).map q, by rw [hv]; simp, ⟨by simpa using hlc, hcm, ?_⟩, fun x hx => ?_⟩
    · rcases Nat.eq_zero_or_pos len with h0 | hp
      · subst h0; exact .inl rfl
      · right
        obtain ⟨b, off, spot⟩ := a
        have hc := fun i hi => World.cells?_some (hq i hi).1
        have hbl := World.cells?_block (hq 0 hp).1 hpos
        have hspot : spot = none := by
          obtain ⟨v, hv⟩ : ∃ v, (cells (q 0))[0]? = some v := ⟨_, List.getElem?_eq_getElem (by rw [hlen]; exact hpos)⟩
          have h0 := (hc 0 hp).2.2 0 hpos
          have h1 := World.cell?_spot (h0.trans hv)
          simpa [Addr.add] using h1
        subst hspot
        refine ⟨b, off, rfl, by simpa [Addr.add] using hbl, ?_⟩
        intro j hj i hi
        have hj' : j < len := by simpa using hj
        have h1 := (hc j hj').2.2 i hi
        rw [Addr.add_lit, Addr.add_lit] at h1
        simp only [List.getElem_map, List.getElem_range]
        exact h1
    · obtain ⟨i, hi, rfl⟩ := List.mem_map.1 hx
      exact (hq i (List.mem_range.1 hi)).2
theorem list2 {α : Type} {l : List α} (h : l.length = 2) : ∃ a b, l = [a, b] := by
  match l, h with
  | [a, b], _ => exact ⟨a, b, rfl⟩
set_option maxRecDepth 100000 in
theorem open_nest {H : Type} {enc : TypeId × Value → H} {W : World} (fuel : Nat) (cs : List Value) (x : DataW H × List MemPlace) (h : DataW.trod enc Try.prog W 0 (fun _ => true) true fuel 42 cs = some x) : ∃ n : Int × Int, cs = ncells n ∧ True := by
  obtain ⟨xs, n, rfl, rfl, hlen, hxl, hf⟩ := DataW.trod_struct Try.underlying42 h
  rw [oc42] at hlen
  obtain ⟨v0, v1, rfl⟩ := list2 hlen
  obtain ⟨y0, y1, rfl⟩ := list2 (show xs.length = 2 from hxl)
  have g0 : DataW.trod enc Try.prog W 0 (fun _ => true) true n 3 [v0] = some y0 := by
    have g : DataW.trod enc Try.prog W 0 (fun _ => true) true n 3 (([v0, v1].drop 0).take (Try.prog.cellsOf 3)) = some y0 := hf 0 _ rfl
    rw [oc3] at g; exact g
  have g1 : DataW.trod enc Try.prog W 0 (fun _ => true) true n 3 [v1] = some y1 := by
    have g : DataW.trod enc Try.prog W 0 (fun _ => true) true n 3 (([v0, v1].drop 1).take (Try.prog.cellsOf 3)) = some y1 := hf 1 _ rfl
    rw [oc3] at g; exact g
  obtain ⟨a, e0, -, -⟩ := DataW.trod_int Try.underlying3 g0
  obtain ⟨b, e1, -, -⟩ := DataW.trod_int Try.underlying3 g1
  simp only [List.cons.injEq, and_true] at e0 e1
  exact ⟨(a, b), by rw [e0, e1]; rfl, trivial⟩
theorem open_nests {H : Type} {enc : TypeId × Value → H} {W : World} {v : Value} {d : DataW H} {p : List MemPlace} {base : Nat} (hv : Value.okWide Try.prog W .any base 35 v) (h : DataW.Trod enc Try.prog W 0 (fun _ => true) true 35 v d p) :
    ∃ (ad : Option Addr) (cap : Nat) (l : List (Int × Int)), v = .slice ad l.length cap ∧ SlAt 2 ncells W.heap.size W ad cap l := by
  obtain ⟨fuel, hf⟩ := h
  obtain ⟨ad, len, cap, rfl⟩ := okWide_slice Try.underlying35 hv
  obtain ⟨ad', cap', l, he, hs, _⟩ := open_sl (α := Int × Int) ⟨(0, 0)⟩ (Is := fun _ => True) (cells := ncells) (size := 2) Try.underlying35 oc42 (fun _ => rfl) (by decide) hf (fun n' _ cs x hx => open_nest n' cs x hx)
  simp only [Value.cells, List.cons.injEq, and_true, Value.slice.injEq] at he
  obtain ⟨rfl, rfl, rfl⟩ := he
  exact ⟨_, _, l, rfl, hs⟩
theorem open_nestarg {H : Type} {enc : TypeId × Value → H} {W : World} {v : Value} {d : DataW H} {p : List MemPlace} {base : Nat} (hv : Value.okWide Try.prog W .any base 42 v) (h : DataW.Trod enc Try.prog W 0 (fun _ => true) true 42 v d p) :
    ∃ o i : Int, v = .agg #[.int .i64 o, .int .i64 i] := by
  obtain ⟨cs, rfl, hsz⟩ := okWide_struct Try.underlying42 hv
  obtain ⟨fuel, hf⟩ := h
  obtain ⟨⟨o, i⟩, he, _⟩ := open_nest fuel _ _ hf
  refine ⟨o, i, ?_⟩
  have hc : cs.toList = [.int .i64 o, .int .i64 i] := by simpa [Value.cells, ncells] using he
  show Value.agg cs = Value.agg [Value.int .i64 o, .int .i64 i].toArray
  rw [← hc]
set_option maxRecDepth 100000 in
theorem heldMore_lifted (os : Os) (started : os.Started) (H : Type) (enc : TypeId × Value → H) :
    ReturnsInHanded {} Try.checked os 5 .any (Rows.heldMoreSpec.pre6 enc Try.prog Try.f5 Rows.heldMoreRow.domain false) (Rows.heldMoreSpec.post enc Try.prog Try.f5 false true false false) := by
  refine returnsInHanded_of_change (C := Try.checked) own started (by kernel_rfl) Try.func5
    (ChangeSpec.witness6 (enc := enc) (C := Try.checked) false ⟨#[], #[.slice none 0 0, .agg #[.int .i64 0, .int .i64 0]], []⟩ 8 (by kernel_rfl) (by kernel_rfl) (by kernel_rfl) (by kernel_rfl)) ?_
  intro W base args ds gs before hval0 hW hcnd _
  have hval : ∀ (j : Nat) t v, Try.f5.params[j]? = some t → args[j]? = some v → Value.okWide Try.prog W .any base t v := hval0
  have hW' := hW
  obtain ⟨p, q, hA0, hV, rfl, hfz, hnd⟩ := hW
  have hA : DataW.TrodAll enc Try.prog W 0 (fun _ => true) true Try.f5.params.toList args.toList ds p := hA0
  rw [Try.params5] at hA hval
  obtain ⟨v0, vs0, d0, ds0, p0, q0, hargs, rfl, rfl, h0, r0⟩ := trodAll_cons hA
  obtain ⟨v1, vs1, d1, ds1, p1, q1, rfl, rfl, rfl, h1, r1⟩ := trodAll_cons r0
  obtain ⟨rfl, rfl, rfl⟩ := trodAll_nil r1
  obtain rfl : args = #[v0, v1] := by cases args; simp_all
  obtain ⟨rfl, rfl⟩ := trodVars_none hV
  have h0k := h0
  have h1k := h1
  obtain ⟨ad, cap, l, rfl, hs⟩ := open_nests (hval 0 35 v0 rfl rfl) h0
  obtain ⟨o, i, rfl⟩ := open_nestarg (hval 1 42 v1 rfl rfl) h1
  clear hA0 hval0
  simp only [List.append_nil] at hW'
  have hlt0 : ∀ x ∈ p0, x.block < W.heap.size := fun x hx => hW'.lt x (by simp [hx])
  have hlt1 : ∀ x ∈ p1, x.block < W.heap.size := fun x hx => hW'.lt x (by simp [hx])
  refine (heldMore_walk l ad cap o i W.heap.size W (Nat.le_refl _) hs).mono fun e W' ⟨he, hB⟩ => ?_
  subst he
  have ha := Below.trod laidOut (by kernel_rfl) (of_decide_eq_true (by kernel_rfl)) h0k hB hlt0
  have hb := Below.trod laidOut (by kernel_rfl) (of_decide_eq_true (by kernel_rfl)) h1k hB hlt1
  have e := trodAll_cons_mk ha (trodAll_cons_mk hb trodAll_mk0)
  simp only [List.append_nil] at e
  exact ⟨_, rfl, _, _, _, [], p0 ++ p1, [], hW', trodAll_cons_mk (shut_bool Try.underlying4 _) trodAll_mk0, e, rfl, hB.frame _, fun h => by cases h⟩
theorem heldMore_over : Rows.heldMoreRow.holds Try.pinned (OpenSpec.ofChange Rows.heldMoreSpec) :=
  OpenClaim.holds_of_wide 5 Try.f5 rfl rfl rfl rfl rfl rfl rfl ⟨rfl, rfl, rfl, rfl, rfl⟩ rfl rfl rfl rfl rfl (by kernel_rfl) Try.func5 (by kernel_rfl)
    (of_decide_eq_true (by kernel_rfl)) (by unfold Func.isWrapper; first | (rw [if_pos (by decide +kernel)]; kernel_rfl) | (rw [if_neg (by decide +kernel)]; exact ⟨rfl, rfl⟩))
    (fun os started H enc _ => heldMore_lifted os started H enc)
theorem heldMore_holds : Rows.HeldMoreSaid := heldMore_over
end Go.Proofs.Ythdkgfmlihgceaa
