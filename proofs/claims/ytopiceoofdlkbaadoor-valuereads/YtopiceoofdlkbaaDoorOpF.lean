/-
  A list of numbers that comes in as an argument.
-/
import Derived.Test.YtopiceoofdlkbaaDoorOpB
import Derived.Test.YtopiceoofdlkbaaDoorVlB
namespace Go.Proofs.YtopiceoofdlkbaaDoor
open Go.ChangeShapes Go.WideShapes Go.ChangeAt Go.RowKit Go.Deep
theorem open_num {H : Type} {enc : TypeId × Value → H} {W : World} (fuel : Nat) (cs : List Value) (x : DataW H × List MemPlace) (h : DataW.trod enc Tryd.prog W 0 (fun _ => true) true fuel 2 cs = some x) : ∃ n : Int, cs = iv n ∧ I64 n := by
  obtain ⟨n, e0, w0, q0⟩ := DataW.trod_int Tryd.underlying2 h
  exact ⟨n, e0, i64_of_wf q0⟩
theorem open_nums {H : Type} {enc : TypeId × Value → H} {W : World} {v : Value} {d : DataW H} {ps : List MemPlace} (hv : ∃ a len cap, v = .slice a len cap) (h : DataW.Trod enc Tryd.prog W 0 (fun _ => true) true 29 v d ps) (hw : ∀ k ∈ d.weights Tryd.prog 29, k ≤ reachBytes) :
    ∃ (l : List Int) (ad : Option Addr) (cap : Nat), v = .slice ad l.length cap ∧ SlAt 1 iv W.heap.size W ad cap l ∧ ∀ x ∈ l, I64 x := by
  obtain ⟨a, len, cap, rfl⟩ := hv
  obtain ⟨fuel, hf⟩ := h
  obtain ⟨ad, cap', l, he, hI, hJ⟩ := open_sl ⟨0⟩ (cells := iv) (Is := I64) (size := 1) Tryd.underlying29 oc2 (fun _ => rfl) (by decide) hf hw (fun n' _ cs x hx _ => open_num n' cs x hx)
  refine ⟨l, ad, cap', ?_, hI, hJ⟩
  have hc : [Value.slice a len cap] = [.slice ad l.length cap'] := by simpa [Value.cells] using he
  exact (List.cons.inj hc).1
end Go.Proofs.YtopiceoofdlkbaaDoor
