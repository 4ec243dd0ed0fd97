/-
  A monitor that comes in as an argument; how many monitors a program that comes in can have.
-/
import Derived.Test.YtgfdegogknoknaaDoorOpB
namespace Go.Proofs.YtgfdegogknoknaaDoor
open Go.ChangeShapes Go.WideShapes Go.ChangeAt Go.RowKit Go.Deep
theorem open_mon {H : Type} {enc : TypeId × Value → H} {W : World} {v : Value} {d : DataW H} {ps : List MemPlace} (hv : ∃ c, v = .agg c ∧ c.size = Tryd.prog.cellsOf 48) (h : DataW.Trod enc Tryd.prog W 0 (fun _ => true) true 48 v d ps) (hw : ∀ k ∈ d.weights Tryd.prog 48, k ≤ reachBytes) :
    ∃ p : Mo, v = p.val ∧ p.Is W.heap.size W := by
  obtain ⟨c, rfl, _⟩ := hv
  obtain ⟨fuel, hf⟩ := h
  obtain ⟨p, he, hI⟩ := open_mo fuel _ _ hf hw
  refine ⟨p, ?_, hI⟩
  have hc : c.toList = p.cells := by simpa [Value.cells] using he
  show Value.agg c = Value.agg p.cells.toArray
  rw [← hc]
theorem bytes48 : Tryd.prog.bytesOf 48 = 72 := by kernel_rfl
theorem prog_bound {H : Type} {enc : TypeId × Value → H} {W : World} {p : Pr} {d : DataW H} {ps : List MemPlace} (h : DataW.Trod enc Tryd.prog W 0 (fun _ => true) true 25 p.val d ps) (hw : ∀ k ∈ d.weights Tryd.prog 25, k ≤ reachBytes) :
    p.mons.length * 72 ≤ 140737488351232 := by
  obtain ⟨fuel, hf⟩ := h
  obtain ⟨xs, n, rfl, hdp, hlen, hxl, hf2⟩ := DataW.trod_struct Tryd.underlying25 hf
  obtain ⟨rfl, rfl⟩ := Prod.mk.inj hdp
  obtain ⟨y0, y1, rfl⟩ := list2 (show xs.length = 2 from hxl)
  have g0 : DataW.trod enc Tryd.prog W 0 (fun _ => true) true n 22 [.slice p.mad p.mons.length p.mcap] = some y0 := by
    have g : DataW.trod enc Tryd.prog W 0 (fun _ => true) true n 22 (([Value.slice p.mad p.mons.length p.mcap, .slice p.rad p.roles.length p.rcap].drop 0).take (Tryd.prog.cellsOf 22)) = some y0 := hf2 0 _ rfl
    rw [oc22] at g
    exact g
  have hw1 : ∀ z, z ∈ DataW.weightsEach Tryd.prog [22, 23] [y0.1, y1.1] → z ≤ reachBytes := by
    intro z hz
    refine hw z ?_
    show z ∈ DataW.weights Tryd.prog 25 (DataW.agg _)
    rw [DataW.weights, Tryd.underlying25]
    exact hz
  simp only [DataW.weightsEach, List.mem_append] at hw1
  have m0 : ∀ z ∈ y0.1.weights Tryd.prog 22, z ≤ reachBytes := fun z hz => hw1 z (.inl hz)
  rcases DataW.trod_slice Tryd.underlying22 g0 with ⟨hv, _⟩ | ⟨a, len, cap, elems, rest, n', hy, hv, rfl, _, hlc, hcm, hel, hE, _, _⟩
  · injection hv with hv
    injection hv with _ hl _
    rw [hl]; omega
  · injection hv with hv
    injection hv with _ hl _
    have h1 := m0 ((elems.length + rest.length) * Tryd.prog.bytesOf 48) (by
      show _ ∈ DataW.weights Tryd.prog 22 (DataW.slice _ _)
      rw [DataW.weights, Tryd.underlying22]
      simp)
    rw [bytes48] at h1
    have h2 : reachBytes = 140737488351232 := by decide
    rw [hl]
    omega
end Go.Proofs.YtgfdegogknoknaaDoor
