/-
  live of stage 6's statements: two monitors; what is found among them; a name that is there twice.
-/
import Derived.Test.YtijeiiiiplkfaaaDoorNxO
import Derived.RegionTactic
namespace Go.Proofs.YtijeiiiiplkfaaaDoor
open Go.RowKit
theorem heapAt9 {W : World} {p : Nat} (o : Obj) (hp : W.heap.size = p) : (W.alloc o).heap[p]? = some o := by subst hp; exact heapNew W o
/-- The program of the two monitors; its second one's name and place. -/
def twoP (g : Nat) (nm : ByteArray) (ps : Int) : Pr where
  mad := some ⟨g + 6, 0, none⟩
  mcap := 2
  mons := [⟨⟨#[77]⟩, some ⟨g + 3, 0, none⟩, 2, [⟨⟨#[97]⟩, 2, 0, 0, 0, 0⟩, ⟨⟨#[98]⟩, 2, 0, 0, 0, 0⟩], none, 0, [], 0⟩, ⟨nm, some ⟨g + 4, 0, none⟩, 1, [⟨⟨#[97]⟩, 2, 0, 0, 0, 0⟩], some ⟨g + 5, 0, none⟩, 1, [⟨⟨#[102]⟩, .mk none 0 [], 7⟩], ps⟩]
  rad := none
  rcap := 0
  roles := []
/-- How it lies. -/
structure TwoAt (W : World) (g : Nat) (nm : ByteArray) (ps : Int) : Prop where
  v1 : W.heap[g + 3]? = some (.cells #[.string ⟨#[97]⟩, .int .i64 2, .int .i64 0, .int .i64 0, .int .i64 0, .int .i64 0, .string ⟨#[98]⟩, .int .i64 2, .int .i64 0, .int .i64 0, .int .i64 0, .int .i64 0] 47 (0, 0))
  v2 : W.heap[g + 4]? = some (.cells #[.string ⟨#[97]⟩, .int .i64 2, .int .i64 0, .int .i64 0, .int .i64 0, .int .i64 0] 47 (0, 0))
  fs : W.heap[g + 5]? = some (.cells #[.string ⟨#[102]⟩, .slice none 0 0, .int .i64 7] 40 (0, 0))
  ms : ∀ i, i < 8 → W.cell? ⟨g + 6, i, none⟩ = [Value.string ⟨#[77]⟩, .slice (some ⟨g + 3, 0, none⟩) 2 2, .slice none 0 0, .int .i64 0, .string nm, .slice (some ⟨g + 4, 0, none⟩) 1 1, .slice (some ⟨g + 5, 0, none⟩) 1 1, .int .i64 ps][i]?
theorem TwoAt.below {W W' : World} {g n : Nat} {nm : ByteArray} {ps : Int} (h : TwoAt W g nm ps) (hb : Below n W W') (hn : g + 7 ≤ n) : TwoAt W' g nm ps :=
  ⟨(hb.block _ (by omega)).trans h.v1, (hb.block _ (by omega)).trans h.v2, (hb.block _ (by omega)).trans h.fs, fun i hi => (hb.cell (p := ⟨g + 6, i, none⟩) (by show g + 6 < n; omega)).trans (h.ms i hi)⟩
theorem i64z : I64 0 := ⟨by decide, by decide⟩
theorem TwoAt.is {W : World} {g n : Nat} {nm : ByteArray} {ps : Int} (h : TwoAt W g nm ps) (hn : g + 7 ≤ n) (hl : Len nm) (hp : I64 ps) : (twoP g nm ps).Is n W := by
  have hA : (⟨⟨#[97]⟩, 2, 0, 0, 0, 0⟩ : Va).Is := ⟨by unfold Len; decide, ⟨by decide, by decide⟩, i64z, i64z, i64z, i64z⟩
  have hB : (⟨⟨#[98]⟩, 2, 0, 0, 0, 0⟩ : Va).Is := ⟨by unfold Len; decide, ⟨by decide, by decide⟩, i64z, i64z, i64z, i64z⟩
  refine ⟨⟨⟨by simp [twoP], by unfold maxLen; simp [twoP], .inr ⟨g + 6, 0, rfl, by omega, fun j hj i hi => ?_⟩⟩, fun m hm => ?_⟩, ⟨by simp [twoP], by unfold maxLen; simp [twoP], .inl rfl⟩, fun r hr => by simp [twoP] at hr⟩
  · rw [Nat.zero_add]
    have hj2 : j < 2 := by simpa [twoP] using hj
    rcases j with _ | _ | j
    · rw [h.ms _ (by omega)]
      rcases i with _ | _ | _ | _ | i <;> first | rfl | omega
    · rw [h.ms _ (by omega)]
      rcases i with _ | _ | _ | _ | i <;> first | rfl | omega
    · omega
  · simp only [twoP, List.mem_cons, List.not_mem_nil, or_false] at hm
    rcases hm with rfl | rfl
    · refine ⟨⟨by show (ByteArray.mk #[77]).size ≤ 140737488351232; decide, i64z⟩, ⟨⟨by simp, by unfold maxLen; simp, .inr ⟨g + 3, 0, rfl, by omega, fun j hj i hi => ?_⟩⟩, fun v hv => ?_⟩, ⟨by simp, by unfold maxLen; simp, .inl rfl⟩, fun x hx => by simp at hx⟩
      · rw [Nat.zero_add, cellOf h.v1]
        have hj2 : j < 2 := by simpa using hj
        rcases j with _ | _ | j
        · rcases i with _ | _ | _ | _ | _ | _ | i <;> first | rfl | omega
        · rcases i with _ | _ | _ | _ | _ | _ | i <;> first | rfl | omega
        · omega
      · simp only [List.mem_cons, List.not_mem_nil, or_false] at hv
        rcases hv with rfl | rfl
        · exact hA
        · exact hB
    · refine ⟨⟨hl, hp⟩, ⟨⟨by simp, by unfold maxLen; simp, .inr ⟨g + 4, 0, rfl, by omega, fun j hj i hi => ?_⟩⟩, fun v hv => ?_⟩, ⟨by simp, by unfold maxLen; simp, .inr ⟨g + 5, 0, rfl, by omega, fun j hj i hi => ?_⟩⟩, fun x hx => ?_⟩
      · rw [Nat.zero_add, cellOf h.v2]
        have hj2 : j < 1 := by simpa using hj
        rcases j with _ | j
        · rcases i with _ | _ | _ | _ | _ | _ | i <;> first | rfl | omega
        · omega
      · simp only [List.mem_cons, List.not_mem_nil, or_false] at hv
        subst hv
        exact hA
      · rw [Nat.zero_add, cellOf h.fs]
        have hj2 : j < 1 := by simpa using hj
        rcases j with _ | j
        · rcases i with _ | _ | _ | i <;> first | rfl | omega
        · omega
      · simp only [List.mem_cons, List.not_mem_nil, or_false] at hx
        subst hx
        exact ⟨by unfold Len; decide, ⟨by decide, by decide⟩, Bl.Is.up ⟨⟨by simp, by unfold maxLen; simp, .inl rfl⟩, fun s hs => by cases hs⟩⟩
theorem twoP_slot (g : Nat) : slotIx (twoP g ⟨#[78]⟩ 0).mons ⟨#[78]⟩ ⟨#[97]⟩ = some 2 := by kernel_rfl
theorem twoP_slot2 (g : Nat) : slotIx (twoP g ⟨#[78]⟩ 0).mons ⟨#[78]⟩ ⟨#[98]⟩ = none := by kernel_rfl
theorem twoP_mon (g : Nat) : monIx (twoP g ⟨#[78]⟩ 0).mons ⟨#[78]⟩ = some 1 := by kernel_rfl
theorem twoP_meth (g : Nat) : methIx (twoP g ⟨#[78]⟩ 0).mons ⟨#[78]⟩ ⟨#[102]⟩ = some ⟨⟨#[102]⟩, .mk none 0 [], 7⟩ := by kernel_rfl
theorem twoP_chk (g : Nat) : (twoP g ⟨#[78]⟩ 0).nchk = (0, 0) := by kernel_rfl
theorem twoP_chk2 (g : Nat) : (twoP g ⟨#[77]⟩ 5).nchk = (60, 5) := by kernel_rfl
theorem twoP_all (g : Nat) (nm : ByteArray) (ps : Int) : (allV (twoP g nm ps).mons).length = 3 := by kernel_rfl
set_option maxRecDepth 100000 in
set_option maxHeartbeats 4000000 in
theorem two_any (w : World) :
    Calls Tryd.prog 26 #[] w fun r w' => r = .returned (.agg #[.slice (some ⟨w.heap.size + 6, 0, none⟩) 2 2, .slice none 0 0]) ∧ TwoAt w' w.heap.size ⟨#[78]⟩ 0 ∧ w'.heap[w.heap.size + 6]? = some (.cells #[.string ⟨#[77]⟩, .slice (some ⟨w.heap.size + 3, 0, none⟩) 2 2, .slice none 0 0, .int .i64 0, .string ⟨#[78]⟩, .slice (some ⟨w.heap.size + 4, 0, none⟩) 1 1, .slice (some ⟨w.heap.size + 5, 0, none⟩) 1 1, .int .i64 0] 64 (0, 0)) ∧ w'.heap.size = w.heap.size + 7 ∧ Below w.heap.size w w' := by
  go_enter Tryd.func26, Tryd.ntmps26
  go_upto_region 2 with fail
  go_wp2
  refine bodyPost_ret (v := .agg #[.slice (some ⟨w.heap.size + 6, 0, none⟩) 2 2, .slice none 0 0]) ?_ rfl ⟨rfl, ⟨?_, ?_, ?_, ?_⟩, heapAt9 _ (by simp), by simp, ?_⟩
  · simp [results, Tryd.results26, go_sem]
  · rw [Below.heap_alloc _ _ _ (by simp), Below.heap_alloc _ _ _ (by simp), Below.heap_alloc _ _ _ (by simp)]
    exact heapAt9 _ (by simp)
  · rw [Below.heap_alloc _ _ _ (by simp), Below.heap_alloc _ _ _ (by simp)]
    exact heapAt9 _ (by simp)
  · rw [Below.heap_alloc _ _ _ (by simp)]
    exact heapAt9 _ (by simp)
  · intro i hi
    have h := heapAt9 (W := ((((((w.alloc (.cells #[.slice (some ⟨w.heap.size + 6, 0, none⟩) 2 2, .slice none 0 0] 25)).alloc (.cells #[.string ⟨#[97]⟩, .int .i64 2, .int .i64 0, .int .i64 0, .int .i64 0, .int .i64 0] 47)).alloc (.cells #[.string ⟨#[98]⟩, .int .i64 2, .int .i64 0, .int .i64 0, .int .i64 0, .int .i64 0] 47)).alloc (.cells #[.string ⟨#[97]⟩, .int .i64 2, .int .i64 0, .int .i64 0, .int .i64 0, .int .i64 0, .string ⟨#[98]⟩, .int .i64 2, .int .i64 0, .int .i64 0, .int .i64 0, .int .i64 0] 47)).alloc (.cells #[.string ⟨#[97]⟩, .int .i64 2, .int .i64 0, .int .i64 0, .int .i64 0, .int .i64 0] 47)).alloc (.cells #[.string ⟨#[102]⟩, .slice none 0 0, .int .i64 7] 40))) (p := w.heap.size + 6) (.cells #[.string ⟨#[77]⟩, .slice (some ⟨w.heap.size + 3, 0, none⟩) 2 2, .slice none 0 0, .int .i64 0, .string ⟨#[78]⟩, .slice (some ⟨w.heap.size + 4, 0, none⟩) 1 1, .slice (some ⟨w.heap.size + 5, 0, none⟩) 1 1, .int .i64 0] 64) (by simp)
    exact (cellOf h i).trans (List.getElem?_toArray ..)
  · exact (((((((Below.refl _ w).al le_rfl' _).al le_rfl' _).al le_rfl' _).al le_rfl' _).al le_rfl' _).al le_rfl' _).al le_rfl' _
end Go.Proofs.YtijeiiiiplkfaaaDoor
