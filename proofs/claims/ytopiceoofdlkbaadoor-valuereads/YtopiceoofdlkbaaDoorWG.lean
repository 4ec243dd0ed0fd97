/-
  live of stage 11's statements is true: a sum, and one that is not reckoned.
-/
import Derived.Test.YtopiceoofdlkbaaDoorWD
import Derived.BigRegion
namespace Go.Proofs.YtopiceoofdlkbaaDoor
open Go.RowKit
theorem num_any (x : Int) (w : World) : Calls Tryd.prog 13 #[.int .i64 x] w fun r w' => r = .returned (.int .i64 x) ∧ w' = w := by
  go_enter Tryd.func13, Tryd.ntmps13
  go_wp2
  go_ret
  exact ⟨rfl, rfl⟩
theorem heapAt9 {W : World} {p : Nat} (o : Obj) (hp : W.heap.size = p) : (W.alloc o).heap[p]? = some o := by subst hp; exact heapNew W o
theorem len1 (n : UInt8) : Len ⟨#[n]⟩ := by show 1 ≤ 140737488351232; omega
theorem len0 : Len ⟨#[]⟩ := by show 0 ≤ 140737488351232; omega
/-- The program of live. -/
def liveP (g : Nat) : Pr where
  mad := some ⟨g + 1, 0, none⟩
  mcap := 1
  mons := [⟨⟨#[97]⟩, some ⟨g, 0, none⟩, 1, [⟨⟨#[110]⟩, 2, 0, 0, 4, 0⟩], none, 0, [], 0⟩]
  rad := none
  rcap := 0
  roles := []
def liveN : Ex := .mk 4 ⟨#[97]⟩ ⟨#[110]⟩ 0 none 0 [] 0
def liveO : Ex := .mk 1 ⟨#[]⟩ ⟨#[]⟩ 1 none 0 [] 0
def liveF : Ex := .mk 3 ⟨#[]⟩ ⟨#[]⟩ 0 none 0 [] 0
def liveT : Ex := .mk 2 ⟨#[]⟩ ⟨#[]⟩ 0 none 0 [] 0
def liveS (q : Nat) : Ex := .mk 8 ⟨#[]⟩ ⟨#[]⟩ 0 (some ⟨q, 0, none⟩) 2 [liveN, liveO] 0
def liveG (q b : Nat) : Ex := .mk 14 ⟨#[]⟩ ⟨#[]⟩ 0 (some ⟨b, 0, none⟩) 2 [liveS q, liveO] 0
def liveA (q b : Nat) : Ex := .mk 16 ⟨#[]⟩ ⟨#[]⟩ 0 (some ⟨b + 1, 0, none⟩) 2 [liveF, liveG q b] 0
theorem liveN_is (n : Nat) (W : World) : liveN.Is n W := Ex.Is.up ⟨⟨⟨by decide, by decide⟩, i64_zero, i64_zero, len1 97, len1 110⟩, ⟨by simp, by unfold maxLen; simp, .inl rfl⟩, fun x hx => by cases hx⟩
theorem liveO_is (n : Nat) (W : World) : liveO.Is n W := Ex.Is.up ⟨⟨⟨by decide, by decide⟩, ⟨by decide, by decide⟩, i64_zero, len0, len0⟩, ⟨by simp, by unfold maxLen; simp, .inl rfl⟩, fun x hx => by cases hx⟩
theorem liveF_is (n : Nat) (W : World) : liveF.Is n W := Ex.Is.up ⟨⟨⟨by decide, by decide⟩, i64_zero, i64_zero, len0, len0⟩, ⟨by simp, by unfold maxLen; simp, .inl rfl⟩, fun x hx => by cases hx⟩
theorem liveT_is (n : Nat) (W : World) : liveT.Is n W := Ex.Is.up ⟨⟨⟨by decide, by decide⟩, i64_zero, i64_zero, len0, len0⟩, ⟨by simp, by unfold maxLen; simp, .inl rfl⟩, fun x hx => by cases hx⟩
/-- An expression of two kids that lie in a row of their own. -/
theorem two_is {W : World} {n b : Nat} {op : Int} {k1 k2 : Ex} (ho : I64 op) (h : W.heap[b]? = some (.cells (k1.cells ++ k2.cells).toArray 28 (0, 0))) (hb : b < n) (h1 : k1.Is n W) (h2 : k2.Is n W) : (Ex.mk op ⟨#[]⟩ ⟨#[]⟩ 0 (some ⟨b, 0, none⟩) 2 [k1, k2] 0).Is n W := Ex.Is.up ⟨⟨ho, i64_zero, i64_zero, len0, len0⟩, ⟨by simp, by unfold maxLen; simp, .inr ⟨b, 0, rfl, hb, fun j hj i hi => by
    rw [Nat.zero_add, cellOf h]
    have hj2 : j < 2 := by simpa using hj
    rcases k1 with ⟨a1, a2, a3, a4, a5, a6, a7, a8⟩
    rcases k2 with ⟨b1, b2, b3, b4, b5, b6, b7, b8⟩
    rcases j with _ | _ | j
    · rcases i with _ | _ | _ | _ | _ | _ | i <;> first | rfl | omega
    · rcases i with _ | _ | _ | _ | _ | _ | i <;> first | rfl | omega
    · omega⟩⟩, fun x hx => by
      simp only [List.mem_cons, List.not_mem_nil, or_false] at hx
      rcases hx with rfl | rfl
      · exact h1
      · exact h2⟩
/-- A number in a row of its own. -/
theorem sl_one (W : World) (x : Int) : SlAt 1 iv (W.heap.size + 1) (W.alloc (.cells #[.int .i64 x] 2)) (some ⟨W.heap.size, 0, none⟩) 1 [x] := ⟨by simp, by unfold maxLen; omega, .inr ⟨W.heap.size, 0, rfl, by omega, fun k hk i hi2 => by
  simp at hk
  subst hk
  have : i = 0 := by omega
  subst this
  exact cellOf (heapNew W (.cells #[.int .i64 x] 2)) 0⟩⟩
/-- How it lies. -/
structure LiveAt (W : World) (g : Nat) : Prop where
  vs : W.heap[g]? = some (.cells #[.string ⟨#[110]⟩, .int .i64 2, .int .i64 0, .int .i64 0, .int .i64 4, .int .i64 0] 59 (0, 0))
  ms : W.heap[g + 1]? = some (.cells #[.string ⟨#[97]⟩, .slice (some ⟨g, 0, none⟩) 1 1, .slice none 0 0, .int .i64 0] 57 (0, 0))
  ks : W.heap[g + 5]? = some (.cells #[.int .i64 4, .string ⟨#[97]⟩, .string ⟨#[110]⟩, .int .i64 0, .slice none 0 0, .int .i64 0, .int .i64 1, .string ⟨#[]⟩, .string ⟨#[]⟩, .int .i64 1, .slice none 0 0, .int .i64 0] 28 (0, 0))
theorem LiveAt.below {W W' : World} {g n : Nat} (h : LiveAt W g) (hb : Below n W W') (hn : g + 6 ≤ n) : LiveAt W' g :=
  ⟨(hb.block _ (by omega)).trans h.vs, (hb.block _ (by omega)).trans h.ms, (hb.block _ (by omega)).trans h.ks⟩
theorem LiveAt.is {W : World} {g n : Nat} (h : LiveAt W g) (hn : g + 6 ≤ n) : (liveP g).Is n W := by
  have hA : (⟨⟨#[110]⟩, 2, 0, 0, 4, 0⟩ : Va).Is := ⟨by unfold Len; decide, ⟨by decide, by decide⟩, i64_zero, i64_zero, ⟨by decide, by decide⟩, i64_zero⟩
  refine ⟨⟨⟨by simp [liveP], by unfold maxLen; simp [liveP], .inr ⟨g + 1, 0, rfl, by omega, fun j hj i hi => ?_⟩⟩, fun m hm => ?_⟩, ⟨by simp [liveP], by unfold maxLen; simp [liveP], .inl rfl⟩, fun r hr => by simp [liveP] at hr⟩
  · rw [Nat.zero_add, cellOf h.ms]
    have hj2 : j < 1 := by simpa [liveP] using hj
    rcases j with _ | j
    · rcases i with _ | _ | _ | _ | i <;> first | rfl | omega
    · omega
  · simp only [liveP, List.mem_cons, List.not_mem_nil, or_false] at hm
    subst hm
    refine ⟨⟨by show (ByteArray.mk #[97]).size ≤ 140737488351232; decide, i64_zero⟩, ⟨⟨by simp, by unfold maxLen; simp, .inr ⟨g, 0, rfl, by omega, fun j hj i hi => ?_⟩⟩, fun v hv => ?_⟩, ⟨by simp, by unfold maxLen; simp, .inl rfl⟩, fun x hx => by simp at hx⟩
    · rw [Nat.zero_add, cellOf h.vs]
      have hj2 : j < 1 := by simpa using hj
      rcases j with _ | j
      · rcases i with _ | _ | _ | _ | _ | _ | i <;> first | rfl | omega
      · omega
    · simp only [List.mem_cons, List.not_mem_nil, or_false] at hv
      subst hv
      exact hA
theorem LiveAt.sum {W : World} {g n : Nat} (h : LiveAt W g) (hn : g + 6 ≤ n) : (liveS (g + 5)).Is n W := two_is ⟨by decide, by decide⟩ h.ks (by omega) (liveN_is _ _) (liveO_is _ _)
theorem i64_4 : I64 4 := ⟨by decide, by decide⟩
theorem i64_mx : I64 9223372036854775807 := ⟨by decide, by decide⟩
theorem live_1 (g : Nat) : evF (liveP g) (liveS (g + 5)) [4] = (5, 0) := by kernel_rfl
theorem live_2 (g : Nat) : evF (liveP g) (liveS (g + 5)) [9223372036854775807] = (0, 110) := by kernel_rfl
theorem live_3 (g b : Nat) : evF (liveP g) (liveA (g + 5) b) [9223372036854775807] = (0, 0) := by kernel_rfl
theorem live_4 (g : Nat) : setE (liveP g) ⟨#[97]⟩ ⟨#[110]⟩ 9 [4] = none := by kernel_rfl
theorem live_5 (g : Nat) : setL (liveP g) ⟨#[97]⟩ ⟨#[110]⟩ 9 [4] = [9] := by kernel_rfl
theorem live_6 (g : Nat) : initsF (liveP g).mons = [4] := by kernel_rfl
theorem live_7 (g : Nat) : trF (liveP g) liveT [0] = true := by kernel_rfl
theorem live_8 (g : Nat) : vsum (liveP g).mons ≤ 1000000 := by show 1 ≤ 1000000; omega
theorem i64_list (x : Int) (h : I64 x) : ∀ y ∈ [x], I64 y := fun y hy => by
  simp only [List.mem_singleton] at hy
  subst hy; exact h
theorem lc_1 {W : World} {g : Nat} (hL : LiveAt W g) (hS : Shapes W) (hz : g + 7 ≤ W.heap.size) (x : Int) (hx : I64 x) {v c : Int} (hv : evF (liveP g) (liveS (g + 5)) [x] = (v, c)) :
    Calls Tryd.prog 11 #[.agg #[.slice (some ⟨g + 1, 0, none⟩) 1 1, .slice none 0 0], .agg #[.int .i64 8, .string ⟨#[]⟩, .string ⟨#[]⟩, .int .i64 0, .slice (some ⟨g + 5, 0, none⟩) 2 2, .int .i64 0], .slice (some ⟨W.heap.size, 0, none⟩) 1 1] (W.alloc (.cells #[.int .i64 x] 2)) fun r w' => r = .returned (.tuple #[.int .i64 v, .int .i64 c]) ∧ Below W.heap.size W w' := by
  have hb := (Below.refl W.heap.size W).al le_rfl' (.cells #[.int .i64 x] 2)
  have hL2 := hL.below hb (by omega)
  refine (EvBack.at (eval_any (liveP g) (live_8 g) (liveS (g + 5)) [x] (i64_list x hx) (some ⟨W.heap.size, 0, none⟩) 1 (W.heap.size + 1) (W.alloc (.cells #[.int .i64 x] 2)) (by simp) (hL2.is (by omega)) (hL2.sum (by omega)) (sl_one W x) (hS.below hb (by omega))) hv).mono ?_
  rintro r w' ⟨rfl, _, h⟩
  exact ⟨rfl, hb.trans (h.mono (by simp))⟩
theorem lc_3 {W : World} {g : Nat} (hL : LiveAt W g) (hS : Shapes W) (hz : g + 7 ≤ W.heap.size) :
    Calls Tryd.prog 11 #[.agg #[.slice (some ⟨g + 1, 0, none⟩) 1 1, .slice none 0 0], .agg #[.int .i64 16, .string ⟨#[]⟩, .string ⟨#[]⟩, .int .i64 0, .slice (some ⟨W.heap.size + 1, 0, none⟩) 2 2, .int .i64 0], .slice (some ⟨W.heap.size + 2, 0, none⟩) 1 1] (((W.alloc (.cells #[.int .i64 8, .string ⟨#[]⟩, .string ⟨#[]⟩, .int .i64 0, .slice (some ⟨g + 5, 0, none⟩) 2 2, .int .i64 0, .int .i64 1, .string ⟨#[]⟩, .string ⟨#[]⟩, .int .i64 1, .slice none 0 0, .int .i64 0] 28)).alloc (.cells #[.int .i64 3, .string ⟨#[]⟩, .string ⟨#[]⟩, .int .i64 0, .slice none 0 0, .int .i64 0, .int .i64 14, .string ⟨#[]⟩, .string ⟨#[]⟩, .int .i64 0, .slice (some ⟨W.heap.size, 0, none⟩) 2 2, .int .i64 0] 28)).alloc (.cells #[.int .i64 9223372036854775807] 2)) fun r w' => r = .returned (.tuple #[.int .i64 0, .int .i64 0]) ∧ Below W.heap.size W w' := by
  have b1 := (Below.refl W.heap.size W).al le_rfl' (.cells #[.int .i64 8, .string ⟨#[]⟩, .string ⟨#[]⟩, .int .i64 0, .slice (some ⟨g + 5, 0, none⟩) 2 2, .int .i64 0, .int .i64 1, .string ⟨#[]⟩, .string ⟨#[]⟩, .int .i64 1, .slice none 0 0, .int .i64 0] 28)
  have b2 := b1.al le_rfl' (.cells #[.int .i64 3, .string ⟨#[]⟩, .string ⟨#[]⟩, .int .i64 0, .slice none 0 0, .int .i64 0, .int .i64 14, .string ⟨#[]⟩, .string ⟨#[]⟩, .int .i64 0, .slice (some ⟨W.heap.size, 0, none⟩) 2 2, .int .i64 0] 28)
  have hb := b2.al le_rfl' (.cells #[.int .i64 9223372036854775807] 2)
  have q2 : (((W.alloc (.cells #[.int .i64 8, .string ⟨#[]⟩, .string ⟨#[]⟩, .int .i64 0, .slice (some ⟨g + 5, 0, none⟩) 2 2, .int .i64 0, .int .i64 1, .string ⟨#[]⟩, .string ⟨#[]⟩, .int .i64 1, .slice none 0 0, .int .i64 0] 28)).alloc (.cells #[.int .i64 3, .string ⟨#[]⟩, .string ⟨#[]⟩, .int .i64 0, .slice none 0 0, .int .i64 0, .int .i64 14, .string ⟨#[]⟩, .string ⟨#[]⟩, .int .i64 0, .slice (some ⟨W.heap.size, 0, none⟩) 2 2, .int .i64 0] 28)).alloc (.cells #[.int .i64 9223372036854775807] 2)).heap[W.heap.size]? = some (.cells #[.int .i64 8, .string ⟨#[]⟩, .string ⟨#[]⟩, .int .i64 0, .slice (some ⟨g + 5, 0, none⟩) 2 2, .int .i64 0, .int .i64 1, .string ⟨#[]⟩, .string ⟨#[]⟩, .int .i64 1, .slice none 0 0, .int .i64 0] 28 (0, 0)) := by
    rw [Below.heap_alloc _ _ _ (by simp only [World.size_alloc]; omega), Below.heap_alloc _ _ _ (by simp only [World.size_alloc]; omega)]
    exact heapAt9 _ rfl
  have q3 : (((W.alloc (.cells #[.int .i64 8, .string ⟨#[]⟩, .string ⟨#[]⟩, .int .i64 0, .slice (some ⟨g + 5, 0, none⟩) 2 2, .int .i64 0, .int .i64 1, .string ⟨#[]⟩, .string ⟨#[]⟩, .int .i64 1, .slice none 0 0, .int .i64 0] 28)).alloc (.cells #[.int .i64 3, .string ⟨#[]⟩, .string ⟨#[]⟩, .int .i64 0, .slice none 0 0, .int .i64 0, .int .i64 14, .string ⟨#[]⟩, .string ⟨#[]⟩, .int .i64 0, .slice (some ⟨W.heap.size, 0, none⟩) 2 2, .int .i64 0] 28)).alloc (.cells #[.int .i64 9223372036854775807] 2)).heap[W.heap.size + 1]? = some (.cells #[.int .i64 3, .string ⟨#[]⟩, .string ⟨#[]⟩, .int .i64 0, .slice none 0 0, .int .i64 0, .int .i64 14, .string ⟨#[]⟩, .string ⟨#[]⟩, .int .i64 0, .slice (some ⟨W.heap.size, 0, none⟩) 2 2, .int .i64 0] 28 (0, 0)) := by
    rw [Below.heap_alloc _ _ _ (by simp only [World.size_alloc]; omega)]
    exact heapAt9 _ (by simp)
  have hs := sl_one ((W.alloc (.cells #[.int .i64 8, .string ⟨#[]⟩, .string ⟨#[]⟩, .int .i64 0, .slice (some ⟨g + 5, 0, none⟩) 2 2, .int .i64 0, .int .i64 1, .string ⟨#[]⟩, .string ⟨#[]⟩, .int .i64 1, .slice none 0 0, .int .i64 0] 28)).alloc (.cells #[.int .i64 3, .string ⟨#[]⟩, .string ⟨#[]⟩, .int .i64 0, .slice none 0 0, .int .i64 0, .int .i64 14, .string ⟨#[]⟩, .string ⟨#[]⟩, .int .i64 0, .slice (some ⟨W.heap.size, 0, none⟩) 2 2, .int .i64 0] 28)) 9223372036854775807
  have hL2 := hL.below hb (by omega)
  have hS2 := hS.below hb (by omega)
  have hzz : (((W.alloc (.cells #[.int .i64 8, .string ⟨#[]⟩, .string ⟨#[]⟩, .int .i64 0, .slice (some ⟨g + 5, 0, none⟩) 2 2, .int .i64 0, .int .i64 1, .string ⟨#[]⟩, .string ⟨#[]⟩, .int .i64 1, .slice none 0 0, .int .i64 0] 28)).alloc (.cells #[.int .i64 3, .string ⟨#[]⟩, .string ⟨#[]⟩, .int .i64 0, .slice none 0 0, .int .i64 0, .int .i64 14, .string ⟨#[]⟩, .string ⟨#[]⟩, .int .i64 0, .slice (some ⟨W.heap.size, 0, none⟩) 2 2, .int .i64 0] 28)).alloc (.cells #[.int .i64 9223372036854775807] 2)).heap.size = W.heap.size + 3 := by simp
  simp only [World.size_alloc] at hs
  generalize (((W.alloc (.cells #[.int .i64 8, .string ⟨#[]⟩, .string ⟨#[]⟩, .int .i64 0, .slice (some ⟨g + 5, 0, none⟩) 2 2, .int .i64 0, .int .i64 1, .string ⟨#[]⟩, .string ⟨#[]⟩, .int .i64 1, .slice none 0 0, .int .i64 0] 28)).alloc (.cells #[.int .i64 3, .string ⟨#[]⟩, .string ⟨#[]⟩, .int .i64 0, .slice none 0 0, .int .i64 0, .int .i64 14, .string ⟨#[]⟩, .string ⟨#[]⟩, .int .i64 0, .slice (some ⟨W.heap.size, 0, none⟩) 2 2, .int .i64 0] 28)).alloc (.cells #[.int .i64 9223372036854775807] 2)) = V at *
  have hG : (liveG (g + 5) W.heap.size).Is (W.heap.size + 3) V := two_is ⟨by decide, by decide⟩ q2 (by omega) (hL2.sum (by omega)) (liveO_is _ _)
  have hA : (liveA (g + 5) W.heap.size).Is (W.heap.size + 3) V := two_is ⟨by decide, by decide⟩ q3 (by omega) (liveF_is _ _) hG
  refine (EvBack.at (eval_any (liveP g) (live_8 g) (liveA (g + 5) W.heap.size) [9223372036854775807] (i64_list _ ⟨by decide, by decide⟩) (some ⟨W.heap.size + 2, 0, none⟩) 1 (W.heap.size + 3) V (by omega) (hL2.is (by omega)) hA (hs.mono (by omega)) hS2) (live_3 g _)).mono ?_
  rintro r w' ⟨rfl, _, h⟩
  exact ⟨rfl, hb.trans (h.mono (by omega))⟩
theorem lc_4 {W : World} {g : Nat} (hL : LiveAt W g) (hz : g + 7 ≤ W.heap.size) :
    Calls Tryd.prog 16 #[.agg #[.slice (some ⟨g + 1, 0, none⟩) 1 1, .slice none 0 0], .string ⟨#[97]⟩, .string ⟨#[110]⟩, .int .i64 9, .slice (some ⟨W.heap.size, 0, none⟩) 1 1] (W.alloc (.cells #[.int .i64 4] 2)) fun r w' => (∃ b off cp, r = .returned (.tuple #[.slice (some ⟨b, off, none⟩) 1 cp, .int .i64 0]) ∧ w'.cell? ⟨b, off, none⟩ = some (.int .i64 9) ∧ b < w'.heap.size ∧ 1 ≤ cp) ∧ Below W.heap.size W w' := by
  have hb := (Below.refl W.heap.size W).al le_rfl' (.cells #[.int .i64 4] 2)
  have hL2 := hL.below hb (by omega)
  refine (SetBack.yes (set_any (liveP g) (live_8 g) ⟨#[97]⟩ ⟨#[110]⟩ 9 [4] (some ⟨W.heap.size, 0, none⟩) 1 (W.heap.size + 1) (W.alloc (.cells #[.int .i64 4] 2)) (by simp) (hL2.is (by omega)) (sl_one W 4)) (live_4 g)).mono ?_
  rintro r w' ⟨⟨ad, cp, h1, h2⟩, h3⟩
  rw [live_5] at h1 h2
  refine ⟨?_, hb.trans (h3.mono (by simp))⟩
  rcases h2.2.2 with h | ⟨b, off, rfl, hlt, hrow⟩
  · cases h
  · exact ⟨b, off, cp, h1, iv_row hrow 0 (by simp), hlt, h2.1⟩
theorem lc_5 {W : World} {g : Nat} (hL : LiveAt W g) (hz : g + 7 ≤ W.heap.size) :
    Calls Tryd.prog 19 #[.agg #[.slice (some ⟨g + 1, 0, none⟩) 1 1, .slice none 0 0]] W fun r w' => (∃ ad cp, r = .returned (.slice ad 1 cp) ∧ SlAt 1 iv w'.heap.size w' ad cp [4]) ∧ Below W.heap.size W w' := by
  refine (first_any (liveP g) W.heap.size W (Nat.le_refl _) (hL.is (by omega)) (live_8 g)).mono ?_
  rintro r w' ⟨v, rfl, h1, h2⟩
  rw [live_6] at h1
  obtain ⟨ad, cp, rfl, h3⟩ := slOwn iv_len h1
  exact ⟨⟨ad, cp, rfl, h3⟩, h2⟩
theorem lc_6 {W : World} {ad : Option Addr} {cp : Nat} (h : SlAt 1 iv W.heap.size W ad cp [4]) :
    Calls Tryd.prog 18 #[.slice ad 1 cp, .slice (some ⟨W.heap.size, 0, none⟩) 1 1] (W.alloc (.cells #[.int .i64 4] 2)) fun r w' => r = .returned (.bool true) ∧ Below W.heap.size W w' := by
  have hb := (Below.refl W.heap.size W).al le_rfl' (.cells #[.int .i64 4] 2)
  refine (values_any [4] [4] ad cp (some ⟨W.heap.size, 0, none⟩) 1 (W.heap.size + 1) (W.alloc (.cells #[.int .i64 4] 2)) (by simp) ((h.below hb).mono (by omega)) (sl_one W 4)).mono ?_
  rintro r w' ⟨rfl, h2⟩
  exact ⟨by rw [decide_eq_true rfl], hb.trans (h2.mono (by simp))⟩
theorem lc_7 {W : World} {g : Nat} (hL : LiveAt W g) (hS : Shapes W) (hz : g + 7 ≤ W.heap.size) :
    Calls Tryd.prog 14 #[.agg #[.slice (some ⟨g + 1, 0, none⟩) 1 1, .slice none 0 0], .agg #[.int .i64 2, .string ⟨#[]⟩, .string ⟨#[]⟩, .int .i64 0, .slice none 0 0, .int .i64 0], .slice (some ⟨W.heap.size, 0, none⟩) 1 1] (W.alloc (.cells #[.int .i64 0] 2)) fun r w' => r = .returned (.bool true) ∧ Below W.heap.size W w' := by
  have hb := (Below.refl W.heap.size W).al le_rfl' (.cells #[.int .i64 0] 2)
  have hL2 := hL.below hb (by omega)
  refine (true_any (liveP g) (live_8 g) liveT [0] (i64_list 0 i64_zero) (some ⟨W.heap.size, 0, none⟩) 1 (W.heap.size + 1) (W.alloc (.cells #[.int .i64 0] 2)) (by simp) (hL2.is (by omega)) (liveT_is _ _) (sl_one W 0) (hS.below hb (by omega))).mono ?_
  rintro r w' ⟨rfl, h⟩
  rw [live_7]
  exact ⟨rfl, hb.trans (h.mono (by simp))⟩
set_option maxRecDepth 100000 in
set_option maxHeartbeats 16000000 in
theorem live_any (w : World) (hS : Shapes w) :
    Calls Tryd.prog 10 #[] w fun r w' => r = .returned (.bool true) ∧ Below w.heap.size w w' := by
  have hs3 := hS.size
  have h13 := num_any
  go_enter Tryd.func10, Tryd.ntmps10
  go_upto_region 5 with fail
  obtain ⟨W1, hW1⟩ : ∃ W1, (((((((w.alloc (.cells #[.string ⟨#[110]⟩, .int .i64 2, .int .i64 0, .int .i64 0, .int .i64 4, .int .i64 0] 59)).alloc (.cells #[.string ⟨#[97]⟩, .slice (some ⟨w.heap.size, 0, none⟩) 1 1, .slice none 0 0, .int .i64 0] 57)).alloc (.cells #[.slice (some ⟨w.heap.size + 1, 0, none⟩) 1 1, .slice none 0 0] 25)).alloc (.cells #[.int .i64 4, .string ⟨#[97]⟩, .string ⟨#[110]⟩, .int .i64 0, .slice none 0 0, .int .i64 0] 28)).alloc (.cells #[.int .i64 1, .string ⟨#[]⟩, .string ⟨#[]⟩, .int .i64 1, .slice none 0 0, .int .i64 0] 28)).alloc (.cells #[.int .i64 4, .string ⟨#[97]⟩, .string ⟨#[110]⟩, .int .i64 0, .slice none 0 0, .int .i64 0, .int .i64 1, .string ⟨#[]⟩, .string ⟨#[]⟩, .int .i64 1, .slice none 0 0, .int .i64 0] 28)).alloc (.cells #[.int .i64 8, .string ⟨#[]⟩, .string ⟨#[]⟩, .int .i64 0, .slice (some ⟨w.heap.size + 5, 0, none⟩) 2 2, .int .i64 0] 28)) = W1 := ⟨_, rfl⟩
  have hB : Below w.heap.size w W1 := by
    rw [← hW1]
    exact (((((((Below.refl _ w).al le_rfl' _).al le_rfl' _).al le_rfl' _).al le_rfl' _).al le_rfl' _).al le_rfl' _).al le_rfl' _
  have e0 : W1.heap[w.heap.size]? = some (.cells #[.string ⟨#[110]⟩, .int .i64 2, .int .i64 0, .int .i64 0, .int .i64 4, .int .i64 0] 59 (0, 0)) := by
    rw [← hW1]
    rw [Below.heap_alloc _ _ _ (by simp only [World.size_alloc]; omega), Below.heap_alloc _ _ _ (by simp only [World.size_alloc]; omega), Below.heap_alloc _ _ _ (by simp only [World.size_alloc]; omega), Below.heap_alloc _ _ _ (by simp only [World.size_alloc]; omega), Below.heap_alloc _ _ _ (by simp only [World.size_alloc]; omega), Below.heap_alloc _ _ _ (by simp only [World.size_alloc]; omega)]
    exact heapAt9 _ (by simp)
  have e1 : W1.heap[w.heap.size + 1]? = some (.cells #[.string ⟨#[97]⟩, .slice (some ⟨w.heap.size, 0, none⟩) 1 1, .slice none 0 0, .int .i64 0] 57 (0, 0)) := by
    rw [← hW1]
    rw [Below.heap_alloc _ _ _ (by simp only [World.size_alloc]; omega), Below.heap_alloc _ _ _ (by simp only [World.size_alloc]; omega), Below.heap_alloc _ _ _ (by simp only [World.size_alloc]; omega), Below.heap_alloc _ _ _ (by simp only [World.size_alloc]; omega), Below.heap_alloc _ _ _ (by simp only [World.size_alloc]; omega)]
    exact heapAt9 _ (by simp)
  have e2 : W1.heap[w.heap.size + 2]? = some (.cells #[.slice (some ⟨w.heap.size + 1, 0, none⟩) 1 1, .slice none 0 0] 25 (0, 0)) := by
    rw [← hW1]
    rw [Below.heap_alloc _ _ _ (by simp only [World.size_alloc]; omega), Below.heap_alloc _ _ _ (by simp only [World.size_alloc]; omega), Below.heap_alloc _ _ _ (by simp only [World.size_alloc]; omega), Below.heap_alloc _ _ _ (by simp only [World.size_alloc]; omega)]
    exact heapAt9 _ (by simp)
  have e3 : W1.heap[w.heap.size + 3]? = some (.cells #[.int .i64 4, .string ⟨#[97]⟩, .string ⟨#[110]⟩, .int .i64 0, .slice none 0 0, .int .i64 0] 28 (0, 0)) := by
    rw [← hW1]
    rw [Below.heap_alloc _ _ _ (by simp only [World.size_alloc]; omega), Below.heap_alloc _ _ _ (by simp only [World.size_alloc]; omega), Below.heap_alloc _ _ _ (by simp only [World.size_alloc]; omega)]
    exact heapAt9 _ (by simp)
  have e4 : W1.heap[w.heap.size + 4]? = some (.cells #[.int .i64 1, .string ⟨#[]⟩, .string ⟨#[]⟩, .int .i64 1, .slice none 0 0, .int .i64 0] 28 (0, 0)) := by
    rw [← hW1]
    rw [Below.heap_alloc _ _ _ (by simp only [World.size_alloc]; omega), Below.heap_alloc _ _ _ (by simp only [World.size_alloc]; omega)]
    exact heapAt9 _ (by simp)
  have e5 : W1.heap[w.heap.size + 5]? = some (.cells #[.int .i64 4, .string ⟨#[97]⟩, .string ⟨#[110]⟩, .int .i64 0, .slice none 0 0, .int .i64 0, .int .i64 1, .string ⟨#[]⟩, .string ⟨#[]⟩, .int .i64 1, .slice none 0 0, .int .i64 0] 28 (0, 0)) := by
    rw [← hW1]
    rw [Below.heap_alloc _ _ _ (by simp only [World.size_alloc]; omega)]
    exact heapAt9 _ (by simp)
  have e6 : W1.heap[w.heap.size + 6]? = some (.cells #[.int .i64 8, .string ⟨#[]⟩, .string ⟨#[]⟩, .int .i64 0, .slice (some ⟨w.heap.size + 5, 0, none⟩) 2 2, .int .i64 0] 28 (0, 0)) := by
    rw [← hW1]
    exact heapAt9 _ (by simp)
  have hz : W1.heap.size = w.heap.size + 7 := by rw [← hW1]; simp
  rw [hW1]
  clear hW1
  have hS1 := hS.below hB hs3
  obtain ⟨g, hg⟩ : ∃ g, w.heap.size = g := ⟨_, rfl⟩
  rw [hg] at e0 e1 e2 e3 e4 e5 e6 hz ⊢
  have HG := hid hg
  have HZ := hid hz
  have HL : Hid (LiveAt W1 g) := ⟨e0, e1, e5⟩
  have HK : Hid (∀ W, Below (g + 7) W1 W → LiveAt W g ∧ Shapes W ∧ g + 7 ≤ W.heap.size ∧ W.heap[g + 2]? = some (.cells #[.slice (some ⟨g + 1, 0, none⟩) 1 1, .slice none 0 0] 25 (0, 0)) ∧ W.heap[g + 4]? = some (.cells #[.int .i64 1, .string ⟨#[]⟩, .string ⟨#[]⟩, .int .i64 1, .slice none 0 0, .int .i64 0] 28 (0, 0)) ∧ W.heap[g + 6]? = some (.cells #[.int .i64 8, .string ⟨#[]⟩, .string ⟨#[]⟩, .int .i64 0, .slice (some ⟨g + 5, 0, none⟩) 2 2, .int .i64 0] 28 (0, 0))) := fun W hW => ⟨HL.out.below hW (by omega), hS1.below hW (by omega), by have := hW.size; omega, (hW.block _ (by omega)).trans e2, (hW.block _ (by omega)).trans e4, (hW.block _ (by omega)).trans e6⟩
  have BB : Below (g + 7) W1 W1 := Below.refl _ _
  clear e0 e1 e3 e5 hS1 hg hz HL e2 e4 e6
  obtain ⟨lv, sh, lz, e2, e4, e6⟩ := HK.out _ BB
  have a20 := cellOf e2 0
  have a21 := cellOf e2 1
  have a60 := cellOf e6 0
  have a61 := cellOf e6 1
  have a62 := cellOf e6 2
  have a63 := cellOf e6 3
  have a64 := cellOf e6 4
  have a65 := cellOf e6 5
  simp at a20 a21 a60 a61 a62 a63 a64 a65
  clear e2 e4 e6
  go_upto_region 6 with (go_at_call 11; (with_reducible refine (lc_1 lv sh lz 4 i64_4 (live_1 g)).mono ?_); rintro r u1 ⟨rfl, bb1⟩)
  have B1 : Below (g + 7) W1 u1 := BB.trans (bb1.mono lz)
  clear lv sh lz a20 a21 a60 a61 a62 a63 a64 a65
  obtain ⟨lv, sh, lz, e2, e4, e6⟩ := HK.out _ B1
  have a20 := cellOf e2 0
  have a21 := cellOf e2 1
  have a60 := cellOf e6 0
  have a61 := cellOf e6 1
  have a62 := cellOf e6 2
  have a63 := cellOf e6 3
  have a64 := cellOf e6 4
  have a65 := cellOf e6 5
  simp at a20 a21 a60 a61 a62 a63 a64 a65
  clear e2 e4 e6
  go_upto_region 7 with (go_at_call 11; (with_reducible refine (lc_1 lv sh lz 9223372036854775807 i64_mx (live_2 g)).mono ?_); rintro r u2 ⟨rfl, bb2⟩)
  have B2 : Below (g + 7) W1 u2 := B1.trans (bb2.mono lz)
  clear lv sh lz a20 a21 a60 a61 a62 a63 a64 a65
  obtain ⟨lv, sh, lz, e2, e4, e6⟩ := HK.out _ B2
  have a20 := cellOf e2 0
  have a21 := cellOf e2 1
  have a40 := cellOf e4 0
  have a41 := cellOf e4 1
  have a42 := cellOf e4 2
  have a43 := cellOf e4 3
  have a44 := cellOf e4 4
  have a45 := cellOf e4 5
  have a60 := cellOf e6 0
  have a61 := cellOf e6 1
  have a62 := cellOf e6 2
  have a63 := cellOf e6 3
  have a64 := cellOf e6 4
  have a65 := cellOf e6 5
  simp at a20 a21 a40 a41 a42 a43 a44 a45 a60 a61 a62 a63 a64 a65
  clear e2 e4 e6
  go_upto_region 8 with (go_at_call 11; (with_reducible refine (lc_3 lv sh lz).mono ?_); rintro r u3 ⟨rfl, bb3⟩)
  have B3 : Below (g + 7) W1 u3 := B2.trans (bb3.mono lz)
  clear lv sh lz a20 a21 a40 a41 a42 a43 a44 a45 a60 a61 a62 a63 a64 a65
  obtain ⟨lv, sh, lz, e2, e4, e6⟩ := HK.out _ B3
  have a20 := cellOf e2 0
  have a21 := cellOf e2 1
  simp at a20 a21
  clear e2 e4 e6
  go_upto_region 9 with (go_at_call 16; (with_reducible refine (lc_4 lv lz).mono ?_); rintro r u4 ⟨⟨b, off, cp, rfl, hc9, hlt, hcp⟩, bb4⟩)
  have B4 : Below (g + 7) W1 u4 := B3.trans (bb4.mono lz)
  clear lv sh lz a20 a21
  obtain ⟨lv, sh, lz, e2, e4, e6⟩ := HK.out _ B4
  have a20 := cellOf e2 0
  have a21 := cellOf e2 1
  simp at a20 a21
  clear e2 e4 e6
  go_wp2_with (first
    | (go_at_call 13; (with_reducible refine (h13 _ _).mono ?_); rintro r w' ⟨rfl, hw'⟩; have hw2 := hw'.symm; subst hw2)
    | (go_at_call 19; (with_reducible refine (lc_5 lv lz).mono ?_); rintro r u5 ⟨⟨ad5, cp5, rfl, hs5⟩, bb5⟩; have B5 : Below (g + 7) W1 u5 := B4.trans (bb5.mono lz); have lz5 := lz; clear lv sh lz a20 a21)
    | (go_at_call 18; (with_reducible refine (lc_6 hs5).mono ?_); rintro r u6 ⟨rfl, bb6⟩; have B6 : Below (g + 7) W1 u6 := B5.trans (bb6.mono (by have := B5.size; have := HZ.out; omega)); obtain ⟨lv, sh, lz, e2, -, -⟩ := HK.out _ B6; have a20 := cellOf e2 0; have a21 := cellOf e2 1; simp at a20 a21; clear e2)
    | (go_at_call 14; (with_reducible refine (lc_7 lv sh lz).mono ?_); rintro r u7 ⟨rfl, bb7⟩; have B7 : Below (g + 7) W1 u7 := B6.trans (bb7.mono lz)))
  go_ret
  exact ⟨rfl, hB.trans (B7.mono (by have := HG.out; omega))⟩
end Go.Proofs.YtopiceoofdlkbaaDoor
