/-
  behind of package held: what is owned behind an edge, and whether it can be.
-/
import Derived.Test.YthdkgfmlihgceaaHdE
namespace Go.Proofs.Ythdkgfmlihgceaa
open Go.RowKit
theorem list8 {α : Type} {l : List α} (h : l.length = 8) : ∃ a b c d e f g i, l = [a, b, c, d, e, f, g, i] := by
  match l, h with
  | [a, b, c, d, e, f, g, i], _ => exact ⟨a, b, c, d, e, f, g, i, rfl⟩
theorem eight {m : Int} (h0 : 0 ≤ m) (h8 : m < 8) : m = 0 ∨ m = 1 ∨ m = 2 ∨ m = 3 ∨ m = 4 ∨ m = 5 ∨ m = 6 ∨ m = 7 := by omega
theorem below_drewN {n₀ : Nat} {A B : World} (h : Below n₀ A B) (n : Nat) : Below n₀ A (B.drewN n) := h.trans ⟨rfl, rfl, rfl, Nat.le_refl _, fun _ _ => rfl⟩
def BehBack (o : List Int) (x : Eg) (w w' : World) (r : Ending) : Prop := r = .returned (.tuple #[.agg (ints (behL o x)).toArray, .bool (behB o x)]) ∧ Below w.heap.size w w'
set_option maxRecDepth 100000 in
set_option maxHeartbeats 8000000 in
theorem behind_enter (o0 o1 o2 o3 o4 o5 o6 o7 : Int) (x : Eg) (w : World) (hk : x.kind = 4) (hm0 : 0 ≤ x.mon) (hm8 : x.mon < 8) (ho : ∀ v ∈ [o0, o1, o2, o3, o4, o5, o6, o7], 0 ≤ v ∧ v < 1000) :
    Calls Try.prog 29 #[.agg (ints [o0, o1, o2, o3, o4, o5, o6, o7]).toArray, x.val] w fun r w' => BehBack [o0, o1, o2, o3, o4, o5, o6, o7] x w w' r := by
  rcases x with ⟨src, dst, kind, mon, var, op, s1, s2, k, kad, kl, kc, epos, n, site, out, pos⟩
  simp only at hk hm0 hm8
  subst hk
  simp only [Eg.val, Eg.cells, ints, List.map_cons, List.map_nil]
  have b0 := ho o0 (by simp); have b1 := ho o1 (by simp); have b2 := ho o2 (by simp); have b3 := ho o3 (by simp)
  have b4 := ho o4 (by simp); have b5 := ho o5 (by simp); have b6 := ho o6 (by simp); have b7 := ho o7 (by simp)
  obtain ⟨b00, b01⟩ := b0; obtain ⟨b10, b11⟩ := b1; obtain ⟨b20, b21⟩ := b2; obtain ⟨b30, b31⟩ := b3
  obtain ⟨b40, b41⟩ := b4; obtain ⟨b50, b51⟩ := b5; obtain ⟨b60, b61⟩ := b6; obtain ⟨b70, b71⟩ := b7
  clear ho
  rcases eight hm0 hm8 with rfl | rfl | rfl | rfl | rfl | rfl | rfl | rfl
  all_goals
    clear hm0 hm8
    go_enter Try.func29, Try.ntmps29
    go_wp2
    refine bodyPost_ret (v := .tuple #[.agg (ints (behL [o0, o1, o2, o3, o4, o5, o6, o7] ⟨src, dst, 4, _, var, op, s1, s2, k, kad, kl, kc, epos, n, site, out, pos⟩)).toArray, .bool (behB [o0, o1, o2, o3, o4, o5, o6, o7] ⟨src, dst, 4, _, var, op, s1, s2, k, kad, kl, kc, epos, n, site, out, pos⟩)]) ?_ rfl ⟨rfl, ?_⟩
    · simp [results, Try.results29, go_sem, ints, behL, behB]
    · repeat (first | exact Below.refl _ _ | with_reducible refine Below.drew ?_ | with_reducible refine below_drewN ?_ _ | with_reducible refine Below.al ?_ le_rfl' _ | refine Below.setCell ?_ (by simp) _)
set_option maxRecDepth 100000 in
set_option maxHeartbeats 8000000 in
theorem behind_leave (o0 o1 o2 o3 o4 o5 o6 o7 : Int) (x : Eg) (w : World) (hk : x.kind = 5) (hm0 : 0 ≤ x.mon) (hm8 : x.mon < 8) (ho : ∀ v ∈ [o0, o1, o2, o3, o4, o5, o6, o7], 0 ≤ v ∧ v < 1000) :
    Calls Try.prog 29 #[.agg (ints [o0, o1, o2, o3, o4, o5, o6, o7]).toArray, x.val] w fun r w' => BehBack [o0, o1, o2, o3, o4, o5, o6, o7] x w w' r := by
  rcases x with ⟨src, dst, kind, mon, var, op, s1, s2, k, kad, kl, kc, epos, n, site, out, pos⟩
  simp only at hk hm0 hm8
  subst hk
  simp only [Eg.val, Eg.cells, ints, List.map_cons, List.map_nil]
  have b0 := ho o0 (by simp); have b1 := ho o1 (by simp); have b2 := ho o2 (by simp); have b3 := ho o3 (by simp)
  have b4 := ho o4 (by simp); have b5 := ho o5 (by simp); have b6 := ho o6 (by simp); have b7 := ho o7 (by simp)
  obtain ⟨b00, b01⟩ := b0; obtain ⟨b10, b11⟩ := b1; obtain ⟨b20, b21⟩ := b2; obtain ⟨b30, b31⟩ := b3
  obtain ⟨b40, b41⟩ := b4; obtain ⟨b50, b51⟩ := b5; obtain ⟨b60, b61⟩ := b6; obtain ⟨b70, b71⟩ := b7
  clear ho
  rcases eight hm0 hm8 with rfl | rfl | rfl | rfl | rfl | rfl | rfl | rfl
  all_goals
    clear hm0 hm8
    go_enter Try.func29, Try.ntmps29
    go_wp2_with fail
    go_region
    all_goals
      go_wp2
      refine bodyPost_ret (v := .tuple #[.agg (ints (behL [o0, o1, o2, o3, o4, o5, o6, o7] ⟨src, dst, 5, _, var, op, s1, s2, k, kad, kl, kc, epos, n, site, out, pos⟩)).toArray, .bool (behB [o0, o1, o2, o3, o4, o5, o6, o7] ⟨src, dst, 5, _, var, op, s1, s2, k, kad, kl, kc, epos, n, site, out, pos⟩)]) ?_ rfl ⟨rfl, ?_⟩
      · simp [results, Try.results29, go_sem, ints, behL, behB]
      · repeat (first | exact Below.refl _ _ | with_reducible refine Below.drew ?_ | with_reducible refine below_drewN ?_ _ | with_reducible refine Below.al ?_ le_rfl' _ | refine Below.setCell ?_ (by simp) _)
set_option maxRecDepth 100000 in
set_option maxHeartbeats 8000000 in
theorem behind_else (o0 o1 o2 o3 o4 o5 o6 o7 : Int) (x : Eg) (w : World) (hk : ¬ x.kind = 5) (hk4 : ¬ x.kind = 4) (ho : ∀ v ∈ [o0, o1, o2, o3, o4, o5, o6, o7], 0 ≤ v ∧ v < 1000) :
    Calls Try.prog 29 #[.agg (ints [o0, o1, o2, o3, o4, o5, o6, o7]).toArray, x.val] w fun r w' => BehBack [o0, o1, o2, o3, o4, o5, o6, o7] x w w' r := by
  rcases x with ⟨src, dst, kind, mon, var, op, s1, s2, k, kad, kl, kc, epos, n, site, out, pos⟩
  simp only at hk hk4
  have hB : behB [o0, o1, o2, o3, o4, o5, o6, o7] ⟨src, dst, kind, mon, var, op, s1, s2, k, kad, kl, kc, epos, n, site, out, pos⟩ = true := by simp [behB, hk]
  have hL : behL [o0, o1, o2, o3, o4, o5, o6, o7] ⟨src, dst, kind, mon, var, op, s1, s2, k, kad, kl, kc, epos, n, site, out, pos⟩ = [o0, o1, o2, o3, o4, o5, o6, o7] := by simp [behL, hk, hk4]
  have HB := hid hB
  have HL := hid hL
  clear hB hL
  simp only [Eg.val, Eg.cells, ints, List.map_cons, List.map_nil]
  have b0 := ho o0 (by simp); have b1 := ho o1 (by simp); have b2 := ho o2 (by simp); have b3 := ho o3 (by simp)
  have b4 := ho o4 (by simp); have b5 := ho o5 (by simp); have b6 := ho o6 (by simp); have b7 := ho o7 (by simp)
  obtain ⟨b00, b01⟩ := b0; obtain ⟨b10, b11⟩ := b1; obtain ⟨b20, b21⟩ := b2; obtain ⟨b30, b31⟩ := b3
  obtain ⟨b40, b41⟩ := b4; obtain ⟨b50, b51⟩ := b5; obtain ⟨b60, b61⟩ := b6; obtain ⟨b70, b71⟩ := b7
  clear ho
  go_enter Try.func29, Try.ntmps29
  go_wp2
  refine bodyPost_ret (v := .tuple #[.agg (ints [o0, o1, o2, o3, o4, o5, o6, o7]).toArray, .bool true]) ?_ rfl ⟨by rw [HB.out, HL.out], ?_⟩
  · simp [results, Try.results29, go_sem, ints]
  · repeat (first | exact Below.refl _ _ | with_reducible refine Below.drew ?_ | with_reducible refine below_drewN ?_ _ | with_reducible refine Below.al ?_ le_rfl' _ | refine Below.setCell ?_ (by simp) _)
theorem behind_any (o : List Int) (hl : o.length = 8) (x : Eg) (w : World) (hm : x.kind = 4 ∨ x.kind = 5 → 0 ≤ x.mon ∧ x.mon < 8) (ho : ∀ v ∈ o, 0 ≤ v ∧ v < 1000) :
    Calls Try.prog 29 #[.agg (ints o).toArray, x.val] w fun r w' => BehBack o x w w' r := by
  obtain ⟨o0, o1, o2, o3, o4, o5, o6, o7, rfl⟩ := list8 hl
  by_cases h4 : x.kind = 4
  · exact behind_enter _ _ _ _ _ _ _ _ x w h4 (hm (.inl h4)).1 (hm (.inl h4)).2 ho
  · by_cases h5 : x.kind = 5
    · exact behind_leave _ _ _ _ _ _ _ _ x w h5 (hm (.inr h5)).1 (hm (.inr h5)).2 ho
    · exact behind_else _ _ _ _ _ _ _ _ x w h5 h4 ho
end Go.Proofs.Ythdkgfmlihgceaa
