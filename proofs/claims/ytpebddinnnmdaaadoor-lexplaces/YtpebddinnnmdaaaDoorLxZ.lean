/-
  The document's own Same and Alike tell that two lists of the same tokens are the same.
-/
import Derived.Test.YtpebddinnnmdaaaDoorLxR
import Derived.Test.YtpebddinnnmdaaaDoorLxY
namespace Go.Proofs.YtpebddinnnmdaaaDoor
open Go.RowKit
def toTk (o : Lx.Out) : Tk := ⟨o.kind, o.text, o.n, o.pos⟩
theorem cellsOf_tk (l : List Lx.Out) : Lx.cellsOf l = (l.map toTk).flatMap Tk.cells := by
  unfold Lx.cellsOf
  rw [List.flatMap_map]; rfl
/-- A slice that holds these tokens. -/
def SliceOf (w : World) (v : Value) (l : List Tk) : Prop := (v = .slice none 0 0 ∧ l = []) ∨ ∃ g cap, v = .slice (some ⟨g, 0, none⟩) l.length cap ∧ l.length ≤ cap ∧ cap ≤ maxLen ∧ g < w.heap.size ∧ ArgAt w g 0 l
theorem sliceOf_owns {w : World} {B : Nat} {v : Value} {l : List Lx.Out} (h : w.ownsRow B 33 4 v l.length (Lx.cellsOf l)) : SliceOf w v (l.map toTk) := by
  rw [cellsOf_tk] at h
  by_cases hv : v = .slice none 0 0
  · left
    obtain ⟨hl, ⟨_, h0⟩ | ⟨g, cap, cur, e, _⟩⟩ := h
    · exact ⟨hv, by rw [List.eq_nil_of_length_eq_zero h0]; rfl⟩
    · rw [hv] at e; cases e
  · right
    obtain ⟨g, cap, rfl, _, hg, hc, hm, hcell⟩ := owns_shape' h hv
    refine ⟨g, cap, by rw [List.length_map], by rw [List.length_map]; exact hc, hm, hg, argAt_of ?_⟩
    rw [List.length_map]; exact hcell
theorem SliceOf.below {w w' : World} {v : Value} {l : List Tk} (h : SliceOf w v l) (hb : Below w.heap.size w w') : SliceOf w' v l := by
  rcases h with h | ⟨g, cap, rfl, hc, hm, hg, hA⟩
  · exact Or.inl h
  · exact Or.inr ⟨g, cap, rfl, hc, hm, by have := hb.size; omega, hA.below hb hg⟩
set_option maxHeartbeats 1000000 in
theorem same_some (l : List Tk) (g1 g2 c1 c2 : Nat) (w : World) (hl : l.length ≤ 1000000) (h1 : ArgAt w g1 0 l) (h2 : ArgAt w g2 0 l) :
    Calls Tryd.prog 12 #[.slice (some ⟨g1, 0, none⟩) l.length c1, .slice (some ⟨g2, 0, none⟩) l.length c2] w fun e w' => e = .returned (.bool true) ∧ ∃ n, w' = w.drewN n := by
  go_enter Tryd.func12, Tryd.ntmps12
  go_wp2
  go_loopw [5] (fun i wr => ∃ k : Nat, k ≤ l.length ∧ i = .int .i64 k ∧ ∃ n, wr = w.drewN n) (fun i _ => l.length - (intOf i).toNat)
  case atStart => exact ⟨0, by omega, rfl, 0, rfl⟩
  case round =>
    obtain ⟨k, hk, rfl, n, rfl⟩ := hrel
    by_cases hlt : k < l.length
    · obtain ⟨a0, a1, a2, a3⟩ := h1 k hlt
      obtain ⟨b0, b1, b2, b3⟩ := h2 k hlt
      simp only [Nat.zero_add] at a0 a1 a2 a3 b0 b1 b2 b3
      go_wp2_with fail
      go_quiet (fail)
      go_wp2
      go_roundw
      case rel => exact ⟨k + 1, by omega, by go_num, _, rfl⟩
      case measure => simp [intOf]; omega
    · go_wp2
      go_ret
      exact ⟨rfl, _, rfl⟩
theorem same_zero (a1 a2 : Option Addr) (c1 c2 : Nat) (w : World) :
    Calls Tryd.prog 12 #[.slice a1 0 c1, .slice a2 0 c2] w fun e w' => e = .returned (.bool true) ∧ ∃ n, w' = w.drewN n := by
  go_enter Tryd.func12, Tryd.ntmps12
  go_wp2
  refine wp_loop_rounds 1 ?_
  rw [rounds_succ]
  go_wp2
  go_ret
  exact ⟨rfl, 0, rfl⟩
theorem same_any (l : List Tk) (v1 v2 : Value) (w : World) (hl : l.length ≤ 1000000) (h1 : SliceOf w v1 l) (h2 : SliceOf w v2 l) :
    Calls Tryd.prog 12 #[v1, v2] w fun e w' => e = .returned (.bool true) ∧ ∃ n, w' = w.drewN n := by
  rcases h1 with ⟨rfl, rfl⟩ | ⟨g1, c1, rfl, _, _, _, hA1⟩
  · rcases h2 with ⟨rfl, _⟩ | ⟨g2, c2, rfl, _, _, _, hA2⟩
    · exact same_zero _ _ _ _ w
    · exact same_zero _ _ _ _ w
  · rcases h2 with ⟨rfl, rfl⟩ | ⟨g2, c2, rfl, _, _, _, hA2⟩
    · exact same_zero _ _ _ _ w
    · exact same_some l g1 g2 c1 c2 w hl hA1 hA2
/-- The same but for places. -/
def AlikeTk (l1 l2 : List Tk) : Prop := l1.length = l2.length ∧ ∀ (j : Nat) (h1 : j < l1.length) (h2 : j < l2.length), l1[j].kind = l2[j].kind ∧ l1[j].text = l2[j].text ∧ l1[j].n = l2[j].n
set_option maxHeartbeats 1000000 in
theorem alike_some (l1 l2 : List Tk) (g1 g2 c1 c2 : Nat) (w : World) (hl : l1.length ≤ 1000000) (h1 : ArgAt w g1 0 l1) (h2 : ArgAt w g2 0 l2) (hA : AlikeTk l1 l2) :
    Calls Tryd.prog 20 #[.slice (some ⟨g1, 0, none⟩) l1.length c1, .slice (some ⟨g2, 0, none⟩) l2.length c2] w fun e w' => e = .returned (.bool true) ∧ ∃ n, w' = w.drewN n := by
  obtain ⟨hlen, hA⟩ := hA
  rw [← hlen]
  have HL := hid hlen
  clear hlen
  go_enter Tryd.func20, Tryd.ntmps20
  go_wp2
  go_loopw [5] (fun i wr => ∃ k : Nat, k ≤ l1.length ∧ i = .int .i64 k ∧ ∃ n, wr = w.drewN n) (fun i _ => l1.length - (intOf i).toNat)
  case atStart => exact ⟨0, by omega, rfl, 0, rfl⟩
  case round =>
    obtain ⟨k, hk, rfl, n, rfl⟩ := hrel
    by_cases hlt : k < l1.length
    · have hlt2 : k < l2.length := by rw [← HL.out]; exact hlt
      obtain ⟨a0, a1, a2, a3⟩ := h1 k hlt
      obtain ⟨b0, b1, b2, b3⟩ := h2 k hlt2
      obtain ⟨e0, e1, e2⟩ := hA k hlt hlt2
      rw [← e0] at b0
      rw [← e1] at b1
      rw [← e2] at b2
      simp only [Nat.zero_add] at a0 a1 a2 a3 b0 b1 b2 b3
      clear e0 e1 e2 b3 a3
      generalize l1[k].kind = tk at *
      generalize l1[k].text = tx at *
      generalize l1[k].n = tn at *
      go_wp2_with fail
      go_quiet (fail)
      go_wp2
      go_roundw
      case rel => exact ⟨k + 1, by omega, by go_num, _, rfl⟩
      case measure => simp [intOf]; omega
    · go_wp2
      go_ret
      exact ⟨rfl, _, rfl⟩
theorem alike_zero (a1 a2 : Option Addr) (c1 c2 : Nat) (w : World) :
    Calls Tryd.prog 20 #[.slice a1 0 c1, .slice a2 0 c2] w fun e w' => e = .returned (.bool true) ∧ ∃ n, w' = w.drewN n := by
  go_enter Tryd.func20, Tryd.ntmps20
  go_wp2
  refine wp_loop_rounds 1 ?_
  rw [rounds_succ]
  go_wp2
  go_ret
  exact ⟨rfl, 0, rfl⟩
theorem alike_any (l1 l2 : List Tk) (v1 v2 : Value) (w : World) (hl : l1.length ≤ 1000000) (h1 : SliceOf w v1 l1) (h2 : SliceOf w v2 l2) (hA : AlikeTk l1 l2) :
    Calls Tryd.prog 20 #[v1, v2] w fun e w' => e = .returned (.bool true) ∧ ∃ n, w' = w.drewN n := by
  rcases h1 with ⟨rfl, rfl⟩ | ⟨g1, c1, rfl, _, _, _, hA1⟩
  · rcases h2 with ⟨rfl, _⟩ | ⟨g2, c2, rfl, _, _, _, hA2⟩
    · exact alike_zero _ _ _ _ w
    · rw [← hA.1]; exact alike_zero _ _ _ _ w
  · rcases h2 with ⟨rfl, rfl⟩ | ⟨g2, c2, rfl, _, _, _, hA2⟩
    · rw [hA.1]; exact alike_zero _ _ _ _ w
    · exact alike_some l1 l2 g1 g2 c1 c2 w hl hA1 hA2 hA
end Go.Proofs.YtpebddinnnmdaaaDoor
