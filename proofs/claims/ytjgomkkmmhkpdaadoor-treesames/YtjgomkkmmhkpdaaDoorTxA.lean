/-
  Texts of the document's answer tells true of two lists that are alike; parts, which counts by Size.
-/
import Derived.Test.YtjgomkkmmhkpdaaDoorLvB
import Derived.Test.YtjgomkkmmhkpdaaDoorRsA
import Derived.Deep.QuietTactic
import Derived.BigQuiet
namespace Go.Proofs.YtjgomkkmmhkpdaaDoor
open Go.RowKit
/-- These texts lie there, one behind the other. -/
def TxAt (W : World) (v : Value) (l : List ByteArray) : Prop := ∃ ad cap, v = .slice ad l.length cap ∧ l.length ≤ cap ∧ cap ≤ maxLen ∧ l.length ≤ 1000000 ∧ (l = [] ∨ ∃ b off, ad = some ⟨b, off, none⟩ ∧ b < W.heap.size ∧ ∀ (j : Nat) (h : j < l.length), W.cell? ⟨b, off + j, none⟩ = some (.string l[j]))
theorem TxAt.below {W W' : World} {v : Value} {l : List ByteArray} (h : TxAt W v l) (hb : Below W.heap.size W W') : TxAt W' v l := by
  obtain ⟨ad, cap, h1, h2, h3, h4, h5⟩ := h
  refine ⟨ad, cap, h1, h2, h3, h4, ?_⟩
  rcases h5 with h5 | ⟨b, off, h6, h7, h8⟩
  · exact .inl h5
  · exact .inr ⟨b, off, h6, by have := hb.size; omega, fun j hj => (hb.cell (p := ⟨b, _, none⟩) h7).trans (h8 j hj)⟩
theorem below_drewN {B : Nat} {w w' : World} (h : Below B w w') (q : Nat) : Below B w (w'.drewN q) := ⟨h.os, h.tape, h.output, h.size, h.block⟩
set_option maxRecDepth 100000 in
set_option maxHeartbeats 1000000 in
theorem texts_same (l : List ByteArray) (v u : Value) (w : World) (hv : TxAt w v l) (hu : TxAt w u l) :
    Calls Tryd.prog 17 #[v, u] w fun e w' => e = .returned (.bool true) ∧ Below w.heap.size w w' := by
  obtain ⟨ad, cap, rfl, h1, h2, h3, h4⟩ := hv
  obtain ⟨ad', cap', rfl, h1', h2', _, h4'⟩ := hu
  unfold maxLen at h2 h2'
  go_enter Tryd.func17, Tryd.ntmps17
  go_wp2
  go_loopw [5] (fun i wr => ∃ k : Nat, k ≤ l.length ∧ i = .int .i64 k ∧ Below w.heap.size w wr) (fun i _ => l.length - (intOf i).toNat)
  case atStart => exact ⟨0, by omega, rfl, Below.refl _ _⟩
  case round =>
    obtain ⟨k, hk, rfl, hbw⟩ := hrel
    by_cases hlt : k < l.length
    · rcases h4 with h | ⟨b, off, rfl, hb, hc⟩
      · subst h; simp at hlt
      rcases h4' with h | ⟨b', off', rfl, hb', hc'⟩
      · subst h; simp at hlt
      have c0 : wr.cell? ⟨b, off + k, none⟩ = some (.string l[k]) := (hbw.cell (p := ⟨b, _, none⟩) hb).trans (hc k hlt)
      have c1 : wr.cell? ⟨b', off' + k, none⟩ = some (.string l[k]) := (hbw.cell (p := ⟨b', _, none⟩) hb').trans (hc' k hlt)
      have hki : (k : Int) < (l.length : Int) := by omega
      go_wp2_with fail
      go_quiet (fail)
      go_wp2
      go_roundw
      case rel => exact ⟨k + 1, by omega, by go_num, below_drewN hbw _⟩
      case measure => simp [intOf]; omega
    · go_wp2
      go_ret
      exact ⟨rfl, hbw⟩
def whileP (b b4 : Nat) (e : Ex) (b3 : Nat) : Pr := ⟨none, 0, [], some ⟨b4, 0, none⟩, 1, [⟨⟨#[114]⟩, true, 0, .mk (some ⟨b3, 0, none⟩) 1 [.mk 4 ⟨#[]⟩ ⟨#[]⟩ 0 e (some ⟨b, 0, none⟩) 1 [.mk none 0 []] 0], 0⟩]⟩
theorem whileP_size (b b4 : Nat) (e : Ex) (b3 : Nat) (h : e.none = false) : (whileP b b4 e b3).size = 1 + e.subs.length := by
  simp [whileP, Pr.size, Pr.stmts, Bl.subs, St.subsL, St.subs, Bl.subsL, St.sz, St.e, h]
set_option maxRecDepth 100000 in
set_option maxHeartbeats 1000000 in
theorem parts_any (n₀ : Nat) (e : Ex) (w : World) (hn : n₀ ≤ w.heap.size) (he : e.Is n₀ w) (hno : e.none = false) (hc : e.subs.length ≤ 100000) :
    Calls Tryd.prog 27 #[e.val] w fun r w' => r = .returned (.int .i64 (e.subs.length : Nat)) ∧ Below w.heap.size w w' := by
  have hsz := whileP_size (w.heap.size + 1) (w.heap.size + 1 + 1 + 1) e (w.heap.size + 1 + 1) hno
  have hsb : Hid (∃ m : Nat, e.subs.length = m) := ⟨_, rfl⟩
  have hC : ∀ W : World, W = (((w.alloc (.cells e.cells.toArray 33)).alloc (.cells #[.slice none 0 0] 43)).alloc (.cells (St.mk 4 ⟨#[]⟩ ⟨#[]⟩ 0 e (some ⟨w.heap.size + 1, 0, none⟩) 1 [.mk none 0 []] 0).cells.toArray 61)).alloc (.cells (Ro.mk ⟨#[114]⟩ true 0 (.mk (some ⟨w.heap.size + 1 + 1, 0, none⟩) 1 [.mk 4 ⟨#[]⟩ ⟨#[]⟩ 0 e (some ⟨w.heap.size + 1, 0, none⟩) 1 [.mk none 0 []] 0]) 0).cells.toArray 45) →
      Calls Tryd.prog 24 #[(whileP (w.heap.size + 1) (w.heap.size + 1 + 1 + 1) e (w.heap.size + 1 + 1)).val] W fun r w' => r = .returned (.int .i64 ((1 + e.subs.length : Nat) : Int)) ∧ Below W.heap.size W w' := by
    intro W hW
    have hbW : Below w.heap.size w W := by rw [hW]; exact ((((Below.refl _ w).al le_rfl' _).al le_rfl' _).al le_rfl' _).al le_rfl' _
    have hz : W.heap.size = w.heap.size + 4 := by rw [hW]; simp
    have b1 : W.heap[w.heap.size + 1]? = some (.cells #[.slice none 0 0] 43 (0, 0)) := by
      rw [hW, Below.heap_alloc _ _ _ (by simp), Below.heap_alloc _ _ _ (by simp)]; exact heapAt _ (by simp)
    have b2 : W.heap[w.heap.size + 1 + 1]? = some (.cells (St.mk 4 ⟨#[]⟩ ⟨#[]⟩ 0 e (some ⟨w.heap.size + 1, 0, none⟩) 1 [.mk none 0 []] 0).cells.toArray 61 (0, 0)) := by
      rw [hW, Below.heap_alloc _ _ _ (by simp)]; exact heapAt _ (by simp)
    have b3 : W.heap[w.heap.size + 1 + 1 + 1]? = some (.cells (Ro.mk ⟨#[114]⟩ true 0 (.mk (some ⟨w.heap.size + 1 + 1, 0, none⟩) 1 [.mk 4 ⟨#[]⟩ ⟨#[]⟩ 0 e (some ⟨w.heap.size + 1, 0, none⟩) 1 [.mk none 0 []] 0]) 0).cells.toArray 45 (0, 0)) := by
      rw [hW]; exact heapAt _ (by simp)
    have hI : (whileP (w.heap.size + 1) (w.heap.size + 1 + 1 + 1) e (w.heap.size + 1 + 1)).Is W.heap.size W := by
      refine ⟨⟨slAt_nil, fun x hx => by cases hx⟩, slAt_of_block (cells := Ro.cells) (size := 5) (l := [_]) (cap := 1) (fun _ => rfl) b3 (by simp) (by omega) (by simp) (by omega), fun r hr => ?_⟩
      rw [List.mem_singleton.1 hr]
      refine ⟨show (ByteArray.mk #[114]).size ≤ 140737488351232 by decide, show I64 0 by unfold I64; omega, show I64 0 by unfold I64; omega, Bl.Is.up ⟨slAt_of_block (cells := St.cells) (size := 12) (l := [_]) (cap := 1) stCells_len b2 (by simp) (by omega) (by simp) (by omega), fun s hs => ?_⟩⟩
      rw [List.mem_singleton.1 hs]
      refine St.Is.up ⟨⟨by unfold I64; omega, by unfold I64; omega, by unfold I64; omega, by unfold Len; decide, by unfold Len; decide⟩, (he.below (hbW.mono hn)).mono (by omega), slAt_of_block (cells := Bl.cells) (size := 1) (l := [_]) (cap := 1) (fun _ => rfl) b1 (by simp [Bl.cells, Bl.slice]) (by omega) (by simp) (by omega), fun b hb => ?_⟩
      rw [List.mem_singleton.1 hb]
      exact Bl.Is.up ⟨slAt_nil, fun x hx => by cases hx⟩
    have q := size_any _ W.heap.size W (Nat.le_refl _) hI (by rw [hsz]; omega)
    rw [hsz] at q
    exact q
  obtain ⟨m, hm⟩ := hsb.out
  rw [hm] at hC hc ⊢
  clear hsz hsb hno hm he
  have hC := hC _ rfl
  rcases e with ⟨op, mon, name, k, ad, cap, kids, pos⟩
  simp only [Ex.val, Ex.cells, whileP, Pr.val, St.cells, Ro.cells, Bl.slice, List.cons_append, List.nil_append, List.length_cons, List.length_nil, Nat.zero_add] at hC ⊢
  go_enter Tryd.func27, Tryd.ntmps27
  go_wp2_with (go_at_call 24; refine hC.mono ?_; rintro r w1 ⟨rfl, hb1⟩)
  go_ret
  exact ⟨ret_i64 (by omega), ((((( Below.refl _ w).al le_rfl' _).al le_rfl' _).al le_rfl' _).al le_rfl' _).tr le_rfl' hb1⟩
end Go.Proofs.YtjgomkkmmhkpdaaDoor
