/-
  The text that every statement of layer 1 looks at ('live') is told as it should be: the call hands back true.
-/
import Derived.Test.YtpebddinnnmdaabDoorLxI
namespace Go.Proofs.YtpebddinnnmdaabDoor
open Go.RowKit
namespace Lx
def s1 : ByteArray := ⟨#[97, 46, 98, 61, 55, 59]⟩
def s2 : ByteArray := ⟨#[120, 32, 38, 32, 121]⟩
def outs1 : List Out := [⟨1, ⟨#[97]⟩, 0, 0, 0⟩, ⟨4, ⟨#[46]⟩, 0, 1, 0⟩, ⟨1, ⟨#[98]⟩, 0, 2, 0⟩, ⟨4, ⟨#[61]⟩, 0, 3, 0⟩, ⟨2, ⟨#[55]⟩, 7, 4, 0⟩, ⟨4, ⟨#[59]⟩, 0, 5, 0⟩, ⟨5, ⟨#[]⟩, 0, 6, 0⟩]
theorem outs_s1 : outs s1 = outs1 := by kernel_rfl
theorem err_s1 : errOf s1 = 0 := by kernel_rfl
theorem at_s1 : atOf s1 = 0 := by kernel_rfl
theorem outs_s2 : outs s2 = [] := by kernel_rfl
theorem err_s2 : errOf s2 = 10 := by kernel_rfl
theorem at_s2 : atOf s2 = 2 := by kernel_rfl
theorem word_while : word ⟨#[119, 104, 105, 108, 101]⟩ = true := by kernel_rfl
theorem name_a : name ⟨#[97]⟩ = true := by kernel_rfl
theorem name_while : name ⟨#[119, 104, 105, 108, 101]⟩ = false := by kernel_rfl
end Lx
theorem owns_shape {w : World} {B e size n : Nat} {v : Value} {xs : List Value} (h : w.ownsRow B e size v n xs) (hn : 0 < n) : ∃ g cap, v = .slice (some ⟨g, 0, none⟩) n cap ∧ B ≤ g ∧ g < w.heap.size ∧ n ≤ cap ∧ cap ≤ maxLen ∧ ∀ j, j < n * size → w.cell? ⟨g, j, none⟩ = xs[j]? := by
  have h0 := h
  obtain ⟨hl, ⟨rfl, rfl⟩ | ⟨g, cap, cur, rfl, hB, hh, hc, hm, hcs, hx⟩⟩ := h
  · omega
  · exact ⟨g, cap, rfl, hB, (Array.getElem?_eq_some_iff.1 hh).1, hc, hm, fun j hj => h0.cellAt j hj⟩
set_option maxHeartbeats 1000000 in
theorem live_any (w : World) (hE : HasErr w) :
    Calls Tryd.prog 4 #[] w fun e w' => e = .returned (.bool true) ∧ Below w.heap.size w w' := by
  go_enter Tryd.func4, Tryd.ntmps4
  go_wp2_with fail
  go_fit (scan_any Lx.s1 w (by decide) hE)
  rintro e w1 ⟨v, rfl, hown, hb1⟩
  rw [Lx.outs_s1, show Lx.outs1.length = 7 from rfl] at hown
  rw [Lx.err_s1, Lx.at_s1]
  obtain ⟨g, cap, rfl, hB, hg, hcap, hmx, hcell⟩ := owns_shape hown (by decide)
  have hE1 := hE.after hb1
  unfold maxLen at hmx
  go_wp2_with fail
  go_fit (scan_any Lx.s2 w1 (by decide) hE1)
  rintro e w2 ⟨v2, rfl, hown2, hb2⟩
  rw [Lx.err_s2, Lx.at_s2]
  have hbw : Below w.heap.size w w2 := hb1.trans (hb2.mono hb1.size)
  have hc2 : ∀ j, j < 7 * 4 → w2.cell? ⟨g, j, none⟩ = (Lx.cellsOf Lx.outs1)[j]? := fun j hj => (hb2.cell (p := ⟨g, j, none⟩) hg).trans (hcell j hj)
  have hJ : Calls Tryd.prog 9 #[.slice (some ⟨g, 0, none⟩) 2 cap] w2 fun e w' => e = .returned (.string ⟨#[97, 32, 46]⟩) ∧ Below w2.heap.size w2 w' := by
    refine (join_any [⟨#[97]⟩, ⟨#[46]⟩] g 0 cap w2 (by have := hb2.size; omega) (by decide) ?_ (by decide)).mono ?_
    · intro j hj
      match j, hj with
      | 0, _ => exact ⟨1, 0, 0, hc2 0 (by decide), hc2 1 (by decide), hc2 2 (by decide), hc2 3 (by decide)⟩
      | 1, _ => exact ⟨4, 0, 1, hc2 4 (by decide), hc2 5 (by decide), hc2 6 (by decide), hc2 7 (by decide)⟩
    · rintro e w' ⟨rfl, hb⟩
      exact ⟨rfl, hb⟩
  have HJ := hid hJ
  have q18 : w2.cell? ⟨g, 18, none⟩ = some (.int .i64 7) := hc2 18 (by decide)
  have q24 : w2.cell? ⟨g, 24, none⟩ = some (.int .i64 5) := hc2 24 (by decide)
  have q25 : w2.cell? ⟨g, 25, none⟩ = some (.string ⟨#[]⟩) := hc2 25 (by decide)
  have q26 : w2.cell? ⟨g, 26, none⟩ = some (.int .i64 0) := hc2 26 (by decide)
  have q27 : w2.cell? ⟨g, 27, none⟩ = some (.int .i64 6) := hc2 27 (by decide)
  clear hJ hc2 hcell hown hown2
  go_wp2_with (first
    | (go_at_call 6; refine (num_any _ _).mono ?_; rintro e w' ⟨rfl, hw'⟩; have hw2 := hw'.symm; subst hw2)
    | (go_at_call 7; refine (word_any _ _).mono ?_; rw [Lx.word_while]; rintro e w' ⟨rfl, hw'⟩; have hw2 := hw'.symm; subst hw2)
    | (go_at_call_of 8 (Value.string ⟨#[97]⟩); refine (name_any _ _ (by decide)).mono ?_; rw [Lx.name_a]; rintro e w' ⟨rfl, hw'⟩; have hw2 := hw'.symm; subst hw2)
    | (go_at_call 8; refine (name_any _ _ (by decide)).mono ?_; rw [Lx.name_while]; rintro e w' ⟨rfl, hw'⟩; have hw2 := hw'.symm; subst hw2)
    | (go_at_call 9; refine HJ.out.mono ?_; rintro e w3 ⟨rfl, hb3⟩))
  go_ret
  exact ⟨rfl, hbw.trans (hb3.mono hbw.size)⟩
end Go.Proofs.YtpebddinnnmdaabDoor
