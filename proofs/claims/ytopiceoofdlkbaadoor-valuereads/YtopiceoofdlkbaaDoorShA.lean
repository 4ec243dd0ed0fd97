/-
  fitsName, fitsNumber, isExpr of package tree: whether an expression has the shape of its kind, whatever its kids are.
-/
import Derived.Test.YtopiceoofdlkbaaDoorItB
namespace Go.Proofs.YtopiceoofdlkbaaDoor
open Go.RowKit
/-- What the shapes of expressions are. -/
def exNames (k : Nat) : Bool := k == 4
def exNumber (k : Nat) : Bool := k == 1 || k == 7
def exKids (k : Nat) : Nat := if k < 5 then 0 else if k < 8 then 1 else 2
/-- What the shapes of statements are: mon, name, number, expr, least, most. -/
def stMon (k : Nat) : Bool := k == 2 || (7 ≤ k && k ≤ 11)
def stName (k : Nat) : Bool := k == 2 || k == 8
def stNumber (k : Nat) : Bool := k == 9
def stExpr (k : Nat) : Bool := 2 ≤ k && k ≤ 4
def stLeast (k : Nat) : Nat := if 3 ≤ k ∧ k ≤ 7 then 1 else 0
def stMost (k : Nat) : Nat := if k = 3 then 2 else if k = 6 then 8 else if 4 ≤ k ∧ k ≤ 7 then 1 else 0
/-- What the rules of package types are: what an expression is; what its parts must be. -/
def ruIs (k : Nat) : Int := if k = 0 ∨ k = 4 then 0 else if k = 1 ∨ (6 ≤ k ∧ k ≤ 9) then 2 else 1
def ruParts (k : Nat) : Int := if k < 5 then 0 else if k = 5 ∨ 16 ≤ k then 1 else if k = 10 ∨ k = 11 then -1 else 2
/-- The two variables hold the shapes and the rules. -/
structure Shapes (W : World) : Prop where
  size : 2 ≤ W.heap.size
  ru : ∀ k, k < 18 → W.cell? ⟨0, k * 2, none⟩ = some (.int .i64 (ruIs k)) ∧ W.cell? ⟨0, k * 2 + 1, none⟩ = some (.int .i64 (ruParts k))
  ex : ∀ k, k < 18 → W.cell? ⟨1, k * 3, none⟩ = some (.bool (exNames k)) ∧ W.cell? ⟨1, k * 3 + 1, none⟩ = some (.bool (exNumber k)) ∧ W.cell? ⟨1, k * 3 + 2, none⟩ = some (.int .i64 (exKids k : Nat))
theorem Shapes.below {n : Nat} {W W' : World} (h : Shapes W) (hb : Below n W W') (hn : 2 ≤ n) : Shapes W' := by
  refine ⟨by have := h.size; have := hb.size; omega, fun k hk => ?_, fun k hk => ?_⟩
  · obtain ⟨h0, h1⟩ := h.ru k hk
    exact ⟨(hb.cell (p := ⟨0, _, none⟩) (by show 0 < n; omega)).trans h0, (hb.cell (p := ⟨0, _, none⟩) (by show 0 < n; omega)).trans h1⟩
  · obtain ⟨h0, h1, h2⟩ := h.ex k hk
    exact ⟨(hb.cell (p := ⟨1, _, none⟩) (by show 1 < n; omega)).trans h0, (hb.cell (p := ⟨1, _, none⟩) (by show 1 < n; omega)).trans h1, (hb.cell (p := ⟨1, _, none⟩) (by show 1 < n; omega)).trans h2⟩
def fitsName (s : ByteArray) (b : Bool) : Bool := if b then Lx.name s else decide (s.size = 0)
def fitsNum (n : Int) (b : Bool) : Bool := (n == 0) || (b && decide (0 < n))
theorem isEmpty_size (s : ByteArray) : s.toList.isEmpty = decide (s.size = 0) := by
  rw [Bool.eq_iff_iff, decide_eq_true_iff, ByteArray.toList_eq, List.isEmpty_iff]
  constructor
  · intro h
    have := congrArg List.length h
    simpa using this
  · intro h
    apply List.eq_nil_of_length_eq_zero
    simpa using h
theorem fitsName_any (s : ByteArray) (b : Bool) (w : World) (hs : Len s) :
    Calls Tryd.prog 66 #[.string s, .bool b] w fun e w' => e = .returned (.bool (fitsName s b)) ∧ w' = w := by
  cases b
  · go_enter Tryd.func66, Tryd.ntmps66
    go_wp2
    go_ret
    exact ⟨ret_bool (isEmpty_size s), rfl⟩
  · go_enter Tryd.func66, Tryd.ntmps66
    go_wp2_with (go_at_call 72; refine (name_any _ _ hs).mono ?_; rintro e w' ⟨rfl, rfl⟩)
    go_ret
    exact ⟨rfl, rfl⟩
theorem fitsNum_any (n : Int) (b : Bool) (w : World) :
    Calls Tryd.prog 67 #[.int .i64 n, .bool b] w fun e w' => e = .returned (.bool (fitsNum n b)) ∧ w' = w := by
  cases h : (n == 0)
  · cases b
    · go_enter Tryd.func67, Tryd.ntmps67
      go_wp2
      go_ret
      exact ⟨ret_bool (by simp [fitsNum, h]), rfl⟩
    · by_cases hp : 0 < n
      · go_enter Tryd.func67, Tryd.ntmps67
        go_wp2
        go_ret
        exact ⟨ret_bool (by simp [fitsNum, h, hp]), rfl⟩
      · go_enter Tryd.func67, Tryd.ntmps67
        go_wp2
        go_ret
        exact ⟨ret_bool (by simp [fitsNum, h, hp]), rfl⟩
  · go_enter Tryd.func67, Tryd.ntmps67
    go_wp2
    go_ret
    exact ⟨ret_bool (by simp [fitsNum, h]), rfl⟩
/-- An expression has the shape of its kind. -/
def Ex.ok1 : Ex → Bool
  | .mk op mon name n _ _ kids _ => decide (1 ≤ op) && decide (op ≤ 17) && (fitsName mon (exNames op.toNat) && fitsName name (exNames op.toNat) && fitsNum n (exNumber op.toNat) && ((kids.length : Int) == (exKids op.toNat : Int)))
set_option maxRecDepth 100000 in
set_option maxHeartbeats 1000000 in
theorem isExpr_any (e : Ex) (n₀ : Nat) (w : World) (hI : e.Is n₀ w) (hS : Shapes w) :
    Calls Tryd.prog 52 #[e.val] w fun r w' => r = .returned (.bool e.ok1) ∧ Below w.heap.size w w' := by
  rcases e with ⟨op, mon, name, n, ad, cap, kids, pos⟩
  obtain ⟨⟨h1, h2, h3, h4, h5⟩, h6, h7⟩ := hI.down
  unfold I64 at h1 h2 h3
  have hl1 := h6.1; have hl2 := h6.2.1
  unfold maxLen at hl2
  have HR : Hid (Ex.ok1 (.mk op mon name n ad cap kids pos) = (decide (1 ≤ op) && decide (op ≤ 17) && (fitsName mon (exNames op.toNat) && fitsName name (exNames op.toNat) && fitsNum n (exNumber op.toNat) && ((kids.length : Int) == (exKids op.toNat : Int))))) := rfl
  clear h6 h7 hI
  simp only [Ex.val, Ex.cells]
  by_cases ho1 : 1 ≤ op
  · by_cases ho2 : op ≤ 17
    · obtain ⟨k, rfl⟩ : ∃ k : Nat, op = (k : Int) := ⟨op.toNat, by omega⟩
      have hk1 : 1 ≤ k := by omega
      have hk2 : k < 18 := by omega
      obtain ⟨s0, s1, s2⟩ := hS.ex k hk2
      have hsz : 1 < w.heap.size := by have := hS.size; omega
      have HR2 : Hid (Ex.ok1 (.mk (k : Int) mon name n ad cap kids pos) = (fitsName mon (exNames k) && fitsName name (exNames k) && fitsNum n (exNumber k) && ((kids.length : Int) == (exKids k : Int)))) := by
        show _ = _
        rw [HR.out, decide_eq_true ho1, decide_eq_true ho2, Int.toNat_natCast, Bool.true_and, Bool.true_and]
      clear HR ho1 ho2
      cases q1 : fitsName mon (exNames k)
      · go_enter Tryd.func52, Tryd.ntmps52
        go_wp2_with (first | (go_at_call 66; refine (fitsName_any _ _ _ ‹_›).mono ?_; rintro e w' ⟨rfl, hw'⟩; have hw2 := hw'.symm; subst hw2) | (go_at_call 67; refine (fitsNum_any _ _ _).mono ?_; rintro e w' ⟨rfl, hw'⟩; have hw2 := hw'.symm; subst hw2))
        go_ret
        exact ⟨ret_bool (by rw [HR2.out, q1]; rfl), ((Below.refl _ _).al le_rfl' _).al le_rfl' _⟩
      cases q2 : fitsName name (exNames k)
      · go_enter Tryd.func52, Tryd.ntmps52
        go_wp2_with (first | (go_at_call 66; refine (fitsName_any _ _ _ ‹_›).mono ?_; rintro e w' ⟨rfl, hw'⟩; have hw2 := hw'.symm; subst hw2) | (go_at_call 67; refine (fitsNum_any _ _ _).mono ?_; rintro e w' ⟨rfl, hw'⟩; have hw2 := hw'.symm; subst hw2))
        go_ret
        exact ⟨ret_bool (by rw [HR2.out, q1, q2]; rfl), ((Below.refl _ _).al le_rfl' _).al le_rfl' _⟩
      cases q3 : fitsNum n (exNumber k)
      · go_enter Tryd.func52, Tryd.ntmps52
        go_wp2_with (first | (go_at_call 66; refine (fitsName_any _ _ _ ‹_›).mono ?_; rintro e w' ⟨rfl, hw'⟩; have hw2 := hw'.symm; subst hw2) | (go_at_call 67; refine (fitsNum_any _ _ _).mono ?_; rintro e w' ⟨rfl, hw'⟩; have hw2 := hw'.symm; subst hw2))
        go_ret
        exact ⟨ret_bool (by rw [HR2.out, q1, q2, q3]; rfl), ((Below.refl _ _).al le_rfl' _).al le_rfl' _⟩
      cases q4 : ((kids.length : Int) == (exKids k : Int))
      · go_enter Tryd.func52, Tryd.ntmps52
        go_wp2_with (first | (go_at_call 66; refine (fitsName_any _ _ _ ‹_›).mono ?_; rintro e w' ⟨rfl, hw'⟩; have hw2 := hw'.symm; subst hw2) | (go_at_call 67; refine (fitsNum_any _ _ _).mono ?_; rintro e w' ⟨rfl, hw'⟩; have hw2 := hw'.symm; subst hw2))
        go_ret
        exact ⟨ret_bool (by rw [HR2.out, q1, q2, q3, q4]; rfl), ((Below.refl _ _).al le_rfl' _).al le_rfl' _⟩
      · go_enter Tryd.func52, Tryd.ntmps52
        go_wp2_with (first | (go_at_call 66; refine (fitsName_any _ _ _ ‹_›).mono ?_; rintro e w' ⟨rfl, hw'⟩; have hw2 := hw'.symm; subst hw2) | (go_at_call 67; refine (fitsNum_any _ _ _).mono ?_; rintro e w' ⟨rfl, hw'⟩; have hw2 := hw'.symm; subst hw2))
        go_ret
        exact ⟨ret_bool (by rw [HR2.out, q1, q2, q3, q4]; rfl), ((Below.refl _ _).al le_rfl' _).al le_rfl' _⟩
    · have HF : Hid (Ex.ok1 (.mk op mon name n ad cap kids pos) = false) := by
        show _ = _
        rw [HR.out, decide_eq_false ho2, Bool.and_false, Bool.false_and]
      go_enter Tryd.func52, Tryd.ntmps52
      go_wp2
      go_ret
      exact ⟨ret_bool HF.out.symm, (Below.refl _ _).al le_rfl' _⟩
  · have HF : Hid (Ex.ok1 (.mk op mon name n ad cap kids pos) = false) := by
      show _ = _
      rw [HR.out, decide_eq_false ho1, Bool.false_and, Bool.false_and]
    go_enter Tryd.func52, Tryd.ntmps52
    go_wp2
    go_ret
    exact ⟨ret_bool HF.out.symm, (Below.refl _ _).al le_rfl' _⟩
end Go.Proofs.YtopiceoofdlkbaaDoor
