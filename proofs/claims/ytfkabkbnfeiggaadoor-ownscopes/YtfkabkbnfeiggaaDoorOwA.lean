/-
  Plain: where a monitor is owned (P9.1): the first error of statements, where what is owned is told by a function. What is owned more leaves what is right as it is. Nothing is walked here.
-/
import Derived.Test.YtfkabkbnfeiggaaDoorTrB
namespace Go.Proofs.YtfkabkbnfeiggaaDoor
open Go.RowKit
mutual
/-- The place of the first variable, from the left, of whose monitor g tells true. -/
def Ex.fv (g : ByteArray → Bool) : Ex → Option Int
  | .mk op mon _ _ _ _ kids pos => if op = 4 ∧ g mon = true then some pos else Ex.fvL g kids
def Ex.fvL (g : ByteArray → Bool) : List Ex → Option Int
  | [] => none
  | e :: l => match e.fv g with
    | some k => some k
    | none => Ex.fvL g l
end
theorem Ex.fv_mk (g : ByteArray → Bool) (op : Int) (mon name : ByteArray) (n : Int) (ad : Option Addr) (cap : Nat) (kids : List Ex) (pos : Int) : (Ex.mk op mon name n ad cap kids pos).fv g = if op = 4 ∧ g mon = true then some pos else Ex.fvL g kids := by rw [Ex.fv]
theorem Ex.fvL_append (g : ByteArray → Bool) (a b : List Ex) : Ex.fvL g (a ++ b) = match Ex.fvL g a with
    | some k => some k
    | none => Ex.fvL g b := by
  induction a with
  | nil => simp [Ex.fvL]
  | cons e l ih =>
    rw [List.cons_append, Ex.fvL, Ex.fvL]
    cases e.fv g with
    | some k => rfl
    | none => simpa using ih
theorem Ex.fvL_snoc (g : ByteArray → Bool) (l : List Ex) (k : Nat) (h : k < l.length) (h0 : Ex.fvL g (l.take k) = none) : Ex.fvL g (l.take (k + 1)) = l[k].fv g := by
  rw [List.take_succ_eq_append_getElem h, Ex.fvL_append, h0]
  simp only [Ex.fvL]
  cases l[k].fv g <;> rfl
theorem Ex.fvL_cut (g : ByteArray → Bool) (l : List Ex) (k : Nat) (h : k < l.length) (h0 : Ex.fvL g (l.take k) = none) {v : Int} (h1 : l[k].fv g = some v) : Ex.fvL g l = some v := by
  have h2 : l = l.take (k + 1) ++ l.drop (k + 1) := (List.take_append_drop _ _).symm
  rw [h2, Ex.fvL_append, Ex.fvL_snoc g l k h h0, h1]
mutual
theorem Ex.fv_none {g g' : ByteArray → Bool} (h : ∀ m, g' m = true → g m = true) : ∀ e : Ex, e.fv g = none → e.fv g' = none
  | .mk op mon name n ad cap kids pos => by
    rw [Ex.fv, Ex.fv]
    intro h0
    split at h0
    · cases h0
    · rename_i h1
      rw [if_neg (fun h2 => h1 ⟨h2.1, h mon h2.2⟩)]
      exact Ex.fvL_none h kids h0
theorem Ex.fvL_none {g g' : ByteArray → Bool} (h : ∀ m, g' m = true → g m = true) : ∀ l : List Ex, Ex.fvL g l = none → Ex.fvL g' l = none
  | [] => by simp [Ex.fvL]
  | e :: l => by
    rw [Ex.fvL, Ex.fvL]
    cases he : e.fv g with
    | some k => intro h0; cases h0
    | none => intro h0; rw [Ex.fv_none h e he]; exact Ex.fvL_none h l h0
end
def St.kd : St → Int
  | .mk k _ _ _ _ _ _ _ _ => k
def St.mn : St → ByteArray
  | .mk _ m _ _ _ _ _ _ _ => m
/-- Only who owns its monitor may do a statement of that kind. -/
def needs (k : Int) : Bool := (k == 2) || (k == 9) || (k == 10) || (k == 11)
/-- The monitors of the waits that stand in blocks themselves. -/
def wts (l : List St) : List ByteArray := (l.filter (fun s => s.kd == 9)).map St.mn
def wtsL (bs : List Bl) : List ByteArray := bs.flatMap fun b => wts b.body
/-- The guard's first variable that is of another monitor than one of its waits. -/
def imp (kind : Int) (e : Ex) (bs : List Bl) : Option Int := if kind = 3 ∨ kind = 4 then e.fv (fun m => (wtsL bs).any fun x => decide (x ≠ m)) else none
/-- What a statement asks for, its blocks aside. -/
def oneE (f : ByteArray → Bool) (kind : Int) (mon : ByteArray) (e : Ex) (bs : List Bl) (pos : Int) : Int × Int :=
  if needs kind = true ∧ f mon = false then (90, pos) else
    match e.fv (fun m => !f m) with
    | some k => (90, k)
    | none => match imp kind e bs with
      | some k => (91, k)
      | none => (0, 0)
def andMon (f : ByteArray → Bool) (kind : Int) (mon : ByteArray) : ByteArray → Bool := if kind = 7 then fun x => f x || decide (x = mon) else f
/-- The first of two that is an error. -/
def fstE (a b : Int × Int) : Int × Int := if a.1 = 0 then b else a
mutual
/-- P9.1. -/
def St.sco (f : ByteArray → Bool) : St → Int × Int
  | .mk kind mon _ _ e _ _ blocks pos => fstE (oneE f kind mon e blocks pos) (Bl.scoL (andMon f kind mon) blocks)
def Bl.sco (f : ByteArray → Bool) : Bl → Int × Int
  | .mk _ _ body => St.scoL f body
def St.scoL (f : ByteArray → Bool) : List St → Int × Int
  | [] => (0, 0)
  | s :: l => fstE (s.sco f) (St.scoL f l)
def Bl.scoL (f : ByteArray → Bool) : List Bl → Int × Int
  | [] => (0, 0)
  | b :: l => fstE (b.sco f) (Bl.scoL f l)
end
theorem fstE_zero (b : Int × Int) : fstE (0, 0) b = b := rfl
theorem fstE_err {a : Int × Int} (h : a.1 ≠ 0) (b : Int × Int) : fstE a b = a := if_neg h
theorem fstE_assoc (a b c : Int × Int) : fstE (fstE a b) c = fstE a (fstE b c) := by
  unfold fstE
  by_cases h : a.1 = 0
  · simp [h]
  · simp [h]
theorem oneE_zero {f : ByteArray → Bool} {kind : Int} {mon : ByteArray} {e : Ex} {bs : List Bl} {pos : Int} (h : (oneE f kind mon e bs pos).1 = 0) : oneE f kind mon e bs pos = (0, 0) := by
  unfold oneE at h ⊢
  split
  · rename_i g; rw [if_pos g] at h; cases h
  · rename_i g; rw [if_neg g] at h
    split
    · rename_i g1; rw [g1] at h; cases h
    · rename_i g1; rw [g1] at h
      simp only at h
      split
      · rename_i g2; rw [g2] at h; cases h
      · rfl
mutual
theorem St.sco_zero {f : ByteArray → Bool} : ∀ s : St, (s.sco f).1 = 0 → s.sco f = (0, 0)
  | .mk kind mon name n e ad cap blocks pos => by
    rw [St.sco]
    intro h
    by_cases h1 : (oneE f kind mon e blocks pos).1 = 0
    · rw [oneE_zero h1, fstE_zero] at h ⊢; exact Bl.scoL_zero blocks h
    · rw [fstE_err h1] at h; exact absurd h h1
theorem Bl.sco_zero {f : ByteArray → Bool} : ∀ b : Bl, (b.sco f).1 = 0 → b.sco f = (0, 0)
  | .mk ad cap body => by rw [Bl.sco]; exact St.scoL_zero body
theorem St.scoL_zero {f : ByteArray → Bool} : ∀ l : List St, (St.scoL f l).1 = 0 → St.scoL f l = (0, 0)
  | [] => by intro _; simp [St.scoL]
  | s :: l => by
    rw [St.scoL]
    intro h
    by_cases h1 : (s.sco f).1 = 0
    · rw [St.sco_zero s h1, fstE_zero] at h ⊢; exact St.scoL_zero l h
    · rw [fstE_err h1] at h; exact absurd h h1
theorem Bl.scoL_zero {f : ByteArray → Bool} : ∀ l : List Bl, (Bl.scoL f l).1 = 0 → Bl.scoL f l = (0, 0)
  | [] => by intro _; simp [Bl.scoL]
  | b :: l => by
    rw [Bl.scoL]
    intro h
    by_cases h1 : (b.sco f).1 = 0
    · rw [Bl.sco_zero b h1, fstE_zero] at h ⊢; exact Bl.scoL_zero l h
    · rw [fstE_err h1] at h; exact absurd h h1
end
theorem St.scoL_append (f : ByteArray → Bool) (a b : List St) : St.scoL f (a ++ b) = fstE (St.scoL f a) (St.scoL f b) := by
  induction a with
  | nil => simp [St.scoL, fstE_zero]
  | cons s l ih => rw [List.cons_append, St.scoL, St.scoL, ih, fstE_assoc]
theorem Bl.scoL_append (f : ByteArray → Bool) (a b : List Bl) : Bl.scoL f (a ++ b) = fstE (Bl.scoL f a) (Bl.scoL f b) := by
  induction a with
  | nil => simp [Bl.scoL, fstE_zero]
  | cons s l ih => rw [List.cons_append, Bl.scoL, Bl.scoL, ih, fstE_assoc]
theorem fstE_unit (a : Int × Int) (h : a.1 = 0 → a = (0, 0)) : fstE a (0, 0) = a := by
  unfold fstE
  split
  · rename_i g; exact (h g).symm
  · rfl
theorem St.scoL_snoc (f : ByteArray → Bool) (l : List St) (k : Nat) (h : k < l.length) (h0 : St.scoL f (l.take k) = (0, 0)) : St.scoL f (l.take (k + 1)) = l[k].sco f := by
  rw [List.take_succ_eq_append_getElem h, St.scoL_append, h0, fstE_zero, St.scoL, St.scoL]
  exact fstE_unit _ (St.sco_zero _)
theorem St.scoL_cut (f : ByteArray → Bool) (l : List St) (k : Nat) (h : k < l.length) (h0 : St.scoL f (l.take k) = (0, 0)) (h1 : (l[k].sco f).1 ≠ 0) : St.scoL f l = l[k].sco f := by
  have h2 : l = l.take (k + 1) ++ l.drop (k + 1) := (List.take_append_drop _ _).symm
  conv => lhs; rw [h2]
  rw [St.scoL_append, St.scoL_snoc f l k h h0, fstE_err h1]
theorem Bl.scoL_snoc (f : ByteArray → Bool) (l : List Bl) (k : Nat) (h : k < l.length) (h0 : Bl.scoL f (l.take k) = (0, 0)) : Bl.scoL f (l.take (k + 1)) = l[k].sco f := by
  rw [List.take_succ_eq_append_getElem h, Bl.scoL_append, h0, fstE_zero, Bl.scoL, Bl.scoL]
  exact fstE_unit _ (Bl.sco_zero _)
theorem Bl.scoL_cut (f : ByteArray → Bool) (l : List Bl) (k : Nat) (h : k < l.length) (h0 : Bl.scoL f (l.take k) = (0, 0)) (h1 : (l[k].sco f).1 ≠ 0) : Bl.scoL f l = l[k].sco f := by
  have h2 : l = l.take (k + 1) ++ l.drop (k + 1) := (List.take_append_drop _ _).symm
  conv => lhs; rw [h2]
  rw [Bl.scoL_append, Bl.scoL_snoc f l k h h0, fstE_err h1]
/-- More is more: what is no ErrOwn stays as it is. -/
theorem oneE_more {f g : ByteArray → Bool} (h : ∀ x, f x = true → g x = true) (kind : Int) (mon : ByteArray) (e : Ex) (bs : List Bl) (pos : Int) : (oneE f kind mon e bs pos).1 = 90 ∨ oneE g kind mon e bs pos = oneE f kind mon e bs pos := by
  by_cases h1 : needs kind = true ∧ f mon = false
  · left; simp [oneE, h1]
  · have h2 : ¬ (needs kind = true ∧ g mon = false) := fun h2 => h1 ⟨h2.1, by cases hf : f mon; rfl; rw [h mon hf] at h2; exact absurd h2.2 (by simp)⟩
    rw [oneE, oneE, if_neg h1, if_neg h2]
    cases he : e.fv (fun m => !f m) with
    | some k => left; rfl
    | none =>
      right
      rw [Ex.fv_none (g := fun m => !f m) (g' := fun m => !g m) (fun m hm => by
        cases hf : f m
        · rfl
        · rw [h m hf] at hm; simp at hm) e he]
theorem andMon_more {f g : ByteArray → Bool} (h : ∀ x, f x = true → g x = true) (kind : Int) (mon : ByteArray) : ∀ x, andMon f kind mon x = true → andMon g kind mon x = true := by
  intro x
  unfold andMon
  split
  · simp only [Bool.or_eq_true, decide_eq_true_eq]
    rintro (h1 | h1)
    · exact .inl (h x h1)
    · exact .inr h1
  · exact h x
theorem fstE_more {a b a' b' : Int × Int} (h1 : a.1 = 90 ∨ a' = a) (h2 : b.1 = 90 ∨ b' = b) : (fstE a b).1 = 90 ∨ fstE a' b' = fstE a b := by
  rcases h1 with h1 | rfl
  · left; rw [fstE_err (by rw [h1]; decide)]; exact h1
  · by_cases h : a'.1 = 0
    · simp only [fstE, h, if_true]; exact h2
    · right; rw [fstE_err h, fstE_err h]
mutual
theorem St.sco_more : ∀ (s : St) {f g : ByteArray → Bool}, (∀ x, f x = true → g x = true) → (s.sco f).1 = 90 ∨ s.sco g = s.sco f
  | .mk kind mon name n e ad cap blocks pos, f, g, h => by
    rw [St.sco, St.sco]
    exact fstE_more (oneE_more h kind mon e blocks pos) (Bl.scoL_more blocks (andMon_more h kind mon))
theorem Bl.sco_more : ∀ (b : Bl) {f g : ByteArray → Bool}, (∀ x, f x = true → g x = true) → (b.sco f).1 = 90 ∨ b.sco g = b.sco f
  | .mk ad cap body, f, g, h => by rw [Bl.sco, Bl.sco]; exact St.scoL_more body h
theorem St.scoL_more : ∀ (l : List St) {f g : ByteArray → Bool}, (∀ x, f x = true → g x = true) → (St.scoL f l).1 = 90 ∨ St.scoL g l = St.scoL f l
  | [], f, g, h => by right; simp [St.scoL]
  | s :: l, f, g, h => by rw [St.scoL, St.scoL]; exact fstE_more (St.sco_more s h) (St.scoL_more l h)
theorem Bl.scoL_more : ∀ (l : List Bl) {f g : ByteArray → Bool}, (∀ x, f x = true → g x = true) → (Bl.scoL f l).1 = 90 ∨ Bl.scoL g l = Bl.scoL f l
  | [], f, g, h => by right; simp [Bl.scoL]
  | b :: l, f, g, h => by rw [Bl.scoL, Bl.scoL]; exact fstE_more (Bl.sco_more b h) (Bl.scoL_more l h)
end
/-- Names that are owned. -/
def ownF (O : List ByteArray) (x : ByteArray) : Bool := O.any fun y => decide (y = x)
theorem ownF_iff {O : List ByteArray} {x : ByteArray} : ownF O x = true ↔ x ∈ O := by
  simp [ownF]
theorem ownF_append (O l : List ByteArray) (x : ByteArray) : ownF (O ++ l) x = (ownF O x || ownF l x) := by simp [ownF]
/-- With a name more, each once. -/
def wth (O : List ByteArray) (x : ByteArray) : List ByteArray := if ownF O x = true then O else O ++ [x]
def wths (O l : List ByteArray) : List ByteArray := l.foldl wth O
theorem wth_own (O : List ByteArray) (x : ByteArray) : ownF (wth O x) = fun y => ownF O y || decide (y = x) := by
  funext y
  unfold wth
  by_cases h : ownF O x = true
  · rw [if_pos h]
    by_cases e : y = x
    · subst e; simp [h]
    · simp [e]
  · rw [if_neg h, ownF_append]
    congr 1
    by_cases e : y = x
    · subst e; simp [ownF]
    · have : ¬ x = y := fun h => e h.symm
      simp [ownF, e, this]
theorem wths_own (l : List ByteArray) : ∀ (O : List ByteArray) (y : ByteArray), ownF (wths O l) y = (ownF O y || ownF l y) := by
  induction l with
  | nil => intro O y; rw [wths, List.foldl_nil]; simp [ownF]
  | cons x l ih =>
    intro O y
    have := ih (wth O x) y
    rw [wths] at this ⊢
    rw [List.foldl_cons, this, wth_own]
    show ((ownF O y || decide (y = x)) || ownF l y) = (ownF O y || ownF ([x] ++ l) y)
    rw [ownF_append, Bool.or_assoc]
    congr 2
    by_cases e : y = x
    · subst e; simp [ownF]
    · have : ¬ x = y := fun h => e h.symm
      simp [ownF, e, this]
theorem wths_nil (l : List ByteArray) : ownF (wths [] l) = ownF l := by
  funext y
  rw [wths_own]
  rfl
theorem wths_snoc (O l : List ByteArray) (k : Nat) (h : k < l.length) : wths O (l.take (k + 1)) = wth (wths O (l.take k)) l[k] := by
  rw [wths, wths, List.take_succ_eq_append_getElem h, List.foldl_append]; rfl
theorem wth_nodup {O : List ByteArray} (h : O.Nodup) (x : ByteArray) : (wth O x).Nodup := by
  unfold wth
  split
  · exact h
  · rename_i hx
    exact List.nodup_append.2 ⟨h, by simp, fun a ha c hc => by simp at hc; rintro rfl; exact hx (ownF_iff.2 (hc ▸ ha))⟩
theorem andMon_own (O : List ByteArray) (kind : Int) (mon : ByteArray) : andMon (ownF O) kind mon = ownF (if kind = 7 then wth O mon else O) := by
  unfold andMon
  split
  · rw [wth_own]
  · rfl
end Go.Proofs.YtfkabkbnfeiggaaDoor
