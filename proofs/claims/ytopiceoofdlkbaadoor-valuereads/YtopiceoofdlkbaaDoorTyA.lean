/-
  What expressions and statements are, as plain Lean functions: a variable's type, the first error of an expression, of a statement, of a program. Nothing is walked here.
-/
import Derived.Test.YtopiceoofdlkbaaDoorNxM
namespace Go.Proofs.YtopiceoofdlkbaaDoor
open Go.RowKit
/-- What a variable is: 1 (a bool) or 2 (a number). -/
def Va.is (v : Va) : Int := if v.type = 2 ∨ v.type = 3 then 2 else 1
theorem allV_at (l : List Mo) (i : Nat) (hi : i < l.length) (k : Nat) (hk : k < l[i].vars.length) : (allV l)[k + vsum (l.take i)]? = some l[i].vars[k] := by
  induction l generalizing i with
  | nil => simp at hi
  | cons m l ih => cases i with
    | zero =>
      have hk' : k < m.vars.length := by simpa using hk
      simp [allV, vsum, List.getElem?_append_left, hk']
    | succ i =>
      have hi' : i < l.length := by simpa using hi
      have hk' : k < l[i].vars.length := by simpa using hk
      have h1 : vsum ((m :: l).take (i + 1)) = m.vars.length + vsum (l.take i) := by simp [vsum]
      have h2 : allV (m :: l) = m.vars ++ allV l := by simp [allV]
      rw [h1, h2, List.getElem?_append_right (by omega), show k + (m.vars.length + vsum (l.take i)) - m.vars.length = k + vsum (l.take i) by omega, ih i hi' hk']
      simp
/-- What the variable of that name in that monitor is, if there is one. -/
def varTy (l : List Mo) (mon name : ByteArray) : Option Int := (slotIx l mon name).bind fun s => ((allV l)[s]?).map Va.is
theorem varTy_none {l : List Mo} {mon name : ByteArray} (h : slotIx l mon name = none) : varTy l mon name = none := by rw [varTy, h]; rfl
theorem slotIx_parts {l : List Mo} {mon name : ByteArray} {s : Nat} (h : slotIx l mon name = some s) : ∃ (i : Nat) (hi : i < l.length) (k : Nat), k < l[i].vars.length ∧ s = k + vsum (l.take i) ∧ monIx l mon = some i ∧ l[i].vars.findIdx? (fun v => decide (v.name = name)) = some k := by
  rcases hm : monIx l mon with _ | i
  · rw [slotIx_no hm] at h; cases h
  · have hi := fidx_lt hm
    rw [slotIx_at hm hi] at h
    rcases hv : l[i].vars.findIdx? (fun v => decide (v.name = name)) with _ | k
    · rw [hv] at h; cases h
    · rw [hv] at h
      simp only [Option.map_some, Option.some.injEq] at h
      exact ⟨i, hi, k, fidx_lt hv, h.symm, rfl, hv⟩
theorem varTy_at {l : List Mo} {mon name : ByteArray} {i k : Nat} (hs : slotIx l mon name = some (k + vsum (l.take i))) (hi : i < l.length) (hk : k < l[i].vars.length) : varTy l mon name = some l[i].vars[k].is := by
  rw [varTy, hs, Option.bind_some, allV_at l i hi k hk]; rfl
theorem varTy_some {l : List Mo} {mon name : ByteArray} {s : Nat} (h : slotIx l mon name = some s) : ∃ t, varTy l mon name = some t ∧ (t = 1 ∨ t = 2) := by
  obtain ⟨i, hi, k, hk, rfl, -, -⟩ := slotIx_parts h
  refine ⟨_, varTy_at h hi hk, ?_⟩
  unfold Va.is
  split
  · exact .inr rfl
  · exact .inl rfl
def Ex.mon : Ex → ByteArray
  | .mk _ mon _ _ _ _ _ _ => mon
def Ex.nm : Ex → ByteArray
  | .mk _ _ name _ _ _ _ _ => name
def Ex.pos : Ex → Int
  | .mk _ _ _ _ _ _ _ pos => pos
/-- What an expression of that kind is. -/
def opIs (op : Int) : Int := if op = 1 ∨ (6 ≤ op ∧ op ≤ 9) then 2 else 1
/-- What the parts of such an expression must be; 0: alike. -/
def opWant (op : Int) : Int := if op = 5 ∨ op = 16 ∨ op = 17 then 1 else if op = 10 ∨ op = 11 then 0 else 2
/-- What an expression is, if it has no error. -/
def Ex.is (l : List Mo) : Ex → Int
  | .mk op mon name _ _ _ _ _ => if op = 4 then (varTy l mon name).getD 0 else opIs op
/-- What the parts must be, where the first part is known. -/
def wantOf (l : List Mo) (op : Int) (kids : List Ex) : Int := if opWant op = 0 then (match kids with | [] => 0 | k :: _ => k.is l) else opWant op
/-- The first part that is not what it must be. -/
def misfit (l : List Mo) (want : Int) : List Ex → Option (Int × Int)
  | [] => none
  | k :: r => if k.is l = want then misfit l want r else some (70, k.pos)
theorem misfit_drop (l : List Mo) (want : Int) (ks : List Ex) (j : Nat) (h : j < ks.length) : misfit l want (ks.drop j) = if ks[j].is l = want then misfit l want (ks.drop (j + 1)) else some (70, ks[j].pos) := by
  rw [List.drop_eq_getElem_cons h, misfit]
theorem misfit_end (l : List Mo) (want : Int) (ks : List Ex) (j : Nat) (h : ks.length ≤ j) : misfit l want (ks.drop j) = none := by
  rw [List.drop_of_length_le h, misfit]
theorem misfit_none (l : List Mo) (want : Int) (ks : List Ex) : misfit l want ks = none ↔ ∀ k ∈ ks, k.is l = want := by
  induction ks with
  | nil => simp [misfit]
  | cons k r ih =>
    rw [misfit]
    split
    · rename_i h; rw [ih]; simp [h]
    · rename_i h; simp [h]
mutual
/-- The first error of an expression of the right shape, and its place. -/
def Ex.ter (l : List Mo) : Ex → Option (Int × Int)
  | .mk op mon name _ _ _ kids pos => if op = 4 then (if (varTy l mon name).isSome then Option.none else some (61, pos)) else (Ex.terL l kids).or (misfit l (wantOf l op kids) kids)
def Ex.terL (l : List Mo) : List Ex → Option (Int × Int)
  | [] => Option.none
  | e :: r => (Ex.ter l e).or (Ex.terL l r)
end
theorem Ex.ter_mk (l : List Mo) (op : Int) (mon name : ByteArray) (n : Int) (ad : Option Addr) (cap : Nat) (kids : List Ex) (pos : Int) : (Ex.mk op mon name n ad cap kids pos).ter l = if op = 4 then (if (varTy l mon name).isSome then Option.none else some (61, pos)) else (Ex.terL l kids).or (misfit l (wantOf l op kids) kids) := by rw [Ex.ter]
theorem Ex.terL_drop (l : List Mo) (ks : List Ex) (j : Nat) (h : j < ks.length) : Ex.terL l (ks.drop j) = (ks[j].ter l).or (Ex.terL l (ks.drop (j + 1))) := by
  rw [List.drop_eq_getElem_cons h, Ex.terL]
theorem Ex.terL_end (l : List Mo) (ks : List Ex) (j : Nat) (h : ks.length ≤ j) : Ex.terL l (ks.drop j) = Option.none := by
  rw [List.drop_of_length_le h, Ex.terL]
theorem Ex.terL_none (l : List Mo) (ks : List Ex) : Ex.terL l ks = Option.none ↔ ∀ k ∈ ks, k.ter l = Option.none := by
  induction ks with
  | nil => simp [Ex.terL]
  | cons k r ih => rw [Ex.terL, Option.or_eq_none_iff, ih]; simp
theorem misfit_pos (l : List Mo) (want : Int) (ks : List Ex) (c a : Int) (h : misfit l want ks = some (c, a)) : c = 70 := by
  induction ks with
  | nil => cases h
  | cons k r ih =>
    rw [misfit] at h
    split at h
    · exact ih h
    · cases h; rfl
theorem Ex.ter_pos (l : List Mo) (e : Ex) : ∀ c a, e.ter l = some (c, a) → c = 61 ∨ c = 70 := by
  induction e using Ex.ind with
  | h op mon name n ad cap kids pos ih =>
    intro c a h
    rw [Ex.ter_mk] at h
    split at h
    · split at h
      · cases h
      · cases h; exact .inl rfl
    · have hk : ∀ ks : List Ex, (∀ x ∈ ks, x ∈ kids) → ∀ c a, Ex.terL l ks = some (c, a) → c = 61 ∨ c = 70 := by
        intro ks
        induction ks with
        | nil => intro _ c a h; cases h
        | cons x r ih2 =>
          intro hm c a h
          rw [Ex.terL] at h
          cases hx : x.ter l with
          | some y =>
            rw [hx] at h
            simp only [Option.some_or, Option.some.injEq] at h
            rw [h] at hx
            exact ih x (hm x (by simp)) c a hx
          | none =>
            rw [hx] at h
            exact ih2 (fun z hz => hm z (by simp [hz])) c a h
      cases hl : Ex.terL l kids with
      | some y =>
        rw [hl] at h
        simp only [Option.some_or, Option.some.injEq] at h
        rw [h] at hl
        exact hk kids (fun _ h => h) c a hl
      | none =>
        rw [hl] at h
        exact .inr (misfit_pos l _ kids c a h)
/-- The first error of any expression, and its place. -/
def Ex.tero (l : List Mo) (e : Ex) : Option (Int × Int) := if e.ok then e.ter l else some (20, 0)
theorem Ex.tero_pos (l : List Mo) (e : Ex) (c a : Int) (h : e.tero l = some (c, a)) : c ≠ 0 := by
  rw [Ex.tero] at h
  split at h
  · rcases Ex.ter_pos l e c a h with rfl | rfl <;> decide
  · cases h; decide
/-- What a function that tells a type, an error and a place hands back. -/
def TyBack (is : Int) (o : Option (Int × Int)) (w w' : World) (r : Ending) : Prop := ((o = none ∧ r = .returned (.tuple #[.int .i64 is, .int .i64 0, .int .i64 0])) ∨ (∃ c a, (c != 0) = true ∧ o = some (c, a) ∧ r = .returned (.tuple #[.int .i64 0, .int .i64 c, .int .i64 a]))) ∧ Below w.heap.size w w'
theorem TyBack.no {f : FuncId} {args : Array Value} {is : Int} {o : Option (Int × Int)} {w : World} (h : Calls Tryd.prog f args w fun r w' => TyBack is o w w' r) (ho : o = none) : Calls Tryd.prog f args w fun r w' => r = .returned (.tuple #[.int .i64 is, .int .i64 0, .int .i64 0]) ∧ Below w.heap.size w w' :=
  h.mono fun r w' hh => by
    rcases hh.1 with ⟨_, h2⟩ | ⟨c, a, _, h1, _⟩
    · exact ⟨h2, hh.2⟩
    · rw [ho] at h1; cases h1
theorem TyBack.yes {f : FuncId} {args : Array Value} {is : Int} {o : Option (Int × Int)} {w : World} (h : Calls Tryd.prog f args w fun r w' => TyBack is o w w' r) {c a : Int} (ho : o = some (c, a)) : Calls Tryd.prog f args w fun r w' => r = .returned (.tuple #[.int .i64 0, .int .i64 c, .int .i64 a]) ∧ Below w.heap.size w w' :=
  h.mono fun r w' hh => by
    rcases hh.1 with ⟨h1, _⟩ | ⟨c', a', _, h1, h2⟩
    · rw [ho] at h1; cases h1
    · rw [ho] at h1; cases h1; exact ⟨h2, hh.2⟩
theorem tyBack_no {is : Int} {o : Option (Int × Int)} {w w' : World} (h : o = none) (hb : Below w.heap.size w w') : TyBack is o w w' (.returned (.tuple #[.int .i64 is, .int .i64 0, .int .i64 0])) := ⟨.inl ⟨h, rfl⟩, hb⟩
theorem tyBack_yes {is : Int} {o : Option (Int × Int)} {w w' : World} {c a : Int} (hc : (c != 0) = true) (h : o = some (c, a)) (hb : Below w.heap.size w w') : TyBack is o w w' (.returned (.tuple #[.int .i64 0, .int .i64 c, .int .i64 a])) := ⟨.inr ⟨c, a, hc, h, rfl⟩, hb⟩
/-- What the expression of a statement must be, if it has one that is looked at. -/
def stWant (l : List Mo) (kind : Int) (mon name : ByteArray) : Option Int := if kind = 2 then varTy l mon name else if kind = 3 ∨ kind = 4 then some 1 else none
/-- The first error of a statement's own expression. -/
def stOwn (l : List Mo) (kind : Int) (mon name : ByteArray) (e : Ex) : Option (Int × Int) :=
  match stWant l kind mon name with
  | none => none
  | some t => (e.tero l).or (if e.is l = t then none else some (70, e.pos))
mutual
/-- The first error of a statement, and its place. -/
def St.tyc (l : List Mo) : St → Option (Int × Int)
  | .mk kind mon name _ e _ _ blocks _ => (stOwn l kind mon name e).or (Bl.tycL l blocks)
def Bl.tyc (l : List Mo) : Bl → Option (Int × Int)
  | .mk _ _ body => St.tycL l body
def St.tycL (l : List Mo) : List St → Option (Int × Int)
  | [] => none
  | s :: r => (St.tyc l s).or (St.tycL l r)
def Bl.tycL (l : List Mo) : List Bl → Option (Int × Int)
  | [] => none
  | b :: r => (Bl.tyc l b).or (Bl.tycL l r)
end
theorem St.tyc_mk (l : List Mo) (kind : Int) (mon name : ByteArray) (n : Int) (e : Ex) (ad : Option Addr) (cap : Nat) (blocks : List Bl) (pos : Int) : (St.mk kind mon name n e ad cap blocks pos).tyc l = (stOwn l kind mon name e).or (Bl.tycL l blocks) := by rw [St.tyc]
theorem Bl.tyc_mk (l : List Mo) (ad : Option Addr) (cap : Nat) (body : List St) : (Bl.mk ad cap body).tyc l = St.tycL l body := by rw [Bl.tyc]
theorem St.tycL_drop (k : List Mo) (l : List St) (j : Nat) (h : j < l.length) : St.tycL k (l.drop j) = (l[j].tyc k).or (St.tycL k (l.drop (j + 1))) := by
  rw [List.drop_eq_getElem_cons h, St.tycL]
theorem St.tycL_end (k : List Mo) (l : List St) (j : Nat) (h : l.length ≤ j) : St.tycL k (l.drop j) = none := by
  rw [List.drop_of_length_le h, St.tycL]
theorem Bl.tycL_drop (k : List Mo) (l : List Bl) (j : Nat) (h : j < l.length) : Bl.tycL k (l.drop j) = (l[j].tyc k).or (Bl.tycL k (l.drop (j + 1))) := by
  rw [List.drop_eq_getElem_cons h, Bl.tycL]
theorem Bl.tycL_end (k : List Mo) (l : List Bl) (j : Nat) (h : l.length ≤ j) : Bl.tycL k (l.drop j) = none := by
  rw [List.drop_of_length_le h, Bl.tycL]
/-- The first that is told of a list. -/
def fstOf {α β : Type} (f : α → Option β) : List α → Option β
  | [] => none
  | a :: r => (f a).or (fstOf f r)
theorem fstOf_drop {α β : Type} (f : α → Option β) (l : List α) (j : Nat) (h : j < l.length) : fstOf f (l.drop j) = (f l[j]).or (fstOf f (l.drop (j + 1))) := by
  rw [List.drop_eq_getElem_cons h, fstOf]
theorem fstOf_end {α β : Type} (f : α → Option β) (l : List α) (j : Nat) (h : l.length ≤ j) : fstOf f (l.drop j) = none := by
  rw [List.drop_of_length_le h, fstOf]
theorem fstOf_append {α β : Type} (f : α → Option β) (a b : List α) : fstOf f (a ++ b) = (fstOf f a).or (fstOf f b) := by
  induction a with
  | nil => simp [fstOf]
  | cons x a ih => simp only [List.cons_append, fstOf, ih, Option.or_assoc]
theorem fstOf_flat {α β γ : Type} (f : β → Option γ) (g : α → List β) (l : List α) : fstOf f (l.flatMap g) = fstOf (fun a => fstOf f (g a)) l := by
  induction l with
  | nil => rfl
  | cons x l ih => rw [List.flatMap_cons, fstOf_append, ih, fstOf]
theorem fstOf_none {α β : Type} (f : α → Option β) (l : List α) : fstOf f l = none ↔ ∀ x ∈ l, f x = none := by
  induction l with
  | nil => simp [fstOf]
  | cons x l ih => rw [fstOf, Option.or_eq_none_iff, ih]; simp
/-- A first value that its range has not. -/
def Va.off (v : Va) : Option (Int × Int) := if v.type = 3 ∧ (v.init < v.lo ∨ v.hi < v.init) then some (71, v.pos) else none
def Mo.offs (m : Mo) : Option (Int × Int) := fstOf Va.off m.vars
def Me.tyc (l : List Mo) (m : Me) : Option (Int × Int) := m.body.tyc l
def Mo.tyc (l : List Mo) (m : Mo) : Option (Int × Int) := fstOf (Me.tyc l) m.meths
def Ro.tyc (l : List Mo) (r : Ro) : Option (Int × Int) := r.body.tyc l
/-- What Check tells of a program. -/
def Pr.tchk (p : Pr) : Int × Int := if p.nchk.1 = 0 then ((fstOf Mo.offs p.mons).or ((fstOf (Mo.tyc p.mons) p.mons).or (fstOf (Ro.tyc p.mons) p.roles))).getD (0, 0) else p.nchk
end Go.Proofs.YtopiceoofdlkbaaDoor
