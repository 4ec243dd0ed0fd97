/-
  What expressions are in a program with one monitor more. Nothing is walked here.
-/
import Derived.Test.YtgfdegogknoknaaDoorJE
namespace Go.Proofs.YtgfdegogknoknaaDoor
open Go.RowKit
theorem tero_none' {l : List Mo} {e : Ex} : e.tero l = none ↔ e.ok = true ∧ e.ter l = none := by
  rw [Ex.tero]
  split
  · rename_i h; simp [h]
  · rename_i h; simp [h]
theorem monIx_snoc (l : List Mo) (m : Mo) (mon : ByteArray) : monIx (l ++ [m]) mon = (monIx l mon).or (if m.name = mon then some l.length else none) := by
  unfold monIx
  rw [List.findIdx?_append]
  congr 1
  by_cases h : m.name = mon <;> simp [List.findIdx?_cons, h]
theorem slotIx_old {l : List Mo} (m : Mo) {mon : ByteArray} (name : ByteArray) {i : Nat} (h : monIx l mon = some i) : slotIx (l ++ [m]) mon name = slotIx l mon name := by
  have hi := fidx_lt h
  have h2 : monIx (l ++ [m]) mon = some i := by rw [monIx_snoc, h]; rfl
  rw [slotIx_at h hi, slotIx_at h2 (by simp; omega)]
  have h3 : (l ++ [m])[i]'(by simp; omega) = l[i] := List.getElem_append_left hi
  rw [h3, List.take_append_of_le_length (by omega)]
theorem varTy_old {l : List Mo} (m : Mo) {mon : ByteArray} (name : ByteArray) {i : Nat} (h : monIx l mon = some i) : varTy (l ++ [m]) mon name = varTy l mon name := by
  unfold varTy
  rw [slotIx_old m name h]
  cases hs : slotIx l mon name with
  | none => rfl
  | some s =>
    obtain ⟨i, hi, k, hk, rfl, -, -⟩ := slotIx_parts hs
    have h1 := allV_at l i hi k hk
    have h2 : (allV (l ++ [m]))[k + vsum (l.take i)]? = (allV l)[k + vsum (l.take i)]? := by
      rw [show allV (l ++ [m]) = allV l ++ m.vars by simp [allV], List.getElem?_append_left]
      exact (List.getElem?_eq_some_iff.1 h1).1
    rw [Option.bind_some, Option.bind_some, h2]
theorem varTy_le {l : List Mo} (m : Mo) {mon name : ByteArray} {t : Int} (h : varTy l mon name = some t) : varTy (l ++ [m]) mon name = some t := by
  cases hm : monIx l mon with
  | some i => rw [varTy_old m name hm, h]
  | none => rw [varTy_none (slotIx_no hm)] at h; cases h
theorem varTy_in {l : List Mo} {m : Mo} (hin : (monIx l m.name).isSome = true) (mon name : ByteArray) : varTy (l ++ [m]) mon name = varTy l mon name := by
  cases hm : monIx l mon with
  | some i => exact varTy_old m name hm
  | none =>
    have h2 : monIx (l ++ [m]) mon = none := by
      rw [monIx_snoc, hm]
      by_cases h : m.name = mon
      · rw [h, hm] at hin; cases hin
      · simp [h]
    rw [varTy_none (slotIx_no hm), varTy_none (slotIx_no h2)]
theorem is_le {l : List Mo} (m : Mo) {e : Ex} (h : e.ter l = none) : e.is (l ++ [m]) = e.is l := by
  rcases e with ⟨op, mon, name, n, ad, cap, kids, pos⟩
  rw [Ex.is, Ex.is]
  split
  · rename_i h4
    rw [Ex.ter_mk, if_pos h4] at h
    cases hv : varTy l mon name with
    | none => rw [hv] at h; cases h
    | some t => rw [varTy_le m hv]
  · rfl
theorem want_eq {l q : List Mo} {op : Int} {kids : List Ex} (h : ∀ k ∈ kids, k.is q = k.is l) : wantOf q op kids = wantOf l op kids := by
  unfold wantOf
  split
  · cases kids with
    | nil => rfl
    | cons k r => exact h k (by simp)
  · rfl
theorem misfit_eq {l q : List Mo} (want : Int) {kids : List Ex} (h : ∀ k ∈ kids, k.is q = k.is l) : misfit q want kids = misfit l want kids := by
  induction kids with
  | nil => rfl
  | cons k r ih => rw [misfit, misfit, h k (by simp), ih (fun x hx => h x (by simp [hx]))]
theorem ter_le {l : List Mo} (m : Mo) (e : Ex) : e.ter l = none → e.ter (l ++ [m]) = none := by
  induction e using Ex.ind with
  | h op mon name n ad cap kids pos ih =>
    intro h
    rw [Ex.ter_mk] at h ⊢
    split
    · rename_i h4
      rw [if_pos h4] at h
      cases hv : varTy l mon name with
      | none => rw [hv] at h; cases h
      | some t => rw [varTy_le m hv]; rfl
    · rename_i h4
      rw [if_neg h4, Option.or_eq_none_iff, Ex.terL_none] at h
      have hi : ∀ k ∈ kids, k.is (l ++ [m]) = k.is l := fun k hk => is_le m (h.1 k hk)
      rw [want_eq hi, misfit_eq _ hi, h.2, Option.or_none, Ex.terL_none]
      exact fun k hk => ih k hk (h.1 k hk)
theorem ter_in {l q : List Mo} (hv : ∀ mon name, varTy q mon name = varTy l mon name) (e : Ex) : e.ter q = e.ter l ∧ e.is q = e.is l := by
  induction e using Ex.ind with
  | h op mon name n ad cap kids pos ih =>
    have hi : ∀ k ∈ kids, k.is q = k.is l := fun k hk => (ih k hk).2
    have hl : ∀ ks : List Ex, (∀ k ∈ ks, k ∈ kids) → Ex.terL q ks = Ex.terL l ks := by
      intro ks
      induction ks with
      | nil => intro _; rfl
      | cons k r ih2 => intro hm; rw [Ex.terL, Ex.terL, (ih k (hm k (by simp))).1, ih2 (fun x hx => hm x (by simp [hx]))]
    constructor
    · rw [Ex.ter_mk, Ex.ter_mk, hv, hl kids (fun _ h => h), want_eq hi, misfit_eq _ hi]
    · rw [Ex.is, Ex.is, hv]
theorem ter_61 {l : List Mo} (m : Mo) (e : Ex) : e.ter (l ++ [m]) = none → e.ter l = none ∨ ∃ a, e.ter l = some (61, a) := by
  induction e using Ex.ind with
  | h op mon name n ad cap kids pos ih =>
    intro h
    rw [Ex.ter_mk] at h
    rw [Ex.ter_mk]
    split
    · cases hv : varTy l mon name with
      | none => exact .inr ⟨pos, rfl⟩
      | some t => exact .inl rfl
    · rename_i h4
      rw [if_neg h4, Option.or_eq_none_iff, Ex.terL_none] at h
      have hl : ∀ ks : List Ex, (∀ k ∈ ks, k ∈ kids) → Ex.terL l ks = none ∨ ∃ a, Ex.terL l ks = some (61, a) := by
        intro ks
        induction ks with
        | nil => intro _; exact .inl rfl
        | cons k r ih2 =>
          intro hm
          rw [Ex.terL]
          rcases ih k (hm k (by simp)) (h.1 k (hm k (by simp))) with h5 | ⟨a, h5⟩
          · rw [h5]; exact ih2 (fun x hx => hm x (by simp [hx]))
          · rw [h5]; exact .inr ⟨a, rfl⟩
      rcases hl kids (fun _ h => h) with h5 | ⟨a, h5⟩
      · have hi : ∀ k ∈ kids, k.is (l ++ [m]) = k.is l := fun k hk => is_le m ((Ex.terL_none l kids).1 h5 k hk)
        rw [want_eq hi, misfit_eq _ hi] at h
        rw [h5, h.2]
        exact .inl rfl
      · rw [h5]; exact .inr ⟨a, rfl⟩
theorem tero_le {l : List Mo} (m : Mo) {e : Ex} (h : e.tero l = none) : e.tero (l ++ [m]) = none ∧ e.is (l ++ [m]) = e.is l := by
  rw [tero_none'] at h
  exact ⟨tero_none'.2 ⟨h.1, ter_le m e h.2⟩, is_le m h.2⟩
theorem tero_in {l : List Mo} {m : Mo} (hin : (monIx l m.name).isSome = true) (e : Ex) : e.tero (l ++ [m]) = e.tero l := by
  rw [Ex.tero, Ex.tero, (ter_in (varTy_in hin) e).1]
theorem tero_61 {l : List Mo} (m : Mo) {e : Ex} (h : e.tero (l ++ [m]) = none) {c a : Int} (h2 : e.tero l = some (c, a)) : c = 61 := by
  rw [tero_none'] at h
  rw [Ex.tero, if_pos h.1] at h2
  rcases ter_61 m e h.2 with h5 | ⟨b, h5⟩
  · rw [h5] at h2; cases h2
  · rw [h5] at h2; cases h2; rfl
end Go.Proofs.YtgfdegogknoknaaDoor
