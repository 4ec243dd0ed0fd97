/-
  Arrays of eight numbers, held against each other; numbers of owning as such arrays.
-/
import Derived.Test.YthdkgfmlihgceaaHdF
import Derived.Test.YthdkgfmlihgceaaHdG
import Derived.Laws.StructEq
import Derived.ChangeKeysEq
namespace Go.Proofs.Ythdkgfmlihgceaa
open Go.RowKit
theorem info3' : ∃ i, Try.prog.info? 3 = some i := by obtain ⟨i, h, _⟩ := info_of info3; exact ⟨i, h⟩
theorem cells3 : Try.prog.cellsOf 3 = 1 := by kernel_rfl
theorem plain3 : Try.prog.plainKey 3 = true := by kernel_rfl
theorem items_eq (o p : List Int) (W : World) (n : Nat) (ho : o.length = n) (hp : p.length = n) : ∀ is : List Nat, (∀ i ∈ is, i < n) → (Op.eqItems 9999 3 1 (ints o).toArray (ints p).toArray is).run Try.prog W = .ok (is.all fun i => decide (o[i]? = p[i]?)) W := by
  intro is
  induction is with
  | nil => intro _; simp [Op.eqItems]
  | cons j is ih =>
    intro h
    have hj := h j (by simp)
    have e1 : (part 3 (ints o).toArray (j * 1)).run Try.prog W = .ok (.int .i64 o[j]) W := run_part_plain W plain3 (by rw [Nat.mul_one]; simp [ints, List.getElem?_eq_getElem (show j < o.length by omega)])
    have e2 : (part 3 (ints p).toArray (j * 1)).run Try.prog W = .ok (.int .i64 p[j]) W := run_part_plain W plain3 (by rw [Nat.mul_one]; simp [ints, List.getElem?_eq_getElem (show j < p.length by omega)])
    have e3 : (Op.equalIn 9999 3 (.int .i64 o[j]) (.int .i64 p[j])).run Try.prog W = .ok (o[j] == p[j]) W := run_equalIn_int 9998 3 .i64 .i64 _ _ (w := W) Try.underlying3
    have ih' := ih (fun i hi => h i (by simp [hi]))
    have e4 : decide (o[j]? = p[j]?) = (o[j] == p[j]) := by
      rw [List.getElem?_eq_getElem (by omega), List.getElem?_eq_getElem (by omega)]
      by_cases e : o[j] = p[j] <;> simp [e]
    simp only [Op.eqItems, Sem.run_bind, e1, e2, e3, Result.andThen_ok, List.all_cons, e4]
    cases o[j] == p[j]
    · simp
    · simpa using ih'
theorem arr_eq (o p : List Int) (ho : o.length = 8) (hp : p.length = 8) (W : World) : (Op.equalIn 10000 50 (.agg (ints o).toArray) (.agg (ints p).toArray)).run Try.prog W = .ok (decide (o = p)) W := by
  obtain ⟨i, hi⟩ := info3'
  rw [run_equalIn_array W 9999 _ _ Try.underlying50 hi, cells3, items_eq o p W 8 ho hp _ (fun i hi => by simpa using hi)]
  congr 1
  rw [Bool.eq_iff_iff, List.all_eq_true, decide_eq_true_eq]
  constructor
  · intro h
    apply List.ext_getElem?
    intro j
    by_cases hj : j < 8
    · simpa using h j (by simpa using hj)
    · rw [List.getElem?_eq_none (by omega), List.getElem?_eq_none (by omega)]
  · rintro rfl; simp
/-- Numbers of owning, as the program holds them. -/
def pad (o : List Int) : List Int := o ++ List.replicate (8 - o.length) 0
theorem pad_len {o : List Int} (h : o.length ≤ 8) : (pad o).length = 8 := by simp [pad]; omega
theorem pad_inj {o p : List Int} (h : o.length = p.length) (e : pad o = pad p) : o = p := by
  unfold pad at e
  rw [h] at e
  exact (List.append_inj e h).1
theorem pad_take {o : List Int} : (pad o).take o.length = o := by simp [pad]
theorem pad_small {o : List Int} {b : Int} (hb : 0 < b) (h : ∀ v ∈ o, 0 ≤ v ∧ v < b) : ∀ v ∈ pad o, 0 ≤ v ∧ v < b := by
  intro v hv
  rcases List.mem_append.1 hv with hv | hv
  · exact h v hv
  · rw [(List.mem_replicate.1 hv).2]; omega
theorem pad_get {o : List Int} {m : Nat} (h : m < o.length) : (pad o).getD m 0 = o.getD m 0 := by
  unfold pad
  rw [List.getD_eq_getElem?_getD, List.getD_eq_getElem?_getD, List.getElem?_append_left h]
theorem behB_pad {o : List Int} {x : Eg} (h : x.kind = 5 → x.mon.toNat < o.length) : behB (pad o) x = behB o x := by
  unfold behB
  split
  · rename_i h5; rw [pad_get (h h5)]
  · rfl
theorem behL_pad {o : List Int} {x : Eg} (h : x.kind = 4 ∨ x.kind = 5 → x.mon.toNat < o.length) : behL (pad o) x = pad (behL o x) := by
  have hs : ∀ (m : Nat) (v : Int), m < o.length → (pad o).set m v = pad (o.set m v) := by
    intro m v hm
    unfold pad
    rw [List.set_append_left _ _ hm, List.length_set]
  unfold behL
  split
  · rename_i h4; rw [pad_get (h (.inl h4)), hs _ _ (h (.inl h4))]
  · split
    · rename_i h5; rw [pad_get (h (.inr h5)), hs _ _ (h (.inr h5))]
    · rfl
theorem nodup_bound : ∀ (n : Nat) (l : List Int), l.Nodup → (∀ x ∈ l, 0 ≤ x ∧ x < (n : Int)) → l.length ≤ n := by
  intro n
  induction n with
  | zero =>
    intro l _ h
    cases l with
    | nil => simp
    | cons x l => have := h x (by simp); omega
  | succ n ih =>
    intro l hn h
    have h2 := ih (l.erase (n : Int)) (hn.erase _) (fun x hx => by
      have hm := (hn.mem_erase_iff).1 hx
      have := h x hm.2
      have hne := hm.1
      omega)
    have := List.length_erase_le (a := (n : Int)) (l := l)
    by_cases hm : (n : Int) ∈ l
    · rw [List.length_erase_of_mem hm] at h2; omega
    · rw [List.erase_of_not_mem hm] at h2; omega
end Go.Proofs.Ythdkgfmlihgceaa
