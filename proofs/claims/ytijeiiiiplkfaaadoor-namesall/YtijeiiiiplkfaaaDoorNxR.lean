/-
  A program that is fine, with a monitor more: what Check tells of it. Nothing is walked here.
-/
import Derived.Test.YtijeiiiiplkfaaaDoorNxQ
namespace Go.Proofs.YtijeiiiiplkfaaaDoor
open Go.RowKit
/-- Who finds more. -/
def Lk.Le (k l : Lk) : Prop := (∀ a b, k.V a b = true → l.V a b = true) ∧ (∀ a b, k.F a b = true → l.F a b = true) ∧ ∀ a, k.M a = true → l.M a = true
theorem unkE_le {k l : Lk} (h : k.Le l) (e : Ex) : e.unk k = none → e.unk l = none := by
  induction e using Ex.ind with
  | h op mon name n ad cap kids pos ih =>
    rw [Ex.unk_mk, Ex.unk_mk]
    intro h1
    split at h1
    · cases h1
    · rename_i h2
      rw [if_neg (fun h3 => h2 ⟨h3.1, by
        cases hv : k.V mon name
        · rfl
        · have := h.1 _ _ hv; rw [h3.2] at this; cases this⟩)]
      clear h2
      induction kids with
      | nil => rfl
      | cons x r ihr =>
        rw [Ex.unkL, Option.or_eq_none_iff] at h1 ⊢
        exact ⟨ih x (List.mem_cons_self ..) h1.1, ihr (fun y hy => ih y (List.mem_cons_of_mem _ hy)) h1.2⟩
theorem St.knows_le {k l : Lk} (h : k.Le l) (s : St) : s.knows k = true → s.knows l = true := by
  rcases s with ⟨kind, mon, name, n, e, ad, cap, blocks, pos⟩
  simp only [St.knows]
  split
  · exact h.1 _ _
  · split
    · exact h.2.1 _ _
    · split
      · exact h.2.2 _
      · exact id
theorem Bl.unk_le {k l : Lk} (h : k.Le l) (b : Bl) : b.unk k = none → b.unk l = none :=
  Bl.ind (P := fun s => s.unk k = none → s.unk l = none) (Q := fun b => b.unk k = none → b.unk l = none)
    (fun kind mon name n e ad cap blocks pos ih h1 => by
      rw [St.unk_mk] at h1 ⊢
      split at h1
      · cases h1
      · rename_i h2
        have h3 := St.knows_le h (.mk kind mon name n e ad cap blocks pos) (by simpa using h2)
        rw [if_neg (by rw [h3]; simp)]
        rw [Option.or_eq_none_iff] at h1 ⊢
        refine ⟨unkE_le h e h1.1, ?_⟩
        have h4 := h1.2
        clear h1 h2 h3
        induction blocks with
        | nil => rfl
        | cons x r ihr =>
          rw [Bl.unkL, Option.or_eq_none_iff] at h4 ⊢
          exact ⟨ih x (List.mem_cons_self ..) h4.1, ihr (fun y hy => ih y (List.mem_cons_of_mem _ hy)) h4.2⟩)
    (fun ad cap body ih h1 => by
      rw [Bl.unk_mk] at h1 ⊢
      induction body with
      | nil => rfl
      | cons x r ihr =>
        rw [St.unkL, Option.or_eq_none_iff] at h1 ⊢
        exact ⟨ih x (List.mem_cons_self ..) h1.1, ihr (fun y hy => ih y (List.mem_cons_of_mem _ hy)) h1.2⟩) b
theorem unkOf_le {α : Type} {f g : α → Option Int} (l : List α) (h : ∀ x ∈ l, f x = none → g x = none) : unkOf f l = none → unkOf g l = none := by
  induction l with
  | nil => intro _; rfl
  | cons x r ih =>
    intro h1
    rw [unkOf, Option.or_eq_none_iff] at h1 ⊢
    exact ⟨h x (List.mem_cons_self ..) h1.1, ih (fun y hy => h y (List.mem_cons_of_mem _ hy)) h1.2⟩
theorem Mo.unk_le {k l : Lk} (h : k.Le l) (m : Mo) : m.unk k = none → m.unk l = none := unkOf_le m.meths fun x _ => Bl.unk_le h x.body
theorem Ro.unk_le {k l : Lk} (h : k.Le l) (r : Ro) : r.unk k = none → r.unk l = none := Bl.unk_le h r.body
theorem chk_parts {p : Pr} (h : p.nchk.1 = 0) : p.ok = true ∧ declM [] p.mons = none ∧ roleE [] p.roles = none ∧ p.unk p.lk = none := by
  rw [Pr.nchk] at h
  split at h
  · rename_i hok
    rw [Pr.chk] at h
    split at h
    · cases h
    · rename_i h1
      split at h
      · rename_i x h2
        exfalso
        obtain ⟨c, a⟩ := x
        have := roleE_pos [] p.roles c a h2
        simp only at h
        subst h
        cases this
      · rename_i h2
        split at h
        · cases h
        · rename_i h3
          exact ⟨hok, h1, h2, h3⟩
  · cases h
theorem chk_zero {p : Pr} (h1 : p.ok = true) (h2 : declM [] p.mons = none) (h3 : roleE [] p.roles = none) (h4 : p.unk p.lk = none) : p.nchk = (0, 0) := by
  rw [Pr.nchk, if_pos h1, Pr.chk, h2, h3, h4]
theorem declM_snoc (seen : List ByteArray) (l : List Mo) (m : Mo) : declM seen (l ++ [m]) = (declM seen l).or (if hasN (seen ++ l.map Mo.name) m.name then some m.pos else dupN [] m.nps) := by
  induction l generalizing seen with
  | nil => simp [declM]
  | cons x r ih =>
    rw [List.cons_append, declM, declM]
    split
    · rfl
    · rw [ih, Option.or_assoc]; simp
theorem monIx_has (l : List Mo) (n : ByteArray) : (monIx l n).isSome = hasN (l.map Mo.name) n := by
  rw [monIx, List.findIdx?_isSome, hasN, List.any_map]
  rfl
theorem monAt_append (l : List Mo) (m : Mo) (n : ByteArray) : monAt (l ++ [m]) n = (monAt l n).or (if m.name = n then some m else none) := by
  rw [monAt, List.find?_append, monAt]
  congr 1
  by_cases h : m.name = n <;> simp [h]
theorem lk_le (p q : Pr) (m : Mo) (hq : q.mons = p.mons ++ [m]) : p.lk.Le q.lk := by
  refine ⟨fun a b h => ?_, fun a b h => ?_, fun a h => ?_⟩
  · simp only [Pr.lk, hq, monAt_append] at h ⊢
    cases hm : monAt p.mons a with
    | none => rw [hm] at h; cases h
    | some x => rw [hm] at h; exact h
  · simp only [Pr.lk, hq, monAt_append] at h ⊢
    cases hm : monAt p.mons a with
    | none => rw [hm] at h; cases h
    | some x => rw [hm] at h; exact h
  · simp only [Pr.lk, hq, monAt_append] at h ⊢
    cases hm : monAt p.mons a with
    | none => rw [hm] at h; cases h
    | some x => rfl
/-- With a monitor more that has no parts. -/
theorem order_twice {p q : Pr} {m : Mo} (hp : p.nchk.1 = 0) (hq : q.mons = p.mons ++ [m]) (hok : q.ok = true) (hin : (monIx p.mons m.name).isSome = true) : q.nchk = (60, m.pos) := by
  obtain ⟨-, h1, -, -⟩ := chk_parts hp
  rw [monIx_has] at hin
  refine chk_decl hok ?_
  rw [hq, declM_snoc, h1, if_pos (by simpa using hin)]
  rfl
theorem order_fine {p q : Pr} {m : Mo} (hp : p.nchk.1 = 0) (hq : q.mons = p.mons ++ [m]) (hr : q.roles = p.roles) (hm : m.meths = []) (hv : m.vars = []) (hok : q.ok = true) (hin : monIx p.mons m.name = none) : q.nchk = (0, 0) := by
  obtain ⟨-, h1, h2, h3⟩ := chk_parts hp
  have hin2 : hasN (p.mons.map Mo.name) m.name = false := by rw [← monIx_has, hin]; rfl
  have hle := lk_le p q m hq
  refine chk_zero hok ?_ (by rw [hr]; exact h2) ?_
  · rw [hq, declM_snoc, h1, if_neg (by rw [List.nil_append, hin2]; simp), Mo.nps, hm, hv]
    rfl
  · rw [Pr.unk, Option.or_eq_none_iff] at h3 ⊢
    refine ⟨?_, by rw [hr]; exact unkOf_le p.roles (fun r _ => Ro.unk_le hle r) h3.2⟩
    rw [hq, unkOf_append, unkOf_le p.mons (fun r _ => Mo.unk_le hle r) h3.1, unkOf, Mo.unk, hm]
    rfl
theorem Mo.len (m : Mo) : m.cells.length = 4 := rfl
theorem Mo.one (m : Mo) : ∀ u ∈ m.cells, u.oneCell' = true := by
  intro u hu
  simp only [Mo.cells, List.mem_cons, List.not_mem_nil, or_false] at hu
  rcases hu with rfl | rfl | rfl | rfl <;> rfl
theorem Ro.len (r : Ro) : r.cells.length = 5 := rfl
theorem Ro.one (r : Ro) : ∀ u ∈ r.cells, u.oneCell' = true := by
  rcases r with ⟨name, star, count, ⟨ad, cap, body⟩, pos⟩
  intro u hu
  simp only [Ro.cells, Bl.slice, List.mem_cons, List.not_mem_nil, or_false] at hu
  rcases hu with rfl | rfl | rfl | rfl | rfl <;> rfl
theorem info64 : (Tryd.prog.info? 64).map (fun i => (i.zero, i.size, i.bytes)) = some (some (.agg #[.string ⟨#[]⟩, .slice none 0 0, .slice none 0 0, .int .i64 0]), 4, 72) := by kernel_rfl
theorem info58 : (Tryd.prog.info? 58).map (fun i => (i.zero, i.size, i.bytes)) = some (some (.agg #[.string ⟨#[]⟩, .bool false, .int .i64 0, .slice none 0 0, .int .i64 0]), 5, 64) := by kernel_rfl
end Go.Proofs.YtijeiiiiplkfaaaDoor
