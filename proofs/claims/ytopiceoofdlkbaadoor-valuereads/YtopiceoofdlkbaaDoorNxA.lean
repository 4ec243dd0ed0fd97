/-
  Names as plain Lean functions: what is there twice, what nobody has declared, where; what the document's lists and the program's maps have in common. Nothing is walked here.
-/
import Derived.Test.YtopiceoofdlkbaaDoorTrB
namespace Go.Proofs.YtopiceoofdlkbaaDoor
open Go.RowKit
/-- The names within a monitor, each with its place. -/
def Mo.nps (m : Mo) : List (ByteArray × Int) := m.vars.map (fun v => (v.name, v.pos)) ++ m.meths.map (fun f => (f.name, f.pos))
/-- The names within a monitor, each with what it is. -/
def Mo.nms (m : Mo) : List (ByteArray × Int) := m.vars.map (fun v => (v.name, 1)) ++ m.meths.map (fun f => (f.name, 2))
/-- Whether a name is among these. -/
def hasN (seen : List ByteArray) (n : ByteArray) : Bool := seen.any fun s => decide (s = n)
theorem hasN_iff {seen : List ByteArray} {n : ByteArray} : hasN seen n = true ↔ n ∈ seen := by
  rw [hasN, List.any_eq_true]
  constructor
  · rintro ⟨x, hx, h⟩
    exact (of_decide_eq_true h) ▸ hx
  · intro h
    exact ⟨n, h, by simp⟩
theorem hasN_no {seen : List ByteArray} {n : ByteArray} (h : ¬ hasN seen n = true) : n ∉ seen := fun h' => h (hasN_iff.2 h')
/-- The place of the first name that is there already. -/
def dupN : List ByteArray → List (ByteArray × Int) → Option Int
  | _, [] => none
  | seen, x :: r => if hasN seen x.1 then some x.2 else dupN (seen ++ [x.1]) r
theorem dupN_append (seen : List ByteArray) (a b : List (ByteArray × Int)) : dupN seen (a ++ b) = (dupN seen a).or (dupN (seen ++ a.map Prod.fst) b) := by
  induction a generalizing seen with
  | nil => simp [dupN]
  | cons x a ih =>
    simp only [List.cons_append, dupN]
    split
    · rfl
    · rw [ih]; simp
theorem dupN_nodup (seen : List ByteArray) (l : List (ByteArray × Int)) (hs : seen.Nodup) (h : dupN seen l = none) : (seen ++ l.map Prod.fst).Nodup := by
  induction l generalizing seen with
  | nil => simpa using hs
  | cons x l ih =>
    rw [dupN] at h
    split at h
    · cases h
    · rename_i hx'
      have hx := hasN_no hx'
      have h1 := ih (seen ++ [x.1]) (List.nodup_append.2 ⟨hs, by simp, fun a ha b hb => by simp at hb; rintro rfl; exact hx (hb ▸ ha)⟩) h
      simpa using h1
theorem dupN_none_of (seen : List ByteArray) (l : List (ByteArray × Int)) (h : (seen ++ l.map Prod.fst).Nodup) : dupN seen l = none := by
  induction l generalizing seen with
  | nil => rfl
  | cons x l ih =>
    rw [dupN]
    have hx : x.1 ∉ seen := fun hx => by
      have := (List.nodup_append.1 h).2.2 x.1 hx x.1 (by simp)
      exact this rfl
    rw [if_neg (fun h' => hx (hasN_iff.1 h'))]
    exact ih _ (by simpa using h)
/-- The first error among monitors: its place. -/
def declM : List ByteArray → List Mo → Option Int
  | _, [] => none
  | seen, m :: r => if hasN seen m.name then some m.pos else (dupN [] m.nps).or (declM (seen ++ [m.name]) r)
/-- The first error among roles, and its place. -/
def roleE : List ByteArray → List Ro → Option (Int × Int)
  | _, [] => none
  | seen, r :: rs => if hasN seen r.name then some (60, r.pos) else if r.star = false ∧ (r.count < 1 ∨ 8 < r.count) then some (6, r.pos) else roleE (seen ++ [r.name]) rs
theorem declM_drop (l : List Mo) (k : Nat) (h : k < l.length) (seen : List ByteArray) : declM seen (l.drop k) = if hasN seen l[k].name then some l[k].pos else (dupN [] l[k].nps).or (declM (seen ++ [l[k].name]) (l.drop (k + 1))) := by
  rw [List.drop_eq_getElem_cons h, declM]
theorem roleE_drop (l : List Ro) (k : Nat) (h : k < l.length) (seen : List ByteArray) : roleE seen (l.drop k) = if hasN seen l[k].name then some (60, l[k].pos) else if l[k].star = false ∧ (l[k].count < 1 ∨ 8 < l[k].count) then some (6, l[k].pos) else roleE (seen ++ [l[k].name]) (l.drop (k + 1)) := by
  rw [List.drop_eq_getElem_cons h, roleE]
theorem names_snoc {α : Type} (f : α → ByteArray) (l : List α) (k : Nat) (h : k < l.length) : (l.take (k + 1)).map f = (l.take k).map f ++ [f l[k]] := by
  rw [List.take_succ_eq_append_getElem h, List.map_append]; rfl
/-- Who looks names up. -/
structure Lk where
  V : ByteArray → ByteArray → Bool
  F : ByteArray → ByteArray → Bool
  M : ByteArray → Bool
mutual
/-- The place of the first variable, from the left, that nobody has declared. -/
def Ex.unk (k : Lk) : Ex → Option Int
  | .mk op mon name _ _ _ kids pos => if op = 4 ∧ k.V mon name = false then some pos else Ex.unkL k kids
def Ex.unkL (k : Lk) : List Ex → Option Int
  | [] => none
  | e :: r => (Ex.unk k e).or (Ex.unkL k r)
end
theorem Ex.unk_mk (k : Lk) (op : Int) (mon name : ByteArray) (n : Int) (ad : Option Addr) (cap : Nat) (kids : List Ex) (pos : Int) : (Ex.mk op mon name n ad cap kids pos).unk k = if op = 4 ∧ k.V mon name = false then some pos else Ex.unkL k kids := by rw [Ex.unk]
theorem Ex.unkL_drop (k : Lk) (l : List Ex) (j : Nat) (h : j < l.length) : Ex.unkL k (l.drop j) = (l[j].unk k).or (Ex.unkL k (l.drop (j + 1))) := by
  rw [List.drop_eq_getElem_cons h, Ex.unkL]
theorem Ex.unkL_end (k : Lk) (l : List Ex) (j : Nat) (h : l.length ≤ j) : Ex.unkL k (l.drop j) = none := by
  rw [List.drop_of_length_le h, Ex.unkL]
/-- Whether a statement's own names are declared. -/
def St.knows (k : Lk) : St → Bool
  | .mk kind mon name _ _ _ _ _ _ => if kind = 2 then k.V mon name else if kind = 8 then k.F mon name else if kind = 7 ∨ kind = 9 ∨ kind = 10 ∨ kind = 11 then k.M mon else true
mutual
/-- The place of the first name in a statement that nobody has declared. -/
def St.unk (k : Lk) : St → Option Int
  | .mk kind mon name n e ad cap blocks pos => if St.knows k (.mk kind mon name n e ad cap blocks pos) = false then some pos else (e.unk k).or (Bl.unkL k blocks)
def Bl.unk (k : Lk) : Bl → Option Int
  | .mk _ _ body => St.unkL k body
def St.unkL (k : Lk) : List St → Option Int
  | [] => none
  | s :: r => (St.unk k s).or (St.unkL k r)
def Bl.unkL (k : Lk) : List Bl → Option Int
  | [] => none
  | b :: r => (Bl.unk k b).or (Bl.unkL k r)
end
theorem St.unk_mk (k : Lk) (kind : Int) (mon name : ByteArray) (n : Int) (e : Ex) (ad : Option Addr) (cap : Nat) (blocks : List Bl) (pos : Int) : (St.mk kind mon name n e ad cap blocks pos).unk k = if St.knows k (.mk kind mon name n e ad cap blocks pos) = false then some pos else (e.unk k).or (Bl.unkL k blocks) := by rw [St.unk]
theorem Bl.unk_mk (k : Lk) (ad : Option Addr) (cap : Nat) (body : List St) : (Bl.mk ad cap body).unk k = St.unkL k body := by rw [Bl.unk]
theorem St.unkL_drop (k : Lk) (l : List St) (j : Nat) (h : j < l.length) : St.unkL k (l.drop j) = (l[j].unk k).or (St.unkL k (l.drop (j + 1))) := by
  rw [List.drop_eq_getElem_cons h, St.unkL]
theorem St.unkL_end (k : Lk) (l : List St) (j : Nat) (h : l.length ≤ j) : St.unkL k (l.drop j) = none := by
  rw [List.drop_of_length_le h, St.unkL]
theorem Bl.unkL_drop (k : Lk) (l : List Bl) (j : Nat) (h : j < l.length) : Bl.unkL k (l.drop j) = (l[j].unk k).or (Bl.unkL k (l.drop (j + 1))) := by
  rw [List.drop_eq_getElem_cons h, Bl.unkL]
theorem Bl.unkL_end (k : Lk) (l : List Bl) (j : Nat) (h : l.length ≤ j) : Bl.unkL k (l.drop j) = none := by
  rw [List.drop_of_length_le h, Bl.unkL]
/-- The same of lists of anything. -/
def unkOf {α : Type} (f : α → Option Int) : List α → Option Int
  | [] => none
  | a :: r => (f a).or (unkOf f r)
theorem unkOf_drop {α : Type} (f : α → Option Int) (l : List α) (j : Nat) (h : j < l.length) : unkOf f (l.drop j) = (f l[j]).or (unkOf f (l.drop (j + 1))) := by
  rw [List.drop_eq_getElem_cons h, unkOf]
theorem unkOf_end {α : Type} (f : α → Option Int) (l : List α) (j : Nat) (h : l.length ≤ j) : unkOf f (l.drop j) = none := by
  rw [List.drop_of_length_le h, unkOf]
theorem unkOf_append {α : Type} (f : α → Option Int) (a b : List α) : unkOf f (a ++ b) = (unkOf f a).or (unkOf f b) := by
  induction a with
  | nil => simp [unkOf]
  | cons x a ih => simp only [List.cons_append, unkOf, ih, Option.or_assoc]
def Me.unk (k : Lk) (m : Me) : Option Int := m.body.unk k
def Mo.unk (k : Lk) (m : Mo) : Option Int := unkOf (Me.unk k) m.meths
def Ro.unk (k : Lk) (r : Ro) : Option Int := r.body.unk k
def Pr.unk (k : Lk) (p : Pr) : Option Int := (unkOf (Mo.unk k) p.mons).or (unkOf (Ro.unk k) p.roles)
/-- The first monitor of that name. -/
def monAt (l : List Mo) (mon : ByteArray) : Option Mo := l.find? fun m => decide (m.name = mon)
/-- The document's way to look names up. -/
def Pr.lk (p : Pr) : Lk where
  V := fun mon name => match monAt p.mons mon with | some m => m.vars.any (fun v => decide (v.name = name)) | none => false
  F := fun mon name => match monAt p.mons mon with | some m => m.meths.any (fun v => decide (v.name = name)) | none => false
  M := fun mon => (monAt p.mons mon).isSome
/-- What Check tells of a program that has its shape. -/
def Pr.chk (p : Pr) : Int × Int :=
  match declM [] p.mons with
  | some a => (60, a)
  | none => match roleE [] p.roles with
    | some x => x
    | none => match p.unk p.lk with
      | some a => (61, a)
      | none => (0, 0)
/-- What stands at a name in a list of names, 0 if nothing. -/
def kindAt (l : List (ByteArray × Int)) (n : ByteArray) : Int := match l.find? (fun x => decide (x.1 = n)) with | some x => x.2 | none => 0
/-- The program's way to look names up: monitors, each with what it has. -/
def scLk (S : List (ByteArray × List (ByteArray × Int))) : Lk where
  V := fun mon name => match S.find? (fun x => decide (x.1 = mon)) with | some x => decide (kindAt x.2 name = 1) | none => false
  F := fun mon name => match S.find? (fun x => decide (x.1 = mon)) with | some x => decide (kindAt x.2 name = 2) | none => false
  M := fun mon => (S.find? (fun x => decide (x.1 = mon))).isSome
def scOf (l : List Mo) : List (ByteArray × List (ByteArray × Int)) := l.map fun m => (m.name, m.nms)
theorem find_scOf (l : List Mo) (mon : ByteArray) : (scOf l).find? (fun x => decide (x.1 = mon)) = (monAt l mon).map fun m => (m.name, m.nms) := by
  induction l with
  | nil => rfl
  | cons m l ih =>
    simp only [scOf, List.map_cons, List.find?_cons, monAt] at ih ⊢
    cases decide (m.name = mon) with
    | true => rfl
    | false => exact ih
theorem declM_each (seen : List ByteArray) (l : List Mo) (h : declM seen l = none) : ∀ m ∈ l, dupN [] m.nps = none := by
  induction l generalizing seen with
  | nil => intro m hm; cases hm
  | cons x l ih =>
    rw [declM] at h
    split at h
    · cases h
    · intro m hm
      rw [Option.or_eq_none_iff] at h
      rcases List.mem_cons.1 hm with rfl | hm
      · exact h.1
      · exact ih _ h.2 m hm
theorem declM_names (seen : List ByteArray) (l : List Mo) (hs : seen.Nodup) (h : declM seen l = none) : (seen ++ l.map Mo.name).Nodup := by
  induction l generalizing seen with
  | nil => simpa using hs
  | cons x l ih =>
    rw [declM] at h
    split at h
    · cases h
    · rename_i hx'
      have hx := hasN_no hx'
      rw [Option.or_eq_none_iff] at h
      have h1 := ih (seen ++ [x.name]) (List.nodup_append.2 ⟨hs, by simp, fun a ha b hb => by simp at hb; rintro rfl; exact hx (hb ▸ ha)⟩) h.2
      simpa using h1
theorem kindAt_append (a b : List (ByteArray × Int)) (n : ByteArray) : kindAt (a ++ b) n = if hasN (a.map Prod.fst) n then kindAt a n else kindAt b n := by
  unfold kindAt
  rw [List.find?_append]
  by_cases h' : hasN (a.map Prod.fst) n = true
  · rw [if_pos h']
    have h := hasN_iff.1 h'
    obtain ⟨x, hx, rfl⟩ := List.mem_map.1 h
    cases hf : a.find? (fun y => decide (y.1 = x.1)) with
    | some y => rfl
    | none => exact absurd (List.find?_eq_none.1 hf x hx) (by simp)
  · rw [if_neg h']
    have h := hasN_no h'
    have : a.find? (fun y => decide (y.1 = n)) = none := List.find?_eq_none.2 fun y hy => by
      have : y.1 ≠ n := fun e => h (List.mem_map.2 ⟨y, hy, e⟩)
      simpa using this
    rw [this]; rfl
theorem kindAt_const {α : Type} (f : α → ByteArray) (c : Int) (l : List α) (n : ByteArray) : kindAt (l.map fun a => (f a, c)) n = if l.any (fun a => decide (f a = n)) then c else 0 := by
  induction l with
  | nil => rfl
  | cons a l ih =>
    simp only [List.map_cons, kindAt, List.find?_cons, List.any_cons] at ih ⊢
    by_cases hd : f a = n
    · simp [hd]
    · simpa [hd] using ih
theorem mem_map_any {α : Type} (f : α → ByteArray) (l : List α) (n : ByteArray) : (n ∈ l.map f) ↔ l.any (fun a => decide (f a = n)) = true := by
  rw [List.any_eq_true]
  constructor
  · intro h
    obtain ⟨a, ha, rfl⟩ := List.mem_map.1 h
    exact ⟨a, ha, by simp⟩
  · rintro ⟨a, ha, h⟩
    exact List.mem_map.2 ⟨a, ha, by simpa using h⟩
theorem nms_var (m : Mo) (n : ByteArray) : decide (kindAt m.nms n = 1) = m.vars.any (fun v => decide (v.name = n)) := by
  rw [Mo.nms, kindAt_append, kindAt_const, kindAt_const, List.map_map]
  have h : (n ∈ m.vars.map (Prod.fst ∘ fun v => (v.name, (1 : Int)))) ↔ m.vars.any (fun v => decide (v.name = n)) = true := mem_map_any Va.name m.vars n
  cases hv : m.vars.any (fun v => decide (v.name = n)) with
  | true => rw [if_pos (hasN_iff.2 (h.2 hv))]; simp
  | false => rw [if_neg (fun h' => by rw [h.1 (hasN_iff.1 h')] at hv; cases hv)]; split <;> simp
theorem nms_meth (m : Mo) (n : ByteArray) (hd : dupN [] m.nps = none) : decide (kindAt m.nms n = 2) = m.meths.any (fun v => decide (v.name = n)) := by
  have hnd := dupN_nodup [] _ (by simp) hd
  rw [Mo.nms, kindAt_append, kindAt_const, kindAt_const, List.map_map]
  have h : (n ∈ m.vars.map (Prod.fst ∘ fun v => (v.name, (1 : Int)))) ↔ m.vars.any (fun v => decide (v.name = n)) = true := mem_map_any Va.name m.vars n
  have h2 := mem_map_any Me.name m.meths n
  cases hv : m.vars.any (fun v => decide (v.name = n)) with
  | false => rw [if_neg (fun h' => by rw [h.1 (hasN_iff.1 h')] at hv; cases hv)]; cases m.meths.any (fun v => decide (v.name = n)) <;> simp
  | true =>
    rw [if_pos (hasN_iff.2 (h.2 hv))]
    cases hm : m.meths.any (fun v => decide (v.name = n)) with
    | false => simp
    | true =>
      exfalso
      simp only [Mo.nps, List.map_append, List.map_map, List.nil_append] at hnd
      have h3 : n ∈ m.vars.map (Prod.fst ∘ fun v => (v.name, v.pos)) := (mem_map_any Va.name m.vars n).2 hv
      have h4 : n ∈ m.meths.map (Prod.fst ∘ fun v => (v.name, v.pos)) := h2.2 hm
      exact (List.nodup_append.1 hnd).2.2 n h3 n h4 rfl
/-- Both ways are one, where nothing is there twice. -/
theorem scLk_eq (p : Pr) (h : declM [] p.mons = none) : scLk (scOf p.mons) = p.lk := by
  have he := declM_each [] p.mons h
  unfold scLk Pr.lk
  congr 1
  · funext mon name
    rw [find_scOf]
    cases monAt p.mons mon with
    | none => rfl
    | some m => exact nms_var m name
  · funext mon name
    rw [find_scOf]
    cases hm : monAt p.mons mon with
    | none => rfl
    | some m => exact nms_meth m name (he m (List.mem_of_find?_eq_some hm))
  · funext mon
    rw [find_scOf]
    cases monAt p.mons mon <;> rfl
end Go.Proofs.YtopiceoofdlkbaaDoor
