/-
  Texts of expressions can be read in one way alone: a reading, as a relation on bytes; it is single-valued, and a text's reading is its expression. Nothing is walked here.
-/
import Derived.Test.YtnljhlmopjgogaaDoorPnA
namespace Go.Proofs.YtnljhlmopjgogaaDoor
open Go.RowKit Px
namespace Px
/-- What was read. -/
inductive Rt
  | mk (op : Int) (mon name num : List UInt8) (kids : List Rt)
def zr : List UInt8 := Lib.itoa 0
/-- What an operand begins with. -/
inductive Start
  | bad
  | par (s : List UInt8)
  | pre (op : Int) (ds : List UInt8) (lv : Nat) (s : List UInt8)
  | atom (t : Rt) (s : List UInt8)
def begs : List UInt8 → Start
  | [] => .bad
  | c :: r =>
    if c = 40 then .par r
    else if c = 33 then .pre 5 zr 3 r
    else if c = 45 then .pre 6 zr 6 r
    else if Lx.digit c then
      (if [32, 42, 32].isPrefixOf ((c :: r).dropWhile Lx.digit) then .pre 7 ((c :: r).takeWhile Lx.digit) 6 (((c :: r).dropWhile Lx.digit).drop 3)
       else .atom (.mk 1 [] [] ((c :: r).takeWhile Lx.digit) []) ((c :: r).dropWhile Lx.digit))
    else if ((c :: r).dropWhile Lx.nameByte).head? = some 46 then
      .atom (.mk 4 ((c :: r).takeWhile Lx.nameByte) ((((c :: r).dropWhile Lx.nameByte).drop 1).takeWhile Lx.nameByte) zr []) ((((c :: r).dropWhile Lx.nameByte).drop 1).dropWhile Lx.nameByte)
    else .atom (.mk (if (c :: r).takeWhile Lx.nameByte = [116, 114, 117, 101] then 2 else 3) [] [] zr []) ((c :: r).dropWhile Lx.nameByte)
/-- The sign between two operands that a text begins with. -/
def opAt (s : List UInt8) : Option (Nat × List UInt8) := [8, 9, 10, 11, 12, 13, 14, 15, 16, 17].findSome? fun k => if (sgn k).1.data.toList.isPrefixOf s then some (k, s.drop (sgn k).1.data.toList.length) else none
/-- At a level, with an operand or none read, of a text this is read and that is left. -/
inductive Rd : Nat → Option Rt → List UInt8 → Rt → List UInt8 → Prop
  | atom {l : Nat} {s : List UInt8} {t : Rt} {s' : List UInt8} {y : Rt} {z : List UInt8} : begs s = .atom t s' → Rd l (some t) s' y z → Rd l none s y z
  | par {l : Nat} {s s' : List UInt8} {x : Rt} {s2 : List UInt8} {y : Rt} {z : List UInt8} : begs s = .par s' → Rd 1 none s' x (41 :: s2) → Rd l (some x) s2 y z → Rd l none s y z
  | pre {l : Nat} {s : List UInt8} {op : Int} {ds : List UInt8} {lv : Nat} {s' : List UInt8} {x : Rt} {s2 : List UInt8} {y : Rt} {z : List UInt8} : begs s = .pre op ds lv s' → Rd lv none s' x s2 → Rd l (some (.mk op [] [] ds [x])) s2 y z → Rd l none s y z
  | stop {l : Nat} {x : Rt} {s : List UInt8} : (∀ k s', opAt s = some (k, s') → (sgn k).2.1 < l) → Rd l (some x) s x s
  | bin {l : Nat} {x : Rt} {s : List UInt8} {k : Nat} {s' : List UInt8} {b : Rt} {s2 : List UInt8} {y : Rt} {z : List UInt8} : opAt s = some (k, s') → l ≤ (sgn k).2.1 → Rd (sgn k).2.2.2 none s' b s2 → Rd l (some (.mk (k : Int) [] [] zr [x, b])) s2 y z → Rd l (some x) s y z
theorem Rd.det {l : Nat} {o : Option Rt} {s : List UInt8} {x : Rt} {r : List UInt8} (h : Rd l o s x r) : ∀ {x' : Rt} {r' : List UInt8}, Rd l o s x' r' → x = x' ∧ r = r' := by
  induction h with
  | atom hs _ ih =>
    intro x' r' h'
    cases h' with
    | atom hs' h2 => rw [hs] at hs'; cases hs'; exact ih h2
    | par hs' h2 h3 => rw [hs] at hs'; cases hs'
    | pre hs' h2 h3 => rw [hs] at hs'; cases hs'
  | par hs _ _ ih1 ih2 =>
    intro x' r' h'
    cases h' with
    | atom hs' h2 => rw [hs] at hs'; cases hs'
    | par hs' h2 h3 => rw [hs] at hs'; cases hs'; obtain ⟨rfl, e⟩ := ih1 h2; cases e; exact ih2 h3
    | pre hs' h2 h3 => rw [hs] at hs'; cases hs'
  | pre hs _ _ ih1 ih2 =>
    intro x' r' h'
    cases h' with
    | atom hs' h2 => rw [hs] at hs'; cases hs'
    | par hs' h2 h3 => rw [hs] at hs'; cases hs'
    | pre hs' h2 h3 => rw [hs] at hs'; cases hs'; obtain ⟨rfl, rfl⟩ := ih1 h2; exact ih2 h3
  | stop hs =>
    intro x' r' h'
    cases h' with
    | stop _ => exact ⟨rfl, rfl⟩
    | bin ho hl _ _ => have := hs _ _ ho; omega
  | bin ho hl _ _ ih1 ih2 =>
    intro x' r' h'
    cases h' with
    | stop hs => have := hs _ _ ho; omega
    | bin ho' hl' h2 h3 => rw [ho] at ho'; cases ho'; obtain ⟨rfl, rfl⟩ := ih1 h2; exact ih2 h3
/-- What may follow an expression. -/
def Fol (r : List UInt8) : Prop := (∀ c ∈ r.head?, c = 32 ∨ c = 41 ∨ c = 59) ∧ [32, 42, 32].isPrefixOf r = false
theorem Fol.nil : Fol [] := ⟨by simp, rfl⟩
theorem Fol.par (r : List UInt8) : Fol (41 :: r) := ⟨by simp, rfl⟩
theorem Fol.semi (r : List UInt8) : Fol (59 :: r) := ⟨by simp, rfl⟩
theorem takeWhile_fol (p : UInt8 → Bool) (a r : List UInt8) (ha : ∀ c ∈ a, p c = true) (hr : ∀ c ∈ r.head?, p c = false) : (a ++ r).takeWhile p = a ∧ (a ++ r).dropWhile p = r := by
  induction a with
  | nil =>
    cases r with
    | nil => simp
    | cons c r => have := hr c (by simp); simp [this]
  | cons c a ih =>
    have := ha c (by simp)
    have h2 := ih (fun x hx => ha x (by simp [hx]))
    simp [this, h2.1, h2.2]
theorem Fol.not {r : List UInt8} (h : Fol r) (p : UInt8 → Bool) (h1 : p 32 = false) (h2 : p 41 = false) (h3 : p 59 = false) : ∀ c ∈ r.head?, p c = false := by
  intro c hc
  rcases h.1 c hc with rfl | rfl | rfl <;> assumption
theorem digit_ofNat (k : Nat) (h : k < 10) : Lx.digit (UInt8.ofNat (48 + k)) = true := by
  have : k = 0 ∨ k = 1 ∨ k = 2 ∨ k = 3 ∨ k = 4 ∨ k = 5 ∨ k = 6 ∨ k = 7 ∨ k = 8 ∨ k = 9 := by omega
  rcases this with rfl | rfl | rfl | rfl | rfl | rfl | rfl | rfl | rfl | rfl <;> rfl
theorem decDigits_ind {P : Nat → List UInt8 → Prop} (h1 : ∀ u, u < 10 → P u [UInt8.ofNat (48 + u)]) (h2 : ∀ u, ¬ u < 10 → P (u / 10) (Lib.decDigits (u / 10)) → P u (Lib.decDigits (u / 10) ++ [UInt8.ofNat (48 + u % 10)])) : ∀ n u, u < n → P u (Lib.decDigits u) := by
  intro n
  induction n with
  | zero => intro u h; omega
  | succ n ih =>
    intro u h
    by_cases h10 : u < 10
    · rw [Lib.decDigits, dif_pos h10]; exact h1 u h10
    · rw [Lib.decDigits, dif_neg h10]; exact h2 u h10 (ih (u / 10) (by omega))
theorem decDigits_digit (u : Nat) : Lib.decDigits u ≠ [] ∧ ∀ c ∈ Lib.decDigits u, Lx.digit c = true := by
  refine decDigits_ind (P := fun _ l => l ≠ [] ∧ ∀ c ∈ l, Lx.digit c = true) ?_ ?_ (u + 1) u (by omega)
  · intro u h
    refine ⟨by simp, fun c hc => ?_⟩
    rw [List.mem_singleton.1 hc]; exact digit_ofNat u h
  · rintro u h ⟨h1, h2⟩
    refine ⟨by simp, fun c hc => ?_⟩
    rcases List.mem_append.1 hc with hc | hc
    · exact h2 c hc
    · rw [List.mem_singleton.1 hc]; exact digit_ofNat _ (by omega)
/-- A number's digits tell it. -/
def valOf (l : List UInt8) : Nat := l.foldl (fun a c => a * 10 + (c.toNat - 48)) 0
theorem valOf_dec (u : Nat) : valOf (Lib.decDigits u) = u := by
  have hd : ∀ k, k < 10 → (UInt8.ofNat (48 + k)).toNat - 48 = k := by
    intro k h
    have : k = 0 ∨ k = 1 ∨ k = 2 ∨ k = 3 ∨ k = 4 ∨ k = 5 ∨ k = 6 ∨ k = 7 ∨ k = 8 ∨ k = 9 := by omega
    rcases this with rfl | rfl | rfl | rfl | rfl | rfl | rfl | rfl | rfl | rfl <;> rfl
  refine decDigits_ind (P := fun u l => valOf l = u) ?_ ?_ (u + 1) u (by omega)
  · intro u h
    simp only [valOf, List.foldl_cons, List.foldl_nil, hd u h]; omega
  · intro u h ih
    unfold valOf at ih ⊢
    rw [List.foldl_append, ih]
    simp only [List.foldl_cons, List.foldl_nil, hd (u % 10) (by omega)]; omega
theorem decDigits_inj {u v : Nat} (h : Lib.decDigits u = Lib.decDigits v) : u = v := by
  have := congrArg valOf h
  rwa [valOf_dec, valOf_dec] at this
theorem digit_not45 {c : UInt8} (h : Lx.digit c = true) : c ≠ 45 ∧ c ≠ 40 ∧ c ≠ 33 := by
  refine ⟨?_, ?_, ?_⟩ <;> rintro rfl <;> cases h
theorem dec_ne45 (u : Nat) (t : List UInt8) : Lib.decDigits u ≠ 45 :: t := by
  intro h
  have := (decDigits_digit u).2 45 (by rw [h]; simp)
  cases this
theorem itoa_inj {a b : Int} (h : Lib.itoa a = Lib.itoa b) : a = b := by
  unfold Lib.itoa at h
  by_cases ha : a < 0
  · by_cases hb : b < 0
    · rw [if_pos ha, if_pos hb] at h
      have := decDigits_inj (List.cons.inj h).2
      omega
    · rw [if_pos ha, if_neg hb] at h
      exact absurd h.symm (dec_ne45 _ _)
  · by_cases hb : b < 0
    · rw [if_neg ha, if_pos hb] at h
      exact absurd h (dec_ne45 _ _)
    · rw [if_neg ha, if_neg hb] at h
      have := decDigits_inj h
      omega
theorem itoa_digit (n : Int) (h : 0 ≤ n) : Lib.itoa n ≠ [] ∧ ∀ c ∈ Lib.itoa n, Lx.digit c = true := by
  unfold Lib.itoa
  rw [if_neg (by omega)]
  exact decDigits_digit _
end Px
mutual
def Ex.nrm : Ex → Rt
  | .mk op mon name n _ _ kids _ => .mk op mon.data.toList name.data.toList (Lib.itoa n) (Ex.nrmL kids)
def Ex.nrmL : List Ex → List Rt
  | [] => []
  | e :: es => e.nrm :: Ex.nrmL es
end
theorem toList_beq (a b : ByteArray) : (a.toList == b.toList) = true ↔ a.data.toList = b.data.toList := by
  rw [beq_iff_eq, ByteArray.toList_eq, ByteArray.toList_eq]
theorem same_nrm (e : Ex) : ∀ e' : Ex, e.same e' = true ↔ e.nrm = e'.nrm := by
  induction e using Ex.ind with
  | h op mon name n ad cap kids pos ih =>
    rintro ⟨op', mon', name', n', ad', cap', kids', pos'⟩
    have hk : ∀ (ks ks' : List Ex), (∀ x ∈ ks, ∀ y, x.same y = true ↔ x.nrm = y.nrm) → (Ex.sameL ks ks' = true ↔ Ex.nrmL ks = Ex.nrmL ks') := by
      intro ks
      induction ks with
      | nil => intro ks' _; cases ks' <;> simp [Ex.sameL, Ex.nrmL]
      | cons a ks ih2 =>
        intro ks' hx
        cases ks' with
        | nil => simp [Ex.sameL, Ex.nrmL]
        | cons b ks' => simp only [Ex.sameL, Ex.nrmL, Bool.and_eq_true, List.cons.injEq]; rw [hx a (by simp) b, ih2 ks' (fun x hxm => hx x (by simp [hxm]))]
    rw [Ex.same, Ex.nrm, Ex.nrm]
    simp only [Bool.and_eq_true, toList_beq, Rt.mk.injEq]
    rw [hk kids kids' ih]
    constructor
    · rintro ⟨⟨⟨⟨h1, h2⟩, h3⟩, h4⟩, h5⟩
      exact ⟨eq_of_beq h1, h2, h3, by rw [eq_of_beq h4], h5⟩
    · rintro ⟨h1, h2, h3, h4, h5⟩
      exact ⟨⟨⟨⟨by rw [h1]; simp, h2⟩, h3⟩, by rw [itoa_inj h4]; simp⟩, h5⟩
end Go.Proofs.YtnljhlmopjgogaaDoor
