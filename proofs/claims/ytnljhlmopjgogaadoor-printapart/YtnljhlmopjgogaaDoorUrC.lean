/-
  Texts of statements, blocks and programs can be read in one way alone: unlike programs have unlike texts; programs that are the same have the same. Nothing is walked here.
-/
import Derived.Test.YtnljhlmopjgogaaDoorUrB
import Derived.Test.YtnljhlmopjgogaaDoorStG
namespace Go.Proofs.YtnljhlmopjgogaaDoor
open Go.RowKit Px
namespace Px
/-- Runs of bytes of a kind tell where they end. -/
theorem span_follow (p : UInt8 → Bool) {a a' r r' : List UInt8} (ha : ∀ c ∈ a, p c = true) (ha' : ∀ c ∈ a', p c = true) (hr : ∀ c ∈ r.head?, p c = false) (hr' : ∀ c ∈ r'.head?, p c = false) (h : a ++ r = a' ++ r') : a = a' ∧ r = r' := by
  obtain ⟨t, d⟩ := takeWhile_fol p a r ha hr
  obtain ⟨t', d'⟩ := takeWhile_fol p a' r' ha' hr'
  rw [h] at t d
  exact ⟨t.symm.trans t', d.symm.trans d'⟩
theorem name_follow {s s' : ByteArray} (h : Lx.name s = true) (h' : Lx.name s' = true) {r r' : List UInt8} (hr : ∀ c ∈ r.head?, Lx.nameByte c = false) (hr' : ∀ c ∈ r'.head?, Lx.nameByte c = false) (e : s.data.toList ++ r = s'.data.toList ++ r') : s.data.toList = s'.data.toList ∧ r = r' := by
  obtain ⟨_, _, _, _, hb⟩ := name_bytes h
  obtain ⟨_, _, _, _, hb'⟩ := name_bytes h'
  exact span_follow _ hb hb' hr hr' e
/-- A number tells where it ends. -/
theorem itoa_follow {a b : Int} {r r' : List UInt8} (hr : ∀ c ∈ r.head?, Lx.digit c = false) (hr' : ∀ c ∈ r'.head?, Lx.digit c = false) (h : Lib.itoa a ++ r = Lib.itoa b ++ r') : a = b ∧ r = r' := by
  have hx : ∀ (u : Nat) (t t' : List UInt8), 45 :: t ≠ Lib.decDigits u ++ t' := by
    intro u t t' h
    obtain ⟨d1, d2⟩ := decDigits_digit u
    cases hd : Lib.decDigits u with
    | nil => exact d1 hd
    | cons c l =>
      rw [hd] at h d2
      have := d2 c (by simp)
      rw [List.cons_append] at h
      rw [← (List.cons.inj h).1] at this
      cases this
  unfold Lib.itoa at h
  by_cases ha : a < 0
  · by_cases hb : b < 0
    · rw [if_pos ha, if_pos hb, List.cons_append, List.cons_append] at h
      obtain ⟨e1, e2⟩ := span_follow _ (decDigits_digit _).2 (decDigits_digit _).2 hr hr' (List.cons.inj h).2
      have := decDigits_inj e1
      exact ⟨by omega, e2⟩
    · rw [if_pos ha, if_neg hb, List.cons_append] at h
      exact absurd h (hx _ _ _)
  · by_cases hb : b < 0
    · rw [if_neg ha, if_pos hb, List.cons_append] at h
      exact absurd h.symm (hx _ _ _)
    · rw [if_neg ha, if_neg hb] at h
      obtain ⟨e1, e2⟩ := span_follow _ (decDigits_digit _).2 (decDigits_digit _).2 hr hr' h
      have := decDigits_inj e1
      exact ⟨by omega, e2⟩
/-- What a statement's line begins with, and what follows. -/
def stW (kind : Nat) (mon : List UInt8) : List UInt8 :=
  match kind with
  | 1 => [115, 107, 105, 112]
  | 2 => mon
  | 3 => [105, 102]
  | 4 => [119, 104, 105, 108, 101]
  | 5 => [108, 111, 111, 112]
  | 6 => [99, 104, 111, 111, 115, 101]
  | 7 => [115, 121, 110, 99]
  | 8 => [99, 97, 108, 108]
  | 9 => [119, 97, 105, 116]
  | 10 => [110, 111, 116, 105, 102, 121]
  | _ => [110, 111, 116, 105, 102, 121, 97, 108, 108]
def stR (o : Nat) (kind : Nat) (mon name : List UInt8) (n : Int) (et : List UInt8) (bs : List (List UInt8)) (r : List UInt8) : List UInt8 :=
  match kind with
  | 1 => 59 :: 10 :: r
  | 2 => 46 :: (name ++ (32 :: 61 :: 32 :: (et ++ (59 :: 10 :: r))))
  | 3 => 32 :: (et ++ (blksT o [101, 108, 115, 101] bs 0 ++ (10 :: r)))
  | 4 => 32 :: (et ++ (blksT o [] bs 0 ++ (10 :: r)))
  | 5 => blksT o [] bs 0 ++ (10 :: r)
  | 6 => blksT o [111, 114] bs 0 ++ (10 :: r)
  | 7 => 32 :: (mon ++ (blksT o [] bs 0 ++ (10 :: r)))
  | 8 => 32 :: (mon ++ (46 :: (name ++ (59 :: 10 :: r))))
  | 9 => 32 :: (mon ++ ((if 0 < n then 32 :: Lib.itoa n else []) ++ (59 :: 10 :: r)))
  | 10 => 32 :: (mon ++ (59 :: 10 :: r))
  | _ => 32 :: (mon ++ (59 :: 10 :: r))
/-- The kinds of statements, one by one. -/
def K11 (k : Nat) : Prop := k = 1 ∨ k = 2 ∨ k = 3 ∨ k = 4 ∨ k = 5 ∨ k = 6 ∨ k = 7 ∨ k = 8 ∨ k = 9 ∨ k = 10 ∨ k = 11
theorem st_form (o : Nat) (k : Nat) (hk : K11 k) (mon name : ByteArray) (n : Int) (et : List UInt8) (bs : List (List UInt8)) (r : List UInt8) : stOf o (k : Int) mon name n et bs ++ r = ind o ++ (stW k mon.data.toList ++ stR o k mon.data.toList name.data.toList n et bs r) := by
  rcases hk with rfl | rfl | rfl | rfl | rfl | rfl | rfl | rfl | rfl | rfl | rfl <;> simp [stOf, stW, stR, lin]
theorem blks_head (o : Nat) (word : List UInt8) (bs : List (List UInt8)) (i : Nat) (r : List UInt8) : ∃ t, blksT o word bs i ++ (10 :: r) = 10 :: t ∨ blksT o word bs i ++ (10 :: r) = 32 :: t := by
  cases bs with
  | nil => exact ⟨_, .inl rfl⟩
  | cons b bs =>
    unfold blksT blkT
    split
    · exact ⟨_, .inr rfl⟩
    · exact ⟨_, .inr rfl⟩
/-- The kind of a statement, from how its line begins. -/
def kindOf (w : List UInt8) (h : Option UInt8) : Nat :=
  if h = some 46 then 2
  else if w = [115, 107, 105, 112] then 1 else if w = [105, 102] then 3 else if w = [119, 104, 105, 108, 101] then 4
  else if w = [108, 111, 111, 112] then 5 else if w = [99, 104, 111, 111, 115, 101] then 6 else if w = [115, 121, 110, 99] then 7
  else if w = [99, 97, 108, 108] then 8 else if w = [119, 97, 105, 116] then 9 else if w = [110, 111, 116, 105, 102, 121] then 10 else 11
theorem st_head (o k : Nat) (hk : K11 k) (mon name : List UInt8) (n : Int) (et : List UInt8) (bs : List (List UInt8)) (r : List UInt8) : (∀ c ∈ (stR o k mon name n et bs r).head?, Lx.nameByte c = false) ∧ kindOf (stW k mon) (stR o k mon name n et bs r).head? = k := by
  rcases hk with rfl | rfl | rfl | rfl | rfl | rfl | rfl | rfl | rfl | rfl | rfl
  case inr.inr.inr.inr.inl =>
    obtain ⟨t, ht | ht⟩ := blks_head o [] bs 0 r <;> (simp only [stR, stW]; rw [ht]; exact ⟨by simp; rfl, by simp [kindOf]⟩)
  case inr.inr.inr.inr.inr.inl =>
    obtain ⟨t, ht | ht⟩ := blks_head o [111, 114] bs 0 r <;> (simp only [stR, stW]; rw [ht]; exact ⟨by simp; rfl, by simp [kindOf]⟩)
  all_goals exact ⟨by simp [stR]; rfl, by simp [kindOf, stR, stW]⟩
theorem stW_bytes (k : Nat) (hk : K11 k) (mon : ByteArray) (h : fitsName mon (stMon k) = true) : ∀ c ∈ stW k mon.data.toList, Lx.nameByte c = true := by
  rcases hk with rfl | rfl | rfl | rfl | rfl | rfl | rfl | rfl | rfl | rfl | rfl
  case inr.inl =>
    obtain ⟨_, _, _, _, hb⟩ := name_bytes (s := mon) (by simpa [fitsName, stMon] using h)
    exact hb
  all_goals exact List.all_eq_true.1 rfl
end Px
/-- A block is read in one way. -/
def BlOne (b : Bl) : Prop := ∀ (b' : Bl) (o : Nat) (r r' : List UInt8), b.okb → b'.okb → b.txt (o + 1) ++ (ind o ++ 125 :: r) = b'.txt (o + 1) ++ (ind o ++ 125 :: r') → b.same b' = true ∧ r = r'
def St.good (s : St) : Prop := s.ok1 = true ∧ ∀ x ∈ s.blocks, x.okb
def StOne (s : St) : Prop := ∀ (s' : St) (o : Nat) (r r' : List UInt8), s.good → s'.good → s.txt o ++ r = s'.txt o ++ r' → s.same s' = true ∧ r = r'
theorem blks_one (o : Nat) (word : List UInt8) (bs : List Bl) : ∀ (bs' : List Bl) (i : Nat) (r r' : List UInt8), (∀ b ∈ bs, BlOne b) → (∀ b ∈ bs, b.okb) → (∀ b ∈ bs', b.okb) →
    blksT o word (bs.map fun b => b.txt (o + 1)) i ++ (10 :: r) = blksT o word (bs'.map fun b => b.txt (o + 1)) i ++ (10 :: r') → Bl.sameL bs bs' = true ∧ r = r' := by
  have hh : ∀ (i : Nat) (b : List UInt8) (t : List UInt8), ∃ t', blkT o word i b ++ t = 32 :: t' := by
    intro i b t; unfold blkT; split <;> exact ⟨_, rfl⟩
  induction bs with
  | nil =>
    intro bs' i r r' _ _ _ h
    cases bs' with
    | nil => simp only [List.map_nil, blksT, List.nil_append] at h; exact ⟨by simp [Bl.sameL], (List.cons.inj h).2⟩
    | cons b bs' =>
      simp only [List.map_nil, List.map_cons, blksT, List.nil_append, List.append_assoc] at h
      obtain ⟨t', ht⟩ := hh i (b.txt (o + 1)) (blksT o word (bs'.map fun b => b.txt (o + 1)) (i + 1) ++ (10 :: r'))
      rw [ht] at h
      exact absurd (List.cons.inj h).1 (by decide)
  | cons a bs ih =>
    intro bs' i r r' h1 h2 h3 h
    cases bs' with
    | nil =>
      simp only [List.map_nil, List.map_cons, blksT, List.nil_append, List.append_assoc] at h
      obtain ⟨t', ht⟩ := hh i (a.txt (o + 1)) (blksT o word (bs.map fun b => b.txt (o + 1)) (i + 1) ++ (10 :: r))
      rw [ht] at h
      exact absurd (List.cons.inj h).1 (by decide)
    | cons b bs' =>
      simp only [List.map_cons, blksT, blkT, List.append_assoc] at h
      have h := List.append_cancel_left (List.append_cancel_left h)
      obtain ⟨e1, e2⟩ := h1 a (by simp) b o _ _ (h2 a (by simp)) (h3 b (by simp)) (by simpa using h)
      obtain ⟨e3, e4⟩ := ih bs' (i + 1) r r' (fun x hx => h1 x (by simp [hx])) (fun x hx => h2 x (by simp [hx])) (fun x hx => h3 x (by simp [hx])) e2
      exact ⟨by simp [Bl.sameL, e1, e3], e4⟩
theorem fits_same {a b : ByteArray} {c : Bool} (ha : fitsName a c = true) (hb : fitsName b c = true) (h : c = true → a.data.toList = b.data.toList) : (a.toList == b.toList) = true := by
  rw [toList_beq]
  cases c
  · simp only [fitsName, Bool.false_eq_true, if_false, decide_eq_true_iff] at ha hb
    rw [size_nil ha, size_nil hb]
  · exact h rfl
theorem num_same {a b : Int} {c : Bool} (ha : fitsNum a c = true) (hb : fitsNum b c = true) (h : c = true → a = b) : a = b := by
  cases c
  · simp [fitsNum] at ha hb; omega
  · exact h rfl
theorem ex_same {a b : Ex} {c : Bool} (ha : fitsEx a c = true) (hb : fitsEx b c = true) (h : c = true → a.same b = true) : a.same b = true := by
  cases c
  · simp only [fitsEx, Bool.false_eq_true, if_false, Ex.none] at ha hb
    exact (same_nrm a b).2 (((same_nrm _ _).1 ha).trans ((same_nrm _ _).1 hb).symm)
  · exact h rfl
theorem fol_blks (o : Nat) (word : List UInt8) (bs : List (List UInt8)) (hb : bs ≠ []) (r : List UInt8) : Fol (blksT o word bs 0 ++ r) ∧ Px.opAt (blksT o word bs 0 ++ r) = none := by
  cases bs with
  | nil => exact absurd rfl hb
  | cons b bs =>
    simp only [blksT, blkT, if_true, List.nil_append, List.cons_append]
    exact ⟨⟨by simp, rfl⟩, by simp [Px.opAt, sgn]⟩
theorem ne_head {l : List UInt8} {c : UInt8} {t : List UInt8} (p : UInt8 → Bool) (h : l = c :: t) (hc : p c = false) : ∀ x ∈ l.head?, p x = false := by
  rw [h]; intro x hx; simp at hx; rw [← hx]; exact hc
theorem kinds_cases {kind : Int} (h1 : 1 ≤ kind) (h2 : kind ≤ 11) : ∃ k : Nat, kind = (k : Int) ∧ K11 k := ⟨kind.toNat, by omega, by unfold K11; omega⟩
theorem nil_of_len {α : Type} {l : List α} {n : Nat} (h : l.length ≤ n) (hn : n = 0) : l = [] := List.eq_nil_of_length_eq_zero (by omega)
theorem name_of {s : ByteArray} {b : Bool} (h : fitsName s b = true) (hb : b = true) : Lx.name s = true := by rw [hb] at h; simpa [fitsName] using h
set_option maxHeartbeats 1000000 in
theorem stOne_of (kind : Int) (mon name : ByteArray) (n : Int) (e : Ex) (ad : Option Addr) (cap : Nat) (blocks : List Bl) (pos : Int) (ih : ∀ b ∈ blocks, BlOne b) : StOne (.mk kind mon name n e ad cap blocks pos) := by
  rintro ⟨kind', mon', name', n', e', ad', cap', blocks', pos'⟩ o r r' ⟨hg, hb⟩ ⟨hg', hb'⟩ h
  simp only [St.ok1, Bool.and_eq_true, decide_eq_true_iff] at hg hg'
  simp only [St.blocks] at hb hb'
  obtain ⟨⟨k1, k2⟩, ⟨⟨⟨⟨hm, hn⟩, hnum⟩, he⟩, hl⟩, hu⟩ := hg
  obtain ⟨⟨k1', k2'⟩, ⟨⟨⟨⟨hm', hn'⟩, hnum'⟩, he'⟩, hl'⟩, hu'⟩ := hg'
  obtain ⟨k, rfl, hk⟩ := kinds_cases k1 k2
  obtain ⟨k', rfl, hk'⟩ := kinds_cases k1' k2'
  rw [Int.toNat_natCast] at hm hn hnum he hl hu hm' hn' hnum' he' hl' hu'
  rw [St.txt_mk, St.txt_mk, st_form o k hk, st_form o k' hk'] at h
  have h := List.append_cancel_left h
  obtain ⟨hd, kd⟩ := st_head o k hk mon.data.toList name.data.toList n (e.txt 1) (blocks.map fun b => b.txt (o + 1)) r
  obtain ⟨hd', kd'⟩ := st_head o k' hk' mon'.data.toList name'.data.toList n' (e'.txt 1) (blocks'.map fun b => b.txt (o + 1)) r'
  obtain ⟨e1, e2⟩ := span_follow Lx.nameByte (stW_bytes k hk mon hm) (stW_bytes k' hk' mon' hm') hd hd' h
  have hkk : k = k' := by rw [← kd, ← kd', e1, e2]
  subst hkk
  clear h hd kd hd' kd' hk' k1 k2 k1' k2'
  have main : (stMon k = true → mon.data.toList = mon'.data.toList) ∧ (stName k = true → name.data.toList = name'.data.toList) ∧ (stNumber k = true → n = n') ∧ (stExpr k = true → e.same e' = true) ∧ Bl.sameL blocks blocks' = true ∧ r = r' := by
    rcases hk with rfl | rfl | rfl | rfl | rfl | rfl | rfl | rfl | rfl | rfl | rfl
    · rw [nil_of_len hu rfl, nil_of_len hu' rfl]
      simp only [stR] at e2
      refine ⟨fun h => absurd h (by decide), fun h => absurd h (by decide), fun h => absurd h (by decide), fun h => absurd h (by decide), by simp [Bl.sameL], by simpa using e2⟩
    · rw [nil_of_len hu rfl, nil_of_len hu' rfl]
      simp only [stR, stW] at e1 e2
      have e2 := (List.cons.inj e2).2
      obtain ⟨q1, q2⟩ := name_follow (name_of hn rfl) (name_of hn' rfl) (by simp; rfl) (by simp; rfl) e2
      simp only [List.cons.injEq, true_and] at q2
      obtain ⟨q3, q4⟩ := txt_follow (by simpa [fitsEx, stExpr] using he) (by simpa [fitsEx, stExpr] using he') (Fol.semi _) (Fol.semi _) (opAt_semi _) (opAt_semi _) q2
      exact ⟨fun _ => e1, fun _ => q1, fun h => absurd h (by decide), fun _ => q3, by simp [Bl.sameL], by simpa using q4⟩
    · have n1 : (blocks.map fun b => b.txt (o + 1)) ≠ [] := by cases blocks with | nil => simp [stLeast] at hl | cons => simp
      have n2 : (blocks'.map fun b => b.txt (o + 1)) ≠ [] := by cases blocks' with | nil => simp [stLeast] at hl' | cons => simp
      simp only [stR] at e2
      have e2 := (List.cons.inj e2).2
      obtain ⟨f1, f2⟩ := fol_blks o [101, 108, 115, 101] _ n1 (10 :: r)
      obtain ⟨f3, f4⟩ := fol_blks o [101, 108, 115, 101] _ n2 (10 :: r')
      obtain ⟨q3, q4⟩ := txt_follow (by simpa [fitsEx, stExpr] using he) (by simpa [fitsEx, stExpr] using he') f1 f3 f2 f4 e2
      obtain ⟨q5, q6⟩ := blks_one o _ blocks blocks' 0 r r' ih hb hb' q4
      exact ⟨fun h => absurd h (by decide), fun h => absurd h (by decide), fun h => absurd h (by decide), fun _ => q3, q5, q6⟩
    · have n1 : (blocks.map fun b => b.txt (o + 1)) ≠ [] := by cases blocks with | nil => simp [stLeast] at hl | cons => simp
      have n2 : (blocks'.map fun b => b.txt (o + 1)) ≠ [] := by cases blocks' with | nil => simp [stLeast] at hl' | cons => simp
      simp only [stR] at e2
      have e2 := (List.cons.inj e2).2
      obtain ⟨f1, f2⟩ := fol_blks o [] _ n1 (10 :: r)
      obtain ⟨f3, f4⟩ := fol_blks o [] _ n2 (10 :: r')
      obtain ⟨q3, q4⟩ := txt_follow (by simpa [fitsEx, stExpr] using he) (by simpa [fitsEx, stExpr] using he') f1 f3 f2 f4 e2
      obtain ⟨q5, q6⟩ := blks_one o _ blocks blocks' 0 r r' ih hb hb' q4
      exact ⟨fun h => absurd h (by decide), fun h => absurd h (by decide), fun h => absurd h (by decide), fun _ => q3, q5, q6⟩
    · simp only [stR] at e2
      obtain ⟨q5, q6⟩ := blks_one o _ blocks blocks' 0 r r' ih hb hb' e2
      exact ⟨fun h => absurd h (by decide), fun h => absurd h (by decide), fun h => absurd h (by decide), fun h => absurd h (by decide), q5, q6⟩
    · simp only [stR] at e2
      obtain ⟨q5, q6⟩ := blks_one o _ blocks blocks' 0 r r' ih hb hb' e2
      exact ⟨fun h => absurd h (by decide), fun h => absurd h (by decide), fun h => absurd h (by decide), fun h => absurd h (by decide), q5, q6⟩
    · simp only [stR] at e2
      have e2 := (List.cons.inj e2).2
      have hh : ∀ (bs : List (List UInt8)) (t : List UInt8), ∀ c ∈ (blksT o [] bs 0 ++ (10 :: t)).head?, Lx.nameByte c = false := by
        intro bs t
        obtain ⟨t', ht | ht⟩ := blks_head o [] bs 0 t
        · exact ne_head _ ht rfl
        · exact ne_head _ ht rfl
      obtain ⟨q1, q2⟩ := name_follow (name_of hm rfl) (name_of hm' rfl) (hh _ _) (hh _ _) e2
      obtain ⟨q5, q6⟩ := blks_one o _ blocks blocks' 0 r r' ih hb hb' q2
      exact ⟨fun _ => q1, fun h => absurd h (by decide), fun h => absurd h (by decide), fun h => absurd h (by decide), q5, q6⟩
    · rw [nil_of_len hu rfl, nil_of_len hu' rfl]
      simp only [stR] at e2
      have e2 := (List.cons.inj e2).2
      obtain ⟨q1, q2⟩ := name_follow (name_of hm rfl) (name_of hm' rfl) (by simp; rfl) (by simp; rfl) e2
      have q2 := (List.cons.inj q2).2
      obtain ⟨q3, q4⟩ := name_follow (name_of hn rfl) (name_of hn' rfl) (by simp; rfl) (by simp; rfl) q2
      exact ⟨fun _ => q1, fun _ => q3, fun h => absurd h (by decide), fun h => absurd h (by decide), by simp [Bl.sameL], by simpa using q4⟩
    · rw [nil_of_len hu rfl, nil_of_len hu' rfl]
      simp only [stR] at e2
      have e2 := (List.cons.inj e2).2
      have hh : ∀ (m : Int) (t : List UInt8), ∀ c ∈ ((if 0 < m then 32 :: Lib.itoa m else []) ++ (59 :: t)).head?, Lx.nameByte c = false := by
        intro m t; split <;> (simp; rfl)
      obtain ⟨q1, q2⟩ := name_follow (name_of hm rfl) (name_of hm' rfl) (hh _ _) (hh _ _) e2
      have hn0 : ∀ {m : Int}, fitsNum m (stNumber 9) = true → ¬ 0 < m → m = 0 := by
        intro m h1 h2
        simp [fitsNum, stNumber] at h1
        omega
      have q3 : n = n' ∧ r = r' := by
        by_cases p1 : 0 < n
        · by_cases p2 : 0 < n'
          · rw [if_pos p1, if_pos p2] at q2
            simp only [List.cons_append, List.cons.injEq, true_and] at q2
            obtain ⟨q5, q6⟩ := itoa_follow (by simp; rfl) (by simp; rfl) q2
            exact ⟨q5, by simpa using q6⟩
          · rw [if_pos p1, if_neg p2] at q2
            exact absurd (List.cons.inj q2).1 (by decide)
        · by_cases p2 : 0 < n'
          · rw [if_neg p1, if_pos p2] at q2
            exact absurd (List.cons.inj q2).1 (by decide)
          · rw [if_neg p1, if_neg p2] at q2
            exact ⟨by rw [hn0 hnum p1, hn0 hnum' p2], by simpa using q2⟩
      exact ⟨fun _ => q1, fun h => absurd h (by decide), fun _ => q3.1, fun h => absurd h (by decide), by simp [Bl.sameL], q3.2⟩
    · rw [nil_of_len hu rfl, nil_of_len hu' rfl]
      simp only [stR] at e2
      have e2 := (List.cons.inj e2).2
      obtain ⟨q1, q2⟩ := name_follow (name_of hm rfl) (name_of hm' rfl) (by simp; rfl) (by simp; rfl) e2
      exact ⟨fun _ => q1, fun h => absurd h (by decide), fun h => absurd h (by decide), fun h => absurd h (by decide), by simp [Bl.sameL], by simpa using q2⟩
    · rw [nil_of_len hu rfl, nil_of_len hu' rfl]
      simp only [stR] at e2
      have e2 := (List.cons.inj e2).2
      obtain ⟨q1, q2⟩ := name_follow (name_of hm rfl) (name_of hm' rfl) (by simp; rfl) (by simp; rfl) e2
      exact ⟨fun _ => q1, fun h => absurd h (by decide), fun h => absurd h (by decide), fun h => absurd h (by decide), by simp [Bl.sameL], by simpa using q2⟩
  obtain ⟨m1, m2, m3, m4, m5, m6⟩ := main
  refine ⟨?_, m6⟩
  rw [St.same, fits_same hm hm' m1, fits_same hn hn' m2, num_same hnum hnum' m3, ex_same he he' m4, m5]
  simp
/-- Texts one behind the other, of each of which it is known where it ends. -/
theorem list_one {α : Type} (f : α → List UInt8) (same : α → α → Bool) (good : α → Prop) (fin : List UInt8 → Prop) (apart : ∀ a r z, fin z → f a ++ r ≠ z) (l : List α) : ∀ (l' : List α) (z z' : List UInt8), (∀ a ∈ l, ∀ a' r r', good a' → f a ++ r = f a' ++ r' → same a a' = true ∧ r = r') → (∀ a ∈ l', good a) → fin z → fin z' → l.flatMap f ++ z = l'.flatMap f ++ z' → all2 same l l' = true ∧ z = z' := by
  induction l with
  | nil =>
    intro l' z z' _ _ hz hz' h
    cases l' with
    | nil => exact ⟨by simp [all2], by simpa using h⟩
    | cons b l' =>
      rw [List.flatMap_nil, List.nil_append, List.flatMap_cons, List.append_assoc] at h
      exact absurd h.symm (apart _ _ _ hz)
  | cons a l ih =>
    intro l' z z' h1 h2 hz hz' h
    cases l' with
    | nil =>
      rw [List.flatMap_nil, List.nil_append, List.flatMap_cons, List.append_assoc] at h
      exact absurd h (apart _ _ _ hz')
    | cons b l' =>
      rw [List.flatMap_cons, List.flatMap_cons, List.append_assoc, List.append_assoc] at h
      obtain ⟨e1, e2⟩ := h1 a (by simp) b _ _ (h2 b (by simp)) h
      obtain ⟨e3, e4⟩ := ih l' z z' (fun x hx => h1 x (by simp [hx])) (fun x hx => h2 x (by simp [hx])) hz hz' e2
      exact ⟨by simp [all2, e1, e3], e4⟩
theorem sttxt_head (s : St) (o : Nat) (hg : s.good) (r : List UInt8) : ∃ t, s.txt (o + 1) ++ r = ind o ++ (32 :: t) := by
  rcases s with ⟨kind, mon, name, n, e, ad, cap, blocks, pos⟩
  have h := hg.1
  simp only [St.ok1, Bool.and_eq_true, decide_eq_true_iff] at h
  obtain ⟨k, rfl, hk⟩ := kinds_cases h.1.1 h.1.2
  rw [St.txt_mk, st_form (o + 1) k hk, ind_succ, List.append_assoc]
  exact ⟨_, rfl⟩
theorem blOne_any (b : Bl) : BlOne b :=
  Bl.ind (P := StOne) (Q := BlOne) stOne_of (fun ad cap body ih => by
    rintro ⟨ad', cap', body'⟩ o r r' hb hb' h
    have g := Bl.okb_stmt hb
    have g' := Bl.okb_stmt hb'
    rw [Bl.txt_mk, Bl.txt_mk] at h
    have hh : ∀ (l l' : List St) (z z' : List UInt8), (∀ a ∈ l, a.good ∧ StOne a) → (∀ a ∈ l', a.good) → l.flatMap (fun s => s.txt (o + 1)) ++ (ind o ++ 125 :: z) = l'.flatMap (fun s => s.txt (o + 1)) ++ (ind o ++ 125 :: z') → all2 St.same l l' = true ∧ z = z' := by
      intro l
      induction l with
      | nil =>
        intro l' z z' _ h2 h
        cases l' with
        | nil => exact ⟨by simp [all2], by simpa using h⟩
        | cons b l' =>
          rw [List.flatMap_nil, List.nil_append, List.flatMap_cons, List.append_assoc] at h
          obtain ⟨t, ht⟩ := sttxt_head b o (h2 b (by simp)) (l'.flatMap (fun s => s.txt (o + 1)) ++ (ind o ++ 125 :: z'))
          rw [ht] at h
          exact absurd (List.cons.inj (List.append_cancel_left h)).1 (by decide)
      | cons a l ih2 =>
        intro l' z z' h1 h2 h
        cases l' with
        | nil =>
          rw [List.flatMap_nil, List.nil_append, List.flatMap_cons, List.append_assoc] at h
          obtain ⟨t, ht⟩ := sttxt_head a o (h1 a (by simp)).1 (l.flatMap (fun s => s.txt (o + 1)) ++ (ind o ++ 125 :: z))
          rw [ht] at h
          exact absurd (List.cons.inj (List.append_cancel_left h)).1 (by decide)
        | cons b l' =>
          rw [List.flatMap_cons, List.flatMap_cons, List.append_assoc, List.append_assoc] at h
          obtain ⟨e1, e2⟩ := (h1 a (by simp)).2 b _ _ _ (h1 a (by simp)).1 (h2 b (by simp)) h
          obtain ⟨e3, e4⟩ := ih2 l' z z' (fun x hx => h1 x (by simp [hx])) (fun x hx => h2 x (by simp [hx])) e2
          exact ⟨by simp [all2, e1, e3], e4⟩
    obtain ⟨q1, q2⟩ := hh body body' r r' (fun a ha => ⟨g a ha, ih a ha⟩) g' h
    exact ⟨by rw [Bl.same, St.sameL_eq]; exact q1, q2⟩) b
theorem bl_same_txt (b : Bl) : ∀ b' o, b.same b' = true → b.txt o = b'.txt o :=
  Bl.ind (P := fun s => ∀ s' o, s.same s' = true → s.txt o = s'.txt o) (Q := fun b => ∀ b' o, b.same b' = true → b.txt o = b'.txt o)
    (fun kind mon name n e ad cap blocks pos ih => by
      rintro ⟨kind', mon', name', n', e', ad', cap', blocks', pos'⟩ o h
      rw [St.same] at h
      simp only [Bool.and_eq_true, toList_beq] at h
      obtain ⟨⟨⟨⟨⟨h1, h2⟩, h3⟩, h4⟩, h5⟩, h6⟩ := h
      have h1 := eq_of_beq h1
      have h4 := eq_of_beq h4
      subst h1 h4
      obtain ⟨e1, e2⟩ := txt_same e e' h5
      have e3 : e.txt 1 = e'.txt 1 := by unfold Ex.txt; rw [e1, e2]
      have hk : ∀ (ks ks' : List Bl), (∀ x ∈ ks, ∀ y o, x.same y = true → x.txt o = y.txt o) → Bl.sameL ks ks' = true → (ks.map fun b => b.txt (o + 1)) = ks'.map fun b => b.txt (o + 1) := by
        intro ks
        induction ks with
        | nil => intro ks' _ h; cases ks' with
          | nil => rfl
          | cons b ks' => simp [Bl.sameL] at h
        | cons a ks ih2 =>
          intro ks' hx h
          cases ks' with
          | nil => simp [Bl.sameL] at h
          | cons b ks' =>
            simp only [Bl.sameL, Bool.and_eq_true] at h
            simp only [List.map_cons, hx a (by simp) b (o + 1) h.1]
            rw [ih2 ks' (fun x hxm => hx x (by simp [hxm])) h.2]
      rw [St.txt_mk, St.txt_mk, e3, hk blocks blocks' ih h6]
      unfold stOf
      rw [h2, h3])
    (fun ad cap body ih => by
      rintro ⟨ad', cap', body'⟩ o h
      rw [Bl.same] at h
      have hk : ∀ (ks ks' : List St), (∀ x ∈ ks, ∀ y o, x.same y = true → x.txt o = y.txt o) → St.sameL ks ks' = true → (ks.flatMap fun b => b.txt o) = ks'.flatMap fun b => b.txt o := by
        intro ks
        induction ks with
        | nil => intro ks' _ h; cases ks' with
          | nil => rfl
          | cons b ks' => simp [St.sameL] at h
        | cons a ks ih2 =>
          intro ks' hx h
          cases ks' with
          | nil => simp [St.sameL] at h
          | cons b ks' =>
            simp only [St.sameL, Bool.and_eq_true] at h
            simp only [List.flatMap_cons, hx a (by simp) b o h.1]
            rw [ih2 ks' (fun x hxm => hx x (by simp [hxm])) h.2]
      rw [Bl.txt_mk, Bl.txt_mk, hk body body' ih h]) b
theorem itoa_head (a : Int) : ∃ c t, Lib.itoa a = c :: t ∧ (c = 45 ∨ Lx.digit c = true) := by
  unfold Lib.itoa
  split
  · exact ⟨45, _, rfl, .inl rfl⟩
  · obtain ⟨d1, d2⟩ := decDigits_digit a.toNat
    cases hd : Lib.decDigits a.toNat with
    | nil => exact absurd hd d1
    | cons c l => exact ⟨c, l, rfl, .inr (d2 c (by rw [hd]; simp))⟩
theorem itoa_not {a : Int} {c : UInt8} {t r : List UInt8} (h : Lib.itoa a ++ r = c :: t) (h1 : c ≠ 45) (h2 : Lx.digit c = false) : False := by
  obtain ⟨d, u, e, hd⟩ := itoa_head a
  rw [e, List.cons_append] at h
  rw [(List.cons.inj h).1] at hd
  rcases hd with hd | hd
  · exact h1 hd
  · rw [h2] at hd; cases hd
theorem vaKind_bool {v : Va} (h : v.type = 1) : vaKind v = [98, 111, 111, 108] := by unfold vaKind; rw [if_pos h]
theorem vaKind_int {v : Va} (h : v.type = 2) : vaKind v = [105, 110, 116] := by unfold vaKind; rw [if_neg (by omega), if_neg (by omega)]
theorem vaKind_range {v : Va} (h : v.type = 3) : vaKind v = Lib.itoa v.lo ++ (46 :: 46 :: Lib.itoa v.hi) := by unfold vaKind; rw [if_neg (by omega), if_pos h]; rfl
theorem vaInit_bool {v : Va} (h : v.type = 1) : vaInit v = if v.init = 1 then [116, 114, 117, 101] else [102, 97, 108, 115, 101] := by unfold vaInit; rw [if_pos h]
theorem vaInit_num {v : Va} (h : v.type = 2 ∨ v.type = 3) : vaInit v = Lib.itoa v.init := by unfold vaInit; rw [if_neg (by omega)]
theorem vaT_eq (o : Nat) (v : Va) (r : List UInt8) : vaT o v ++ r = ind o ++ (118 :: 97 :: 114 :: 32 :: (v.name.data.toList ++ (32 :: 58 :: 32 :: (vaKind v ++ (32 :: 61 :: 32 :: (vaInit v ++ (59 :: 10 :: r))))))) := by
  simp [vaT, lin]
theorem va_one (o : Nat) (v v' : Va) (r r' : List UInt8) (hv : v.ok = true) (hv' : v'.ok = true) (h : vaT o v ++ r = vaT o v' ++ r') : v.same v' = true ∧ r = r' := by
  rw [vaT_eq, vaT_eq] at h
  have h := List.append_cancel_left h
  simp only [List.cons.injEq, true_and] at h
  unfold Va.ok at hv hv'
  simp only [Bool.and_eq_true, decide_eq_true_iff] at hv hv'
  obtain ⟨e1, e2⟩ := name_follow hv.1.1 hv'.1.1 (by simp; rfl) (by simp; rfl) h
  simp only [List.cons.injEq, true_and] at e2
  have ht := hv.2
  have ht' := hv'.2
  have key : v.type = v'.type ∧ v.lo = v'.lo ∧ v.hi = v'.hi ∧ v.init = v'.init ∧ r = r' := by
    rcases ht with ⟨t1, t2, t3, t4⟩ | ⟨t1, t2, t3⟩ | ⟨t1, t2⟩
    · rcases ht' with ⟨s1, s2, s3, s4⟩ | ⟨s1, s2, s3⟩ | ⟨s1, s2⟩
      · rw [vaKind_bool t1, vaKind_bool s1, vaInit_bool t1, vaInit_bool s1] at e2
        have e2 := List.append_cancel_left e2
        simp only [List.cons.injEq, true_and] at e2
        refine ⟨by omega, by omega, by omega, ?_⟩
        by_cases p1 : v.init = 1
        · by_cases p2 : v'.init = 1
          · rw [if_pos p1, if_pos p2] at e2
            exact ⟨by omega, by simpa using e2⟩
          · rw [if_pos p1, if_neg p2] at e2
            exact absurd (List.cons.inj e2).1 (by decide)
        · by_cases p2 : v'.init = 1
          · rw [if_neg p1, if_pos p2] at e2
            exact absurd (List.cons.inj e2).1 (by decide)
          · rw [if_neg p1, if_neg p2] at e2
            exact ⟨by omega, by simpa using e2⟩
      · rw [vaKind_bool t1, vaKind_int s1] at e2
        exact absurd (List.cons.inj e2).1 (by decide)
      · rw [vaKind_bool t1, vaKind_range s1, List.append_assoc] at e2
        exact (itoa_not e2.symm (by decide) rfl).elim
    · rcases ht' with ⟨s1, s2, s3, s4⟩ | ⟨s1, s2, s3⟩ | ⟨s1, s2⟩
      · rw [vaKind_int t1, vaKind_bool s1] at e2
        exact absurd (List.cons.inj e2).1 (by decide)
      · rw [vaKind_int t1, vaKind_int s1, vaInit_num (.inl t1), vaInit_num (.inl s1)] at e2
        have e2 := List.append_cancel_left e2
        simp only [List.cons.injEq, true_and] at e2
        obtain ⟨q1, q2⟩ := itoa_follow (by simp; rfl) (by simp; rfl) e2
        exact ⟨by omega, by omega, by omega, q1, by simpa using q2⟩
      · rw [vaKind_int t1, vaKind_range s1, List.append_assoc] at e2
        exact (itoa_not e2.symm (by decide) rfl).elim
    · rcases ht' with ⟨s1, s2, s3, s4⟩ | ⟨s1, s2, s3⟩ | ⟨s1, s2⟩
      · rw [vaKind_range t1, vaKind_bool s1, List.append_assoc] at e2
        exact (itoa_not e2 (by decide) rfl).elim
      · rw [vaKind_range t1, vaKind_int s1, List.append_assoc] at e2
        exact (itoa_not e2 (by decide) rfl).elim
      · rw [vaKind_range t1, vaKind_range s1, vaInit_num (.inr t1), vaInit_num (.inr s1), List.append_assoc, List.append_assoc, List.cons_append, List.cons_append, List.cons_append, List.cons_append] at e2
        obtain ⟨q1, q2⟩ := itoa_follow (by simp; rfl) (by simp; rfl) e2
        simp only [List.cons.injEq, true_and] at q2
        obtain ⟨q3, q4⟩ := itoa_follow (by simp; rfl) (by simp; rfl) q2
        simp only [List.cons.injEq, true_and] at q4
        obtain ⟨q5, q6⟩ := itoa_follow (by simp; rfl) (by simp; rfl) q4
        exact ⟨by omega, q1, q3, q5, by simpa using q6⟩
  refine ⟨?_, key.2.2.2.2⟩
  unfold Va.same
  rw [(toList_beq _ _).2 e1, key.1, key.2.1, key.2.2.1, key.2.2.2.1]
  simp
def Me.good (x : Me) : Prop := Lx.name x.name = true ∧ x.body.okb
def Mo.good (m : Mo) : Prop := Lx.name m.name = true ∧ (∀ v ∈ m.vars, v.ok = true) ∧ ∀ x ∈ m.meths, x.good
def Ro.good (x : Ro) : Prop := Lx.name x.name = true ∧ fitsNum x.count (!x.star) = true ∧ x.body.okb
theorem meT_eq (o : Nat) (x : Me) (r : List UInt8) : meT o x ++ r = ind o ++ (109 :: 101 :: 116 :: 104 :: 111 :: 100 :: 32 :: (x.name.data.toList ++ (blksT o [] [x.body.txt (o + 1)] 0 ++ (10 :: r)))) := by
  simp [meT]
theorem blk_name (o : Nat) (b t : List UInt8) : ∀ c ∈ (blksT o [] [b] 0 ++ (10 :: t)).head?, Lx.nameByte c = false := by
  simp [blksT, blkT]; rfl
theorem blk_digit (o : Nat) (b t : List UInt8) : ∀ c ∈ (blksT o [] [b] 0 ++ (10 :: t)).head?, Lx.digit c = false := by
  simp [blksT, blkT]; rfl
theorem blk_one (o : Nat) (b b' : Bl) (r r' : List UInt8) (hb : b.okb) (hb' : b'.okb) (h : blksT o [] [b.txt (o + 1)] 0 ++ (10 :: r) = blksT o [] [b'.txt (o + 1)] 0 ++ (10 :: r')) : b.same b' = true ∧ r = r' := by
  obtain ⟨e1, e2⟩ := blks_one o [] [b] [b'] 0 r r' (fun x _ => blOne_any x) (by simpa using hb) (by simpa using hb') (by simpa using h)
  exact ⟨by simpa [Bl.sameL] using e1, e2⟩
theorem me_one (o : Nat) (x x' : Me) (r r' : List UInt8) (hx : x.good) (hx' : x'.good) (h : meT o x ++ r = meT o x' ++ r') : x.same x' = true ∧ r = r' := by
  rw [meT_eq, meT_eq] at h
  have h := List.append_cancel_left h
  simp only [List.cons.injEq, true_and] at h
  obtain ⟨e1, e2⟩ := name_follow hx.1 hx'.1 (blk_name _ _ _) (blk_name _ _ _) h
  obtain ⟨e3, e4⟩ := blk_one o _ _ r r' hx.2 hx'.2 e2
  exact ⟨by unfold Me.same; rw [(toList_beq _ _).2 e1, e3]; rfl, e4⟩
theorem ro_one (x x' : Ro) (r r' : List UInt8) (hx : x.good) (hx' : x'.good) (h : roT 0 x ++ r = roT 0 x' ++ r') : x.same x' = true ∧ r = r' := by
  have he : ∀ (x : Ro) (r : List UInt8), roT 0 x ++ r = 116 :: 104 :: 114 :: 101 :: 97 :: 100 :: 32 :: (x.name.data.toList ++ (32 :: (roCount x ++ (blksT 0 [] [x.body.txt (0 + 1)] 0 ++ (10 :: r))))) := by
    intro x r; simp [roT, ind]
  rw [he, he] at h
  simp only [List.cons.injEq, true_and] at h
  obtain ⟨e1, e2⟩ := name_follow hx.1 hx'.1 (by simp; rfl) (by simp; rfl) h
  simp only [List.cons.injEq, true_and] at e2
  have hc := hx.2.1
  have hc' := hx'.2.1
  have key : x.star = x'.star ∧ x.count = x'.count ∧ x.body.same x'.body = true ∧ r = r' := by
    unfold roCount at e2
    cases h1 : x.star
    · cases h2 : x'.star
      · rw [h1, h2] at e2
        simp only [Bool.false_eq_true, if_false] at e2
        obtain ⟨q1, q2⟩ := itoa_follow (blk_digit _ _ _) (blk_digit _ _ _) e2
        obtain ⟨q3, q4⟩ := blk_one 0 _ _ r r' hx.2.2 hx'.2.2 q2
        exact ⟨rfl, q1, q3, q4⟩
      · rw [h1, h2] at e2
        simp only [Bool.false_eq_true, if_false, if_true] at e2
        exact (itoa_not e2 (by decide) rfl).elim
    · cases h2 : x'.star
      · rw [h1, h2] at e2
        simp only [Bool.false_eq_true, if_false, if_true] at e2
        exact (itoa_not e2.symm (by decide) rfl).elim
      · rw [h1, h2] at e2
        simp only [if_true] at e2
        have e2 := List.append_cancel_left e2
        obtain ⟨q3, q4⟩ := blk_one 0 _ _ r r' hx.2.2 hx'.2.2 e2
        refine ⟨rfl, ?_, q3, q4⟩
        rw [h1] at hc; rw [h2] at hc'
        simp [fitsNum] at hc hc'
        omega
  refine ⟨?_, key.2.2.2⟩
  unfold Ro.same
  rw [(toList_beq _ _).2 e1, key.1, key.2.1, key.2.2.1]
  simp
theorem mo_one (m m' : Mo) (r r' : List UInt8) (hm : m.good) (hm' : m'.good) (h : moT 0 m ++ r = moT 0 m' ++ r') : m.same m' = true ∧ r = r' := by
  have he : ∀ (m : Mo) (r : List UInt8), moT 0 m ++ r = 109 :: 111 :: 110 :: 105 :: 116 :: 111 :: 114 :: 32 :: (m.name.data.toList ++ (32 :: 123 :: 10 :: (m.vars.flatMap (vaT 1) ++ (m.meths.flatMap (meT 1) ++ (125 :: 10 :: r))))) := by
    intro m r; simp [moT, moIn, ind]
  rw [he, he] at h
  simp only [List.cons.injEq, true_and] at h
  obtain ⟨e1, e2⟩ := name_follow hm.1 hm'.1 (by simp; rfl) (by simp; rfl) h
  simp only [List.cons.injEq, true_and] at e2
  have hfin : ∀ (l : List Me) (r : List UInt8), (∃ t, l.flatMap (meT 1) ++ (125 :: 10 :: r) = 125 :: t) ∨ ∃ t, l.flatMap (meT 1) ++ (125 :: 10 :: r) = ind 1 ++ (109 :: t) := by
    intro l r
    cases l with
    | nil => exact .inl ⟨_, rfl⟩
    | cons x l => rw [List.flatMap_cons, List.append_assoc, meT_eq]; exact .inr ⟨_, rfl⟩
  obtain ⟨e3, e4⟩ := list_one (vaT 1) Va.same (fun v => v.ok = true) (fun z => (∃ t, z = 125 :: t) ∨ ∃ t, z = ind 1 ++ (109 :: t))
    (by
      intro a r z hz h
      rw [vaT_eq] at h
      rcases hz with ⟨t, rfl⟩ | ⟨t, rfl⟩
      · exact absurd (List.cons.inj h).1 (by decide)
      · exact absurd (List.cons.inj (List.append_cancel_left h)).1 (by decide))
    m.vars m'.vars _ _ (fun a ha a' r r' hg h => va_one 1 a a' r r' (hm.2.1 a ha) hg h) hm'.2.1 (hfin _ _) (hfin _ _) e2
  obtain ⟨e5, e6⟩ := list_one (meT 1) Me.same Me.good (fun z => ∃ t, z = 125 :: t)
    (by
      intro a r z hz h
      rw [meT_eq] at h
      obtain ⟨t, rfl⟩ := hz
      exact absurd (List.cons.inj h).1 (by decide))
    m.meths m'.meths _ _ (fun a ha a' r r' hg h => me_one 1 a a' r r' (hm.2.2 a ha) hg h) hm'.2.2 ⟨_, rfl⟩ ⟨_, rfl⟩ e4
  refine ⟨?_, by simpa using e6⟩
  unfold Mo.same
  rw [(toList_beq _ _).2 e1, e3, e5]
  rfl
theorem all2_map {α : Type} {β : Type} (same : α → α → Bool) (f : α → β) (h : ∀ a b, same a b = true → f a = f b) : ∀ l l' : List α, all2 same l l' = true → l.map f = l'.map f := by
  intro l
  induction l with
  | nil => intro l' hl; cases l' with
    | nil => rfl
    | cons b l' => simp [all2] at hl
  | cons a l ih => intro l' hl; cases l' with
    | nil => simp [all2] at hl
    | cons b l' =>
      simp only [all2, Bool.and_eq_true] at hl
      rw [List.map_cons, List.map_cons, h a b hl.1, ih l' hl.2]
theorem all2_flat {α : Type} (same : α → α → Bool) (f : α → List UInt8) (h : ∀ a b, same a b = true → f a = f b) (l l' : List α) (hl : all2 same l l' = true) : l.flatMap f = l'.flatMap f := by
  rw [List.flatMap_def, List.flatMap_def, all2_map same f h l l' hl]
theorem va_same_txt (o : Nat) (v v' : Va) (h : v.same v' = true) : vaT o v = vaT o v' := by
  unfold Va.same at h
  simp only [Bool.and_eq_true, toList_beq] at h
  unfold vaT vaKind vaInit
  rw [h.1.1.1.1, eq_of_beq h.1.1.1.2, eq_of_beq h.1.1.2, eq_of_beq h.1.2, eq_of_beq h.2]
theorem me_same_txt (o : Nat) (x x' : Me) (h : x.same x' = true) : meT o x = meT o x' := by
  unfold Me.same at h
  simp only [Bool.and_eq_true, toList_beq] at h
  unfold meT
  rw [h.1, bl_same_txt _ _ _ h.2]
theorem ro_same_txt (x x' : Ro) (h : x.same x' = true) : roT 0 x = roT 0 x' := by
  unfold Ro.same at h
  simp only [Bool.and_eq_true, toList_beq] at h
  unfold roT roCount
  rw [h.1.1.1, eq_of_beq h.1.1.2, eq_of_beq h.1.2, bl_same_txt _ _ _ h.2]
theorem mo_same_txt (x x' : Mo) (h : x.same x' = true) : moT 0 x = moT 0 x' := by
  unfold Mo.same at h
  simp only [Bool.and_eq_true, toList_beq] at h
  unfold moT moIn
  rw [h.1.1, all2_flat Va.same _ (va_same_txt (0 + 1)) _ _ h.1.2, all2_flat Me.same _ (me_same_txt (0 + 1)) _ _ h.2]
theorem Pr.parts_good {p : Pr} (hok : p.ok = true) : (∀ m ∈ p.mons, m.good) ∧ ∀ r ∈ p.roles, r.good := by
  unfold Pr.ok at hok
  rw [Bool.and_eq_true] at hok
  obtain ⟨hd, hs⟩ := hok
  unfold Pr.decl at hd
  simp only [Bool.and_eq_true, decide_eq_true_iff, List.all_eq_true] at hd hs
  refine ⟨fun m hm => ?_, fun r hr => ?_⟩
  · have h1 := hd.1.2 m hm
    unfold Mo.ok at h1
    simp only [Bool.and_eq_true, decide_eq_true_iff, List.all_eq_true] at h1
    exact ⟨h1.1.1.1.1, h1.1.2, fun x hx => ⟨h1.2 x hx, fun s hs' => hs s (List.mem_append.2 (.inl (List.mem_flatMap.2 ⟨m, hm, List.mem_flatMap.2 ⟨x, hx, hs'⟩⟩)))⟩⟩
  · have h1 := hd.2 r hr
    unfold Ro.ok at h1
    simp only [Bool.and_eq_true] at h1
    exact ⟨h1.1, h1.2, fun s hs' => hs s (List.mem_append.2 (.inr (List.mem_flatMap.2 ⟨r, hr, hs'⟩)))⟩
/-- The texts of two programs are the same just if the programs are. -/
theorem pr_inj {p q : Pr} (hp : p.ok = true) (hq : q.ok = true) : p.same q = decide (p.txt = q.txt) := by
  rw [Bool.eq_iff_iff, decide_eq_true_iff]
  obtain ⟨p1, p2⟩ := Pr.parts_good hp
  obtain ⟨q1, q2⟩ := Pr.parts_good hq
  unfold Pr.same Pr.txt
  rw [Bool.and_eq_true]
  constructor
  · rintro ⟨h1, h2⟩
    rw [all2_flat Mo.same _ mo_same_txt _ _ h1, all2_flat Ro.same _ ro_same_txt _ _ h2]
  · intro h
    have he : ∀ (x : Ro) (r : List UInt8), ∃ t, roT 0 x ++ r = 116 :: t := by
      intro x r; simp [roT, ind]
    have hm : ∀ (x : Mo) (r : List UInt8), ∃ t, moT 0 x ++ r = 109 :: t := by
      intro x r; simp [moT, ind]
    have hfin : ∀ (l : List Ro), l.flatMap (roT 0) = [] ∨ ∃ t, l.flatMap (roT 0) = 116 :: t := by
      intro l
      cases l with
      | nil => exact .inl rfl
      | cons x l => rw [List.flatMap_cons]; exact .inr (he x _)
    obtain ⟨e1, e2⟩ := list_one (moT 0) Mo.same Mo.good (fun z => z = [] ∨ ∃ t, z = 116 :: t)
      (by
        intro a r z hz h
        obtain ⟨t, ht⟩ := hm a r
        rw [ht] at h
        rcases hz with rfl | ⟨t', rfl⟩
        · cases h
        · exact absurd (List.cons.inj h).1 (by decide))
      p.mons q.mons _ _ (fun a ha a' r r' hg h => mo_one a a' r r' (p1 a ha) hg h) q1 (hfin _) (hfin _) h
    obtain ⟨e3, e4⟩ := list_one (roT 0) Ro.same Ro.good (fun z => z = [])
      (by
        intro a r z hz h
        obtain ⟨t, ht⟩ := he a r
        rw [ht, hz] at h
        cases h)
      p.roles q.roles [] [] (fun a ha a' r r' hg h => ro_one a a' r r' (p2 a ha) hg h) q2 rfl rfl (by simpa using e2)
    exact ⟨e1, e3⟩
end Go.Proofs.YtnljhlmopjgogaaDoor
