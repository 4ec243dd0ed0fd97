/-
  The reading of an expression's text is the expression; so unlike expressions have unlike texts.
-/
import Derived.Test.YtnljhlmopjgogaaDoorUrA
namespace Go.Proofs.YtnljhlmopjgogaaDoor
open Go.RowKit Px
namespace Px
theorem start_num (ds r : List UInt8) (h0 : ds ≠ []) (hd : ∀ c ∈ ds, Lx.digit c = true) (hr : Fol r) : begs (ds ++ r) = .atom (.mk 1 [] [] ds []) r := by
  obtain ⟨t, d⟩ := takeWhile_fol Lx.digit ds r hd (hr.not _ rfl rfl rfl)
  cases ds with
  | nil => exact absurd rfl h0
  | cons c ds =>
    have hc := hd c (by simp)
    obtain ⟨n1, n2, n3⟩ := digit_not45 hc
    rw [List.cons_append] at t d ⊢
    rw [begs, if_neg n2, if_neg n3, if_neg n1, if_pos hc, t, d, if_neg (by rw [hr.2]; simp)]
theorem start_mul (ds r : List UInt8) (h0 : ds ≠ []) (hd : ∀ c ∈ ds, Lx.digit c = true) : begs (ds ++ ([32, 42, 32] ++ r)) = .pre 7 ds 6 r := by
  obtain ⟨t, d⟩ := takeWhile_fol Lx.digit ds ([32, 42, 32] ++ r) hd (by simp; rfl)
  cases ds with
  | nil => exact absurd rfl h0
  | cons c ds =>
    have hc := hd c (by simp)
    obtain ⟨n1, n2, n3⟩ := digit_not45 hc
    rw [List.cons_append] at t d ⊢
    rw [begs, if_neg n2, if_neg n3, if_neg n1, if_pos hc, t, d, if_pos (by simp [List.isPrefixOf])]
    simp
theorem letter_not {c : UInt8} (h : Lx.letter c = true) : c ≠ 45 ∧ c ≠ 40 ∧ c ≠ 33 ∧ Lx.digit c = false := by
  refine ⟨?_, ?_, ?_, ?_⟩
  · rintro rfl; cases h
  · rintro rfl; cases h
  · rintro rfl; cases h
  · rw [Lx.letter_eq] at h
    rw [Lx.digit_eq]
    simp at h ⊢
    omega
theorem name_bytes {s : ByteArray} (h : Lx.name s = true) : ∃ c t, s.data.toList = c :: t ∧ Lx.letter c = true ∧ ∀ x ∈ s.data.toList, Lx.nameByte x = true := by
  unfold Lx.name at h
  simp only [Bool.and_eq_true] at h
  obtain ⟨⟨⟨_, hl⟩, ha⟩, _⟩ := h
  cases hs : s.data.toList with
  | nil => rw [hs] at hl; cases hl
  | cons c t => rw [hs] at hl ha; exact ⟨c, t, rfl, hl, List.all_eq_true.1 ha⟩
theorem start_var (mon name : ByteArray) (r : List UInt8) (hm : Lx.name mon = true) (hn : Lx.name name = true) (hr : Fol r) : begs ((mon.data.toList ++ 46 :: name.data.toList) ++ r) = .atom (.mk 4 mon.data.toList name.data.toList zr []) r := by
  obtain ⟨c, t, hc, hl, hb⟩ := name_bytes hm
  obtain ⟨_, _, _, _, hb2⟩ := name_bytes hn
  obtain ⟨t1, d1⟩ := takeWhile_fol Lx.nameByte mon.data.toList (46 :: (name.data.toList ++ r)) hb (by simp; rfl)
  obtain ⟨t2, d2⟩ := takeWhile_fol Lx.nameByte name.data.toList r hb2 (hr.not _ rfl rfl rfl)
  obtain ⟨n1, n2, n3, n4⟩ := letter_not hl
  have e : (mon.data.toList ++ 46 :: name.data.toList) ++ r = c :: (t ++ 46 :: (name.data.toList ++ r)) := by rw [hc]; simp
  rw [hc, List.cons_append] at t1 d1
  rw [e, begs, if_neg n2, if_neg n3, if_neg n1, if_neg (by rw [n4]; simp), d1, if_pos (by simp), t1, List.drop_one, List.tail_cons, t2, d2, hc]
theorem start_word (w r : List UInt8) (hw : w = [116, 114, 117, 101] ∨ w = [102, 97, 108, 115, 101]) (hr : Fol r) : begs (w ++ r) = .atom (.mk (if w = [116, 114, 117, 101] then 2 else 3) [] [] zr []) r := by
  have hb : ∀ c ∈ w, Lx.nameByte c = true := by
    rcases hw with rfl | rfl <;> exact List.all_eq_true.1 rfl
  obtain ⟨t1, d1⟩ := takeWhile_fol Lx.nameByte w r hb (hr.not _ rfl rfl rfl)
  have h46 : ¬ r.head? = some 46 := by
    intro h
    have := hr.1 46 h
    simp at this
  rcases hw with rfl | rfl
  · rw [List.cons_append] at t1 d1 ⊢
    rw [begs, if_neg (by simp), if_neg (by simp), if_neg (by simp), if_neg (by decide), d1, if_neg h46, t1]
  · rw [List.cons_append] at t1 d1 ⊢
    rw [begs, if_neg (by simp), if_neg (by simp), if_neg (by simp), if_neg (by decide), d1, if_neg h46, t1]
/-- A sign that stands between two. -/
def Mid (k : Nat) : Prop := 8 ≤ k ∧ k ≤ 17
theorem Mid.cases {k : Nat} (h : Mid k) : k = 8 ∨ k = 9 ∨ k = 10 ∨ k = 11 ∨ k = 12 ∨ k = 13 ∨ k = 14 ∨ k = 15 ∨ k = 16 ∨ k = 17 := by unfold Mid at h; omega
theorem opAt_sign (k : Nat) (h : Mid k) (r : List UInt8) : opAt ((sgn k).1.data.toList ++ r) = some (k, r) ∧ Fol ((sgn k).1.data.toList ++ r) := by
  rcases h.cases with rfl | rfl | rfl | rfl | rfl | rfl | rfl | rfl | rfl | rfl <;>
    exact ⟨by simp [opAt, sgn]; rfl, by simp [Fol, sgn, List.isPrefixOf]⟩
theorem opAt_mid {r : List UInt8} {k : Nat} {s' : List UInt8} (h : opAt r = some (k, s')) : Mid k := by
  unfold opAt at h
  rw [List.findSome?_eq_some_iff] at h
  obtain ⟨l1, a, l2, h1, h2, _⟩ := h
  have ha : a ∈ [8, 9, 10, 11, 12, 13, 14, 15, 16, 17] := by rw [h1]; simp
  split at h2
  · cases h2; unfold Mid; simp at ha; omega
  · cases h2
theorem opAt_nil : opAt [] = none := by simp [opAt, sgn]
theorem opAt_par (r : List UInt8) : opAt (41 :: r) = none := by simp [opAt, sgn]
theorem opAt_semi (r : List UInt8) : opAt (59 :: r) = none := by simp [opAt, sgn]
/-- Below which level what follows an expression must bind. -/
def rlv (op : Int) : Nat := if signed op then (sgn op.toNat).2.2.2 else 6
theorem mid_own {k : Nat} (h : Mid k) : (sgn k).2.1 ≤ 5 ∧ own (k : Int) = (sgn k).2.1 ∧ 1 ≤ (sgn k).2.1 := by
  rcases h.cases with rfl | rfl | rfl | rfl | rfl | rfl | rfl | rfl | rfl | rfl <;> simp [sgn, own, signed]
theorem op_cases {op : Int} (h1 : 1 ≤ op) (h2 : op ≤ 17) : ∃ k : Nat, op = (k : Int) ∧ (k = 1 ∨ k = 2 ∨ k = 3 ∨ k = 4 ∨ k = 5 ∨ k = 6 ∨ k = 7 ∨ k = 8 ∨ k = 9 ∨ k = 10 ∨ k = 11 ∨ k = 12 ∨ k = 13 ∨ k = 14 ∨ k = 15 ∨ k = 16 ∨ k = 17) := ⟨op.toNat, by omega, by omega⟩
theorem own_rlv {op : Int} (h1 : 1 ≤ op) (h2 : op ≤ 17) : own op ≤ rlv op ∧ 1 ≤ own op := by
  obtain ⟨k, rfl, hk⟩ := op_cases h1 h2
  rcases hk with rfl | rfl | rfl | rfl | rfl | rfl | rfl | rfl | rfl | rfl | rfl | rfl | rfl | rfl | rfl | rfl | rfl <;> simp [own, rlv, signed, sgn]
/-- The left operand of a sign takes no more than it has. -/
theorem left_ok {k : Nat} (h : Mid k) {op : Int} (h1 : 1 ≤ op) (h2 : op ≤ 17) (hl : (sgn k).2.2.1 ≤ own op) : (sgn k).2.1 < rlv op := by
  obtain ⟨j, rfl, hj⟩ := op_cases h1 h2
  rcases h.cases with rfl | rfl | rfl | rfl | rfl | rfl | rfl | rfl | rfl | rfl <;>
    (rcases hj with rfl | rfl | rfl | rfl | rfl | rfl | rfl | rfl | rfl | rfl | rfl | rfl | rfl | rfl | rfl | rfl | rfl <;> simp [own, rlv, signed, sgn] at hl ⊢)
end Px
/-- A text is read as the expression, behind which the reading goes on. -/
def Reads (e : Ex) : Prop := ∀ (m l : Nat) (r : List UInt8) (y : Rt) (z : List UInt8), l ≤ m → Fol r → (m ≤ own e.opOf → ∀ k s', opAt r = some (k, s') → (sgn k).2.1 < rlv e.opOf) → Rd l (some e.nrm) r y z → Rd l none (e.txt m ++ r) y z
theorem reads_of (e : Ex) (h1 : 1 ≤ own e.opOf) (hB : ∀ (l : Nat) (r : List UInt8) (y : Rt) (z : List UInt8), l ≤ own e.opOf → Fol r → (∀ k s', opAt r = some (k, s') → (sgn k).2.1 < rlv e.opOf) → Rd l (some e.nrm) r y z → Rd l none (e.bare ++ r) y z) : Reads e := by
  intro m l r y z hlm hf hc hR
  unfold Ex.txt atL
  by_cases hp : own e.opOf < m
  · rw [if_pos hp, List.cons_append, List.append_assoc]
    refine Rd.par (s' := e.bare ++ (41 :: r)) (by simp [begs]) (hB 1 (41 :: r) e.nrm (41 :: r) h1 (Fol.par r) (fun k s' h => ?_) (Rd.stop (fun k s' h => ?_))) hR
    · rw [opAt_par] at h; cases h
    · rw [opAt_par] at h; cases h
  · rw [if_neg hp]
    exact hB l r y z (by omega) hf (hc (by omega)) hR
theorem ok_range {e : Ex} (h : e.ok = true) : 1 ≤ e.opOf ∧ e.opOf ≤ 17 := by
  have := ok_op h
  rcases e with ⟨op, mon, name, n, ad, cap, kids, pos⟩
  simp only [Ex.ok1, Bool.and_eq_true, decide_eq_true_iff] at this
  exact this.1
theorem size_nil {s : ByteArray} (h : s.size = 0) : s.data.toList = [] := by
  apply List.eq_nil_of_length_eq_zero; simpa using h
theorem reads_any (e : Ex) : e.ok = true → Reads e := by
  induction e using Ex.ind with
  | h op mon name n ad cap kids pos ih =>
    intro hok
    obtain ⟨h1, hks⟩ := Ex.ok_mk hok
    simp only [Ex.ok1, Bool.and_eq_true, decide_eq_true_iff] at h1
    obtain ⟨⟨ho1, ho2⟩, ⟨⟨hfm, hfn⟩, hnum⟩, hkl⟩ := h1
    have hkl := eq_of_beq hkl
    refine reads_of _ (own_rlv ho1 ho2).2 ?_
    intro l r y z hl hf hc hR
    simp only [Ex.opOf] at hl hc
    rw [Ex.nrm] at hR
    rw [Ex.bare_mk]
    obtain ⟨k, rfl, hk⟩ := op_cases ho1 ho2
    rw [Int.toNat_natCast] at hfm hfn hnum hkl
    by_cases h8 : 8 ≤ k
    · have hM : Mid k := ⟨h8, by omega⟩
      obtain ⟨m1, m2, m3⟩ := mid_own hM
      have hz : n = 0 ∧ mon.data.toList = [] ∧ name.data.toList = [] ∧ kids.length = 2 := by
        rcases hM.cases with rfl | rfl | rfl | rfl | rfl | rfl | rfl | rfl | rfl | rfl <;>
          (simp [fitsName, fitsNum, exNames, exNumber, exKids] at hfm hfn hnum hkl; exact ⟨hnum, size_nil (by simpa using hfm), size_nil (by simpa using hfn), by omega⟩)
      obtain ⟨rfl, e1, e2, e3⟩ := hz
      match kids, e3 with
      | [a, b], _ =>
        rw [e1, e2] at hR
        simp only [Ex.nrmL] at hR
        have hs : sgnOf (k : Int) = sgn k := by unfold sgnOf signed; rw [if_pos (by simp; omega)]; simp
        have eb : bareOf (k : Int) mon name 0 ([a, b].map fun e => (e.opOf, e.bare)) = a.txt (sgn k).2.2.1 ++ ((sgn k).1.data.toList ++ b.txt (sgn k).2.2.2) := by
          unfold bareOf
          rw [if_neg (by omega), if_neg (by omega), if_neg (by omega), if_neg (by omega), if_neg (by omega), if_neg (by omega), kid_at _ 0 _ (by simp), kid_at _ 1 _ (by simp), hs]
          rfl
        rw [eb, List.append_assoc, List.append_assoc]
        obtain ⟨s1, s2⟩ := opAt_sign k hM (b.txt (sgn k).2.2.2 ++ r)
        have ra := ok_range (hks a (by simp))
        have rb := ok_range (hks b (by simp))
        have hrl : rlv (k : Int) = (sgn k).2.2.2 := by unfold rlv signed; rw [if_pos (by simp; omega)]; simp
        rw [hrl] at hc
        refine ih a (by simp) (hks a (by simp)) _ l _ y z ?_ s2 ?_ (Rd.bin s1 (by omega) (ih b (by simp) (hks b (by simp)) _ _ r b.nrm r (Nat.le_refl _) hf ?_ (Rd.stop hc)) hR)
        · rcases hM.cases with rfl | rfl | rfl | rfl | rfl | rfl | rfl | rfl | rfl | rfl <;> simp [sgn, own, signed] at hl ⊢ <;> omega
        · intro ho k' s' h'
          rw [s1] at h'; cases h'
          exact left_ok hM ra.1 ra.2 ho
        · intro ho k' s' h'
          have := hc k' s' h'
          have := (own_rlv rb.1 rb.2).1
          omega
    · have hk7 : k = 1 ∨ k = 2 ∨ k = 3 ∨ k = 4 ∨ k = 5 ∨ k = 6 ∨ k = 7 := by omega
      clear hk h8
      rcases hk7 with rfl | rfl | rfl | rfl | rfl | rfl | rfl
      · simp [fitsName, fitsNum, exNames, exNumber, exKids] at hfm hfn hnum hkl
        subst hkl
        rw [size_nil (s := mon) (by simpa using hfm), size_nil (s := name) (by simpa using hfn)] at hR
        obtain ⟨d1, d2⟩ := itoa_digit n (by omega)
        refine Rd.atom (t := .mk 1 [] [] (Lib.itoa n) []) (s' := r) ?_ (by simpa [Ex.nrmL] using hR)
        simpa [bareOf] using start_num (Lib.itoa n) r d1 d2 hf
      · simp [fitsName, fitsNum, exNames, exNumber, exKids] at hfm hfn hnum hkl
        subst hkl
        rw [size_nil (s := mon) (by simpa using hfm), size_nil (s := name) (by simpa using hfn)] at hR
        refine Rd.atom (t := .mk 2 [] [] zr []) (s' := r) ?_ (by simpa [Ex.nrmL, hnum, zr] using hR)
        simpa [bareOf] using start_word [116, 114, 117, 101] r (.inl rfl) hf
      · simp [fitsName, fitsNum, exNames, exNumber, exKids] at hfm hfn hnum hkl
        subst hkl
        rw [size_nil (s := mon) (by simpa using hfm), size_nil (s := name) (by simpa using hfn)] at hR
        refine Rd.atom (t := .mk 3 [] [] zr []) (s' := r) ?_ (by simpa [Ex.nrmL, hnum, zr] using hR)
        simpa [bareOf] using start_word [102, 97, 108, 115, 101] r (.inr rfl) hf
      · simp [fitsName, fitsNum, exNames, exNumber, exKids] at hfm hfn hnum hkl
        subst hkl
        refine Rd.atom (t := .mk 4 mon.data.toList name.data.toList zr []) (s' := r) ?_ (by simpa [Ex.nrmL, hnum, zr] using hR)
        simpa [bareOf] using start_var mon name r hfm hfn hf
      · simp [fitsName, fitsNum, exNames, exNumber, exKids] at hfm hfn hnum hkl
        rw [size_nil (s := mon) (by simpa using hfm), size_nil (s := name) (by simpa using hfn)] at hR
        match kids, hkl with
        | [a], _ =>
          have ra := ok_range (hks a (by simp))
          refine Rd.pre (op := 5) (ds := zr) (lv := 3) (s' := a.txt 3 ++ r) ?_ (ih a (by simp) (hks a (by simp)) 3 3 r a.nrm r (Nat.le_refl _) hf ?_ (Rd.stop fun k s' h => ?_)) (by simpa [Ex.nrmL, hnum, zr] using hR)
          · have := kid_at [a] 0 3 (by simp)
            simp at this
            simp [bareOf, sgnOf, signed, sgn, this, begs]
          · intro ho k s' h
            have := hc k s' h
            have := (own_rlv ra.1 ra.2).1
            simp [rlv, signed, sgn] at *
            omega
          · have := hc k s' h
            simpa [rlv, signed, sgn] using this
      · simp [fitsName, fitsNum, exNames, exNumber, exKids] at hfm hfn hnum hkl
        rw [size_nil (s := mon) (by simpa using hfm), size_nil (s := name) (by simpa using hfn)] at hR
        match kids, hkl with
        | [a], _ =>
          have ra := ok_range (hks a (by simp))
          refine Rd.pre (op := 6) (ds := zr) (lv := 6) (s' := a.txt 6 ++ r) ?_ (ih a (by simp) (hks a (by simp)) 6 6 r a.nrm r (Nat.le_refl _) hf ?_ (Rd.stop fun k s' h => ?_)) (by simpa [Ex.nrmL, hnum, zr] using hR)
          · have := kid_at [a] 0 6 (by simp)
            simp at this
            simp [bareOf, sgnOf, signed, sgn, this, begs]
          · intro ho k s' h
            have := (mid_own (opAt_mid h)).1
            have := (own_rlv ra.1 ra.2).1
            omega
          · have := (mid_own (opAt_mid h)).1
            omega
      · simp [fitsName, fitsNum, exNames, exNumber, exKids] at hfm hfn hnum hkl
        rw [size_nil (s := mon) (by simpa using hfm), size_nil (s := name) (by simpa using hfn)] at hR
        obtain ⟨d1, d2⟩ := itoa_digit n (by omega)
        match kids, hkl with
        | [a], _ =>
          have ra := ok_range (hks a (by simp))
          refine Rd.pre (op := 7) (ds := Lib.itoa n) (lv := 6) (s' := a.txt 6 ++ r) ?_ (ih a (by simp) (hks a (by simp)) 6 6 r a.nrm r (Nat.le_refl _) hf ?_ (Rd.stop fun k s' h => ?_)) (by simpa [Ex.nrmL] using hR)
          · have := kid_at [a] 0 6 (by simp)
            simp at this
            have h2 := start_mul (Lib.itoa n) (a.txt 6 ++ r) d1 d2
            simp [bareOf, sgnOf, signed, sgn, this]
            simpa using h2
          · intro ho k s' h
            have := (mid_own (opAt_mid h)).1
            have := (own_rlv ra.1 ra.2).1
            omega
          · have := (mid_own (opAt_mid h)).1
            omega
/-- An expression's text, and what follows it, tell both. -/
theorem txt_follow {a b : Ex} (ha : a.ok = true) (hb : b.ok = true) {r r' : List UInt8} (hf : Fol r) (hf' : Fol r') (ho : opAt r = none) (ho' : opAt r' = none) (h : a.txt 1 ++ r = b.txt 1 ++ r') : a.same b = true ∧ r = r' := by
  have h1 : Rd 1 none (a.txt 1 ++ r) a.nrm r := reads_any a ha 1 1 r a.nrm r (Nat.le_refl _) hf (fun _ k s' hk => by rw [ho] at hk; cases hk) (Rd.stop fun k s' hk => by rw [ho] at hk; cases hk)
  have h2 : Rd 1 none (b.txt 1 ++ r') b.nrm r' := reads_any b hb 1 1 r' b.nrm r' (Nat.le_refl _) hf' (fun _ k s' hk => by rw [ho'] at hk; cases hk) (Rd.stop fun k s' hk => by rw [ho'] at hk; cases hk)
  rw [← h] at h2
  obtain ⟨e1, e2⟩ := h1.det h2
  exact ⟨(same_nrm a b).2 e1, e2⟩
theorem txt_same (a b : Ex) (h : a.same b = true) : a.bare = b.bare ∧ a.opOf = b.opOf := by
  induction a using Ex.ind generalizing b with
  | h op mon name n ad cap kids pos ih =>
    rcases b with ⟨op', mon', name', n', ad', cap', kids', pos'⟩
    rw [Ex.same] at h
    simp only [Bool.and_eq_true, toList_beq] at h
    obtain ⟨⟨⟨⟨h1, h2⟩, h3⟩, h4⟩, h5⟩ := h
    have h1 := eq_of_beq h1
    have h4 := eq_of_beq h4
    subst h1 h4
    refine ⟨?_, rfl⟩
    have hk : ∀ (ks ks' : List Ex), (∀ x ∈ ks, ∀ y, x.same y = true → x.bare = y.bare ∧ x.opOf = y.opOf) → Ex.sameL ks ks' = true → (ks.map fun e => (e.opOf, e.bare)) = ks'.map fun e => (e.opOf, e.bare) := by
      intro ks
      induction ks with
      | nil => intro ks' _ h; cases ks' with
        | nil => rfl
        | cons b ks' => simp [Ex.sameL] at h
      | cons a ks ih2 =>
        intro ks' hx h
        cases ks' with
        | nil => simp [Ex.sameL] at h
        | cons b ks' =>
          simp only [Ex.sameL, Bool.and_eq_true] at h
          obtain ⟨e1, e2⟩ := hx a (by simp) b h.1
          simp only [List.map_cons, e1, e2]
          rw [ih2 ks' (fun x hxm => hx x (by simp [hxm])) h.2]
    rw [Ex.bare_mk, Ex.bare_mk, hk kids kids' (fun x hx y hy => ih x hx y hy) h5]
    unfold bareOf
    rw [h2, h3]
theorem txt_inj {a b : Ex} (ha : a.ok = true) (hb : b.ok = true) : a.same b = decide (a.txt 1 = b.txt 1) := by
  rw [Bool.eq_iff_iff, decide_eq_true_iff]
  constructor
  · intro h
    obtain ⟨e1, e2⟩ := txt_same a b h
    unfold Ex.txt
    rw [e1, e2]
  · intro h
    exact (txt_follow ha hb Fol.nil Fol.nil opAt_nil opAt_nil (by simpa using h)).1
end Go.Proofs.YtnljhlmopjgogaaDoor
