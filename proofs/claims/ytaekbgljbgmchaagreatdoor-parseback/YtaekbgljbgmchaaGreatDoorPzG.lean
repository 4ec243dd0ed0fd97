/-
  within of package parse, of expressions; what is kept of memory.
-/
import Derived.Test.YtaekbgljbgmchaaGreatDoorPzP
namespace Go.Proofs.YtaekbgljbgmchaaGreatDoor
open Go.RowKit
open Lx (Out)
open Pz
/-- The blocks of which Q tells stand. -/
structure Kq (Q : Nat → Bool) (w w' : World) : Prop where
  size : w.heap.size ≤ w'.heap.size
  block : ∀ k, Q k = true → k < w.heap.size → w'.heap[k]? = w.heap[k]?
theorem Kq.refl (Q : Nat → Bool) (w : World) : Kq Q w w := ⟨Nat.le_refl _, fun _ _ _ => rfl⟩
theorem Kq.trans {Q : Nat → Bool} {u v w : World} (h : Kq Q u v) (k : Kq Q v w) : Kq Q u w := ⟨Nat.le_trans h.size k.size, fun i hq hi => (k.block i hq (Nat.lt_of_lt_of_le hi h.size)).trans (h.block i hq hi)⟩
theorem Kq.al {Q : Nat → Bool} {u v : World} (h : Kq Q u v) (o : Obj) : Kq Q u (v.alloc o) := h.trans ⟨by simp, fun k _ hk => (bel_al v o).block k hk⟩
theorem Kq.drew {Q : Nat → Bool} {u v : World} (h : Kq Q u v) : Kq Q u v.drew := ⟨h.size, h.block⟩
theorem Kq.set {Q : Nat → Bool} {u v : World} (h : Kq Q u v) {p : Addr} (hp : Q p.block = false ∨ u.heap.size ≤ p.block) (x : Value) : Kq Q u (v.setCell p x) := by
  refine ⟨by simpa using h.size, fun k hq hk => ?_⟩
  rw [← h.block k hq hk]
  have hne : k ≠ p.block := by
    rcases hp with hp | hp
    · rintro rfl; rw [hq] at hp; cases hp
    · omega
  simp [World.setCell, Array.getElem?_modify, hne.symm]
theorem Kq.kp {Q : Nat → Bool} {b : Nat} {u v w : World} (h : Kq Q u v) (k : Kp b v w) (hb : Q b = false) : Kq Q u w := h.trans ⟨k.size, fun i hq hi => k.block i hi (by rintro rfl; rw [hq] at hb; cases hb)⟩
theorem Ex.By.kq {Q : Nat → Bool} {w w' : World} {e : Ex} (he : e.By Q w) (h : Kq Q w w') : e.By Q w' := he.step h.block h.size
theorem Ex.By.mono {m n : Nat} {w : World} {e : Ex} (he : e.By (from_ n) w) (h : m ≤ n) : e.By (from_ m) w := he.weak fun _ hk _ => from_iff.2 (Nat.le_trans h (from_iff.1 hk))
theorem from_not {n k : Nat} (h : k < n) : from_ n k = false := by simp [from_]; omega
theorem set_box {w : World} {k j i : Nat} {o : Obj} (h : w.heap[k]? = some o) (hne : k ≠ j) (x : Value) : (w.setCell ⟨j, i, none⟩ x).heap[k]? = some o := by
  rw [← h]; simp [World.setCell, Array.getElem?_modify, hne.symm]
theorem Pz.At.more {b g cap : Nat} {toks : List Out} {s : S} {w : World} (h : At b g cap toks s w) {o : Int} (_ : s.opn = o) : At b g cap toks ⟨s.rest, o + 1, s.err, s.pos⟩ (w.setCell ⟨b, 2, none⟩ (.int .i64 (o + 1))) := by
  refine h.keep ((Kp.refl b w).set (p := ⟨b, 2, none⟩) (.inl rfl) _) ?_ (h.ok.opn _)
  rw [setB h.box]; simp
theorem Pz.At.less {b g cap : Nat} {toks : List Out} {s : S} {w : World} (h : At b g cap toks s w) {o : Int} (_ : s.opn = o) : At b g cap toks ⟨s.rest, o - 1, s.err, s.pos⟩ (w.setCell ⟨b, 2, none⟩ (.int .i64 (o - 1))) := by
  refine h.keep ((Kp.refl b w).set (p := ⟨b, 2, none⟩) (.inl rfl) _) ?_ (h.ok.opn _)
  rw [setB h.box]; simp
set_option maxRecDepth 100000 in
set_option maxHeartbeats 2000000 in
theorem within_neg (rd : S → Ex × S) (sign : ByteArray) (b g cap : Nat) (toks : List Out) (s : S) (w : World) (h : At b g cap toks s w) (hop : 0 ≤ s.opn ∧ s.opn ≤ 200000) (ho : (rd (s.enter sign)).2.opn = s.opn + 1)
    (hF : ∀ W, At b g cap toks (s.enter sign) W → Kp b w W → Calls Tryz.prog 150 #[.pointer (some ⟨b, 0, none⟩)] W (ExBack b g cap toks (rd (s.enter sign)) W)) :
    Calls Tryz.prog 172 #[.pointer (some ⟨b, 0, none⟩), .string sign, .func (.func 150) #[.pointer (some ⟨b, 0, none⟩)] #[]] w (ExBack b g cap toks (within sign rd s) w) := by
  have hb := h.lt
  have hgl := h.glt
  have A := h.al (.cells #[.int .i64 0, .string ⟨#[]⟩, .string ⟨#[]⟩, .int .i64 0, .slice none 0 0, .int .i64 0] 25)
  have bR := newB w #[.int .i64 0, .string ⟨#[]⟩, .string ⟨#[]⟩, .int .i64 0, .slice none 0 0, .int .i64 0] 25
  have hne : w.heap.size ≠ b := by omega
  have hng : w.heap.size ≠ g := by omega
  have K : Kp b w (w.alloc (.cells #[.int .i64 0, .string ⟨#[]⟩, .string ⟨#[]⟩, .int .i64 0, .slice none 0 0, .int .i64 0] 25)) := (Kp.refl b w).al _
  have h1 := sees_any sign b g cap toks s _ A
  obtain ⟨o2, ho2⟩ : ∃ o2, (rd (s.enter sign)).2.opn = o2 := ⟨_, rfl⟩
  have HO2 := hid ho2
  have ho3 : 1 ≤ o2 ∧ o2 ≤ 200001 := by omega
  have HL : Hid ((within sign rd s).2 = ⟨(rd (s.enter sign)).2.rest, o2 - 1, (rd (s.enter sign)).2.err, (rd (s.enter sign)).2.pos⟩) := by show _ = _; rw [← ho2]; rfl
  clear ho ho2
  cases hq : s.sees sign
  · have HO := hid (want_opn s sign)
    have HE : Hid (s.enter sign = ⟨(s.want sign).rest, s.opn + 1, (s.want sign).err, (s.want sign).pos⟩) := by show _ = _; unfold S.enter S.more; rw [hq]; simp only [Bool.false_and, Bool.false_eq_true, if_false]; rw [want_opn]
    rw [hq] at h1
    go_enter Tryz.func172, Tryz.ntmps172
    go_wp2_with (first
      | (go_at_call 69; refine h1.mono ?_; rintro r w1 ⟨rfl, b1⟩; have A := A.below b1; have K := K.tr b1; have bR := bel_box bR b1; obtain ⟨-, -, c2, -, -, cf⟩ := A.cells)
      | (go_at_call 156; (with_reducible refine (want_any sign b g cap toks _ _ A).mono ?_); rintro r w1 ⟨rfl, A, k⟩; have K := K.trans k; have bR := k.box bR hne; obtain ⟨-, -, c2, -, -, cf⟩ := A.cells; rw [HO.out] at c2; have A : At b g cap toks (s.enter sign) _ := (by rw [HE.out]; exact A.more HO.out); have K := K.set (p := ⟨b, 2, none⟩) (.inl rfl) (.int .i64 (s.opn + 1)); have bR := set_box (j := b) (i := 2) bR hne (.int .i64 (s.opn + 1)); have hz1 := ltB bR; have hzb := A.lt)
      | (go_at_call 150; (with_reducible refine (hF _ A K).mono ?_); rintro r w3 ⟨op, mon, name, n, ad, cp, kids, pos, rfl, hclr, hBy, A, k⟩; have K := K.trans k; have bR := k.box bR hne; obtain ⟨-, -, c2, -, -, cf⟩ := A.cells; rw [HO2.out] at c2; obtain ⟨x0, x1, x2, x3, x4, x5, xf, xl⟩ := six bR; have hb3 := A.lt))
    refine bodyPost_ret (v := .agg #[.int .i64 op, .string mon, .string name, .int .i64 n, .slice ad kids.length cp, .int .i64 pos]) ?_ rfl ⟨op, mon, name, n, ad, cp, kids, pos, rfl, hclr, ?_, ?_, ?_⟩
    · simp [results, Tryz.results172, go_sem, x0, x1, x2, x3, x4, x5, xl]
    · refine (Ex.By.kq hBy ?_).mono (Nat.le_of_lt hz1)
      repeat (first | with_reducible refine Kq.set ?_ (.inl (from_not hz1)) _ | with_reducible refine Kq.set ?_ (.inl (from_not hzb)) _ | with_reducible refine Kq.al ?_ _)
      exact Kq.refl _ _
    · repeat (first | with_reducible refine Pz.At.put ?_ hne hng _ | with_reducible refine Pz.At.al ?_ _)
      rw [HL.out]
      exact A.less HO2.out
    · repeat (first | with_reducible refine Kp.set ?_ (.inr (Nat.le_refl _)) _ | with_reducible refine Kp.set ?_ (.inl rfl) _ | with_reducible refine Kp.al ?_ _)
      exact K.set (p := ⟨b, 2, none⟩) (.inl rfl) _
  · cases hr : (s.opn == 64)
    · have HO := hid (want_opn s sign)
      have HE : Hid (s.enter sign = ⟨(s.want sign).rest, s.opn + 1, (s.want sign).err, (s.want sign).pos⟩) := by show _ = _; unfold S.enter S.more; rw [hq, hr]; simp only [Bool.and_false, Bool.false_eq_true, if_false]; rw [want_opn]
      rw [hq] at h1
      go_enter Tryz.func172, Tryz.ntmps172
      go_wp2_with (first
        | (go_at_call 69; refine h1.mono ?_; rintro r w1 ⟨rfl, b1⟩; have A := A.below b1; have K := K.tr b1; have bR := bel_box bR b1; obtain ⟨-, -, c2, -, -, cf⟩ := A.cells)
        | (go_at_call 156; (with_reducible refine (want_any sign b g cap toks _ _ A).mono ?_); rintro r w1 ⟨rfl, A, k⟩; have K := K.trans k; have bR := k.box bR hne; obtain ⟨-, -, c2, -, -, cf⟩ := A.cells; rw [HO.out] at c2; have A : At b g cap toks (s.enter sign) _ := (by rw [HE.out]; exact A.more HO.out); have K := K.set (p := ⟨b, 2, none⟩) (.inl rfl) (.int .i64 (s.opn + 1)); have bR := set_box (j := b) (i := 2) bR hne (.int .i64 (s.opn + 1)); have hz1 := ltB bR; have hzb := A.lt)
        | (go_at_call 150; (with_reducible refine (hF _ A K).mono ?_); rintro r w3 ⟨op, mon, name, n, ad, cp, kids, pos, rfl, hclr, hBy, A, k⟩; have K := K.trans k; have bR := k.box bR hne; obtain ⟨-, -, c2, -, -, cf⟩ := A.cells; rw [HO2.out] at c2; obtain ⟨x0, x1, x2, x3, x4, x5, xf, xl⟩ := six bR; have hb3 := A.lt))
      refine bodyPost_ret (v := .agg #[.int .i64 op, .string mon, .string name, .int .i64 n, .slice ad kids.length cp, .int .i64 pos]) ?_ rfl ⟨op, mon, name, n, ad, cp, kids, pos, rfl, hclr, ?_, ?_, ?_⟩
      · simp [results, Tryz.results172, go_sem, x0, x1, x2, x3, x4, x5, xl]
      · refine (Ex.By.kq hBy ?_).mono (Nat.le_of_lt hz1)
        repeat (first | with_reducible refine Kq.set ?_ (.inl (from_not hz1)) _ | with_reducible refine Kq.set ?_ (.inl (from_not hzb)) _ | with_reducible refine Kq.al ?_ _)
        exact Kq.refl _ _
      · repeat (first | with_reducible refine Pz.At.put ?_ hne hng _ | with_reducible refine Pz.At.al ?_ _)
        rw [HL.out]
        exact A.less HO2.out
      · repeat (first | with_reducible refine Kp.set ?_ (.inr (Nat.le_refl _)) _ | with_reducible refine Kp.set ?_ (.inl rfl) _ | with_reducible refine Kp.al ?_ _)
        exact K.set (p := ⟨b, 2, none⟩) (.inl rfl) _
    · have HO : Hid (((s.refuse 41).want sign).opn = s.opn) := by show _ = _; rw [want_opn]; exact fail_opn _ _ _
      have HE : Hid (s.enter sign = ⟨((s.refuse 41).want sign).rest, s.opn + 1, ((s.refuse 41).want sign).err, ((s.refuse 41).want sign).pos⟩) := by show _ = _; unfold S.enter S.more; rw [hq, hr]; simp only [Bool.and_true, if_true]; rw [HO.out]
      rw [hq] at h1
      go_enter Tryz.func172, Tryz.ntmps172
      go_wp2_with (first
        | (go_at_call 69; refine h1.mono ?_; rintro r w1 ⟨rfl, b1⟩; have A := A.below b1; have K := K.tr b1; have bR := bel_box bR b1; obtain ⟨-, -, c2, -, -, cf⟩ := A.cells)
        | (go_at_call 63; (with_reducible refine (refuse_any 41 b g cap toks _ _ A).mono ?_); rintro r w1 ⟨rfl, A, k⟩; have K := K.trans k; have bR := k.box bR hne)
        | (go_at_call 156; (with_reducible refine (want_any sign b g cap toks _ _ A).mono ?_); rintro r w1 ⟨rfl, A, k⟩; have K := K.trans k; have bR := k.box bR hne; obtain ⟨-, -, c2, -, -, cf⟩ := A.cells; rw [HO.out] at c2; have A : At b g cap toks (s.enter sign) _ := (by rw [HE.out]; exact A.more HO.out); have K := K.set (p := ⟨b, 2, none⟩) (.inl rfl) (.int .i64 (s.opn + 1)); have bR := set_box (j := b) (i := 2) bR hne (.int .i64 (s.opn + 1)); have hz1 := ltB bR; have hzb := A.lt)
        | (go_at_call 150; (with_reducible refine (hF _ A K).mono ?_); rintro r w3 ⟨op, mon, name, n, ad, cp, kids, pos, rfl, hclr, hBy, A, k⟩; have K := K.trans k; have bR := k.box bR hne; obtain ⟨-, -, c2, -, -, cf⟩ := A.cells; rw [HO2.out] at c2; obtain ⟨x0, x1, x2, x3, x4, x5, xf, xl⟩ := six bR; have hb3 := A.lt))
      refine bodyPost_ret (v := .agg #[.int .i64 op, .string mon, .string name, .int .i64 n, .slice ad kids.length cp, .int .i64 pos]) ?_ rfl ⟨op, mon, name, n, ad, cp, kids, pos, rfl, hclr, ?_, ?_, ?_⟩
      · simp [results, Tryz.results172, go_sem, x0, x1, x2, x3, x4, x5, xl]
      · refine (Ex.By.kq hBy ?_).mono (Nat.le_of_lt hz1)
        repeat (first | with_reducible refine Kq.set ?_ (.inl (from_not hz1)) _ | with_reducible refine Kq.set ?_ (.inl (from_not hzb)) _ | with_reducible refine Kq.al ?_ _)
        exact Kq.refl _ _
      · repeat (first | with_reducible refine Pz.At.put ?_ hne hng _ | with_reducible refine Pz.At.al ?_ _)
        rw [HL.out]
        exact A.less HO2.out
      · repeat (first | with_reducible refine Kp.set ?_ (.inr (Nat.le_refl _)) _ | with_reducible refine Kp.set ?_ (.inl rfl) _ | with_reducible refine Kp.al ?_ _)
        exact K.set (p := ⟨b, 2, none⟩) (.inl rfl) _
set_option maxRecDepth 100000 in
set_option maxHeartbeats 2000000 in
theorem within_term (rd : S → Ex × S) (sign : ByteArray) (b g cap : Nat) (toks : List Out) (s : S) (w : World) (h : At b g cap toks s w) (hop : 0 ≤ s.opn ∧ s.opn ≤ 200000) (ho : (rd (s.enter sign)).2.opn = s.opn + 1)
    (hF : ∀ W, At b g cap toks (s.enter sign) W → Kp b w W → Calls Tryz.prog 151 #[.pointer (some ⟨b, 0, none⟩)] W (ExBack b g cap toks (rd (s.enter sign)) W)) :
    Calls Tryz.prog 172 #[.pointer (some ⟨b, 0, none⟩), .string sign, .func (.func 151) #[.pointer (some ⟨b, 0, none⟩)] #[]] w (ExBack b g cap toks (within sign rd s) w) := by
  have hb := h.lt
  have hgl := h.glt
  have A := h.al (.cells #[.int .i64 0, .string ⟨#[]⟩, .string ⟨#[]⟩, .int .i64 0, .slice none 0 0, .int .i64 0] 25)
  have bR := newB w #[.int .i64 0, .string ⟨#[]⟩, .string ⟨#[]⟩, .int .i64 0, .slice none 0 0, .int .i64 0] 25
  have hne : w.heap.size ≠ b := by omega
  have hng : w.heap.size ≠ g := by omega
  have K : Kp b w (w.alloc (.cells #[.int .i64 0, .string ⟨#[]⟩, .string ⟨#[]⟩, .int .i64 0, .slice none 0 0, .int .i64 0] 25)) := (Kp.refl b w).al _
  have h1 := sees_any sign b g cap toks s _ A
  obtain ⟨o2, ho2⟩ : ∃ o2, (rd (s.enter sign)).2.opn = o2 := ⟨_, rfl⟩
  have HO2 := hid ho2
  have ho3 : 1 ≤ o2 ∧ o2 ≤ 200001 := by omega
  have HL : Hid ((within sign rd s).2 = ⟨(rd (s.enter sign)).2.rest, o2 - 1, (rd (s.enter sign)).2.err, (rd (s.enter sign)).2.pos⟩) := by show _ = _; rw [← ho2]; rfl
  clear ho ho2
  cases hq : s.sees sign
  · have HO := hid (want_opn s sign)
    have HE : Hid (s.enter sign = ⟨(s.want sign).rest, s.opn + 1, (s.want sign).err, (s.want sign).pos⟩) := by show _ = _; unfold S.enter S.more; rw [hq]; simp only [Bool.false_and, Bool.false_eq_true, if_false]; rw [want_opn]
    rw [hq] at h1
    go_enter Tryz.func172, Tryz.ntmps172
    go_wp2_with (first
      | (go_at_call 69; refine h1.mono ?_; rintro r w1 ⟨rfl, b1⟩; have A := A.below b1; have K := K.tr b1; have bR := bel_box bR b1; obtain ⟨-, -, c2, -, -, cf⟩ := A.cells)
      | (go_at_call 156; (with_reducible refine (want_any sign b g cap toks _ _ A).mono ?_); rintro r w1 ⟨rfl, A, k⟩; have K := K.trans k; have bR := k.box bR hne; obtain ⟨-, -, c2, -, -, cf⟩ := A.cells; rw [HO.out] at c2; have A : At b g cap toks (s.enter sign) _ := (by rw [HE.out]; exact A.more HO.out); have K := K.set (p := ⟨b, 2, none⟩) (.inl rfl) (.int .i64 (s.opn + 1)); have bR := set_box (j := b) (i := 2) bR hne (.int .i64 (s.opn + 1)); have hz1 := ltB bR; have hzb := A.lt)
      | (go_at_call 151; (with_reducible refine (hF _ A K).mono ?_); rintro r w3 ⟨op, mon, name, n, ad, cp, kids, pos, rfl, hclr, hBy, A, k⟩; have K := K.trans k; have bR := k.box bR hne; obtain ⟨-, -, c2, -, -, cf⟩ := A.cells; rw [HO2.out] at c2; obtain ⟨x0, x1, x2, x3, x4, x5, xf, xl⟩ := six bR; have hb3 := A.lt))
    refine bodyPost_ret (v := .agg #[.int .i64 op, .string mon, .string name, .int .i64 n, .slice ad kids.length cp, .int .i64 pos]) ?_ rfl ⟨op, mon, name, n, ad, cp, kids, pos, rfl, hclr, ?_, ?_, ?_⟩
    · simp [results, Tryz.results172, go_sem, x0, x1, x2, x3, x4, x5, xl]
    · refine (Ex.By.kq hBy ?_).mono (Nat.le_of_lt hz1)
      repeat (first | with_reducible refine Kq.set ?_ (.inl (from_not hz1)) _ | with_reducible refine Kq.set ?_ (.inl (from_not hzb)) _ | with_reducible refine Kq.al ?_ _)
      exact Kq.refl _ _
    · repeat (first | with_reducible refine Pz.At.put ?_ hne hng _ | with_reducible refine Pz.At.al ?_ _)
      rw [HL.out]
      exact A.less HO2.out
    · repeat (first | with_reducible refine Kp.set ?_ (.inr (Nat.le_refl _)) _ | with_reducible refine Kp.set ?_ (.inl rfl) _ | with_reducible refine Kp.al ?_ _)
      exact K.set (p := ⟨b, 2, none⟩) (.inl rfl) _
  · cases hr : (s.opn == 64)
    · have HO := hid (want_opn s sign)
      have HE : Hid (s.enter sign = ⟨(s.want sign).rest, s.opn + 1, (s.want sign).err, (s.want sign).pos⟩) := by show _ = _; unfold S.enter S.more; rw [hq, hr]; simp only [Bool.and_false, Bool.false_eq_true, if_false]; rw [want_opn]
      rw [hq] at h1
      go_enter Tryz.func172, Tryz.ntmps172
      go_wp2_with (first
        | (go_at_call 69; refine h1.mono ?_; rintro r w1 ⟨rfl, b1⟩; have A := A.below b1; have K := K.tr b1; have bR := bel_box bR b1; obtain ⟨-, -, c2, -, -, cf⟩ := A.cells)
        | (go_at_call 156; (with_reducible refine (want_any sign b g cap toks _ _ A).mono ?_); rintro r w1 ⟨rfl, A, k⟩; have K := K.trans k; have bR := k.box bR hne; obtain ⟨-, -, c2, -, -, cf⟩ := A.cells; rw [HO.out] at c2; have A : At b g cap toks (s.enter sign) _ := (by rw [HE.out]; exact A.more HO.out); have K := K.set (p := ⟨b, 2, none⟩) (.inl rfl) (.int .i64 (s.opn + 1)); have bR := set_box (j := b) (i := 2) bR hne (.int .i64 (s.opn + 1)); have hz1 := ltB bR; have hzb := A.lt)
        | (go_at_call 151; (with_reducible refine (hF _ A K).mono ?_); rintro r w3 ⟨op, mon, name, n, ad, cp, kids, pos, rfl, hclr, hBy, A, k⟩; have K := K.trans k; have bR := k.box bR hne; obtain ⟨-, -, c2, -, -, cf⟩ := A.cells; rw [HO2.out] at c2; obtain ⟨x0, x1, x2, x3, x4, x5, xf, xl⟩ := six bR; have hb3 := A.lt))
      refine bodyPost_ret (v := .agg #[.int .i64 op, .string mon, .string name, .int .i64 n, .slice ad kids.length cp, .int .i64 pos]) ?_ rfl ⟨op, mon, name, n, ad, cp, kids, pos, rfl, hclr, ?_, ?_, ?_⟩
      · simp [results, Tryz.results172, go_sem, x0, x1, x2, x3, x4, x5, xl]
      · refine (Ex.By.kq hBy ?_).mono (Nat.le_of_lt hz1)
        repeat (first | with_reducible refine Kq.set ?_ (.inl (from_not hz1)) _ | with_reducible refine Kq.set ?_ (.inl (from_not hzb)) _ | with_reducible refine Kq.al ?_ _)
        exact Kq.refl _ _
      · repeat (first | with_reducible refine Pz.At.put ?_ hne hng _ | with_reducible refine Pz.At.al ?_ _)
        rw [HL.out]
        exact A.less HO2.out
      · repeat (first | with_reducible refine Kp.set ?_ (.inr (Nat.le_refl _)) _ | with_reducible refine Kp.set ?_ (.inl rfl) _ | with_reducible refine Kp.al ?_ _)
        exact K.set (p := ⟨b, 2, none⟩) (.inl rfl) _
    · have HO : Hid (((s.refuse 41).want sign).opn = s.opn) := by show _ = _; rw [want_opn]; exact fail_opn _ _ _
      have HE : Hid (s.enter sign = ⟨((s.refuse 41).want sign).rest, s.opn + 1, ((s.refuse 41).want sign).err, ((s.refuse 41).want sign).pos⟩) := by show _ = _; unfold S.enter S.more; rw [hq, hr]; simp only [Bool.and_true, if_true]; rw [HO.out]
      rw [hq] at h1
      go_enter Tryz.func172, Tryz.ntmps172
      go_wp2_with (first
        | (go_at_call 69; refine h1.mono ?_; rintro r w1 ⟨rfl, b1⟩; have A := A.below b1; have K := K.tr b1; have bR := bel_box bR b1; obtain ⟨-, -, c2, -, -, cf⟩ := A.cells)
        | (go_at_call 63; (with_reducible refine (refuse_any 41 b g cap toks _ _ A).mono ?_); rintro r w1 ⟨rfl, A, k⟩; have K := K.trans k; have bR := k.box bR hne)
        | (go_at_call 156; (with_reducible refine (want_any sign b g cap toks _ _ A).mono ?_); rintro r w1 ⟨rfl, A, k⟩; have K := K.trans k; have bR := k.box bR hne; obtain ⟨-, -, c2, -, -, cf⟩ := A.cells; rw [HO.out] at c2; have A : At b g cap toks (s.enter sign) _ := (by rw [HE.out]; exact A.more HO.out); have K := K.set (p := ⟨b, 2, none⟩) (.inl rfl) (.int .i64 (s.opn + 1)); have bR := set_box (j := b) (i := 2) bR hne (.int .i64 (s.opn + 1)); have hz1 := ltB bR; have hzb := A.lt)
        | (go_at_call 151; (with_reducible refine (hF _ A K).mono ?_); rintro r w3 ⟨op, mon, name, n, ad, cp, kids, pos, rfl, hclr, hBy, A, k⟩; have K := K.trans k; have bR := k.box bR hne; obtain ⟨-, -, c2, -, -, cf⟩ := A.cells; rw [HO2.out] at c2; obtain ⟨x0, x1, x2, x3, x4, x5, xf, xl⟩ := six bR; have hb3 := A.lt))
      refine bodyPost_ret (v := .agg #[.int .i64 op, .string mon, .string name, .int .i64 n, .slice ad kids.length cp, .int .i64 pos]) ?_ rfl ⟨op, mon, name, n, ad, cp, kids, pos, rfl, hclr, ?_, ?_, ?_⟩
      · simp [results, Tryz.results172, go_sem, x0, x1, x2, x3, x4, x5, xl]
      · refine (Ex.By.kq hBy ?_).mono (Nat.le_of_lt hz1)
        repeat (first | with_reducible refine Kq.set ?_ (.inl (from_not hz1)) _ | with_reducible refine Kq.set ?_ (.inl (from_not hzb)) _ | with_reducible refine Kq.al ?_ _)
        exact Kq.refl _ _
      · repeat (first | with_reducible refine Pz.At.put ?_ hne hng _ | with_reducible refine Pz.At.al ?_ _)
        rw [HL.out]
        exact A.less HO2.out
      · repeat (first | with_reducible refine Kp.set ?_ (.inr (Nat.le_refl _)) _ | with_reducible refine Kp.set ?_ (.inl rfl) _ | with_reducible refine Kp.al ?_ _)
        exact K.set (p := ⟨b, 2, none⟩) (.inl rfl) _
set_option maxRecDepth 100000 in
set_option maxHeartbeats 2000000 in
theorem within_expr (rd : S → Ex × S) (sign : ByteArray) (b g cap : Nat) (toks : List Out) (s : S) (w : World) (h : At b g cap toks s w) (hop : 0 ≤ s.opn ∧ s.opn ≤ 200000) (ho : (rd (s.enter sign)).2.opn = s.opn + 1)
    (hF : ∀ W, At b g cap toks (s.enter sign) W → Kp b w W → Calls Tryz.prog 30 #[.pointer (some ⟨b, 0, none⟩)] W (ExBack b g cap toks (rd (s.enter sign)) W)) :
    Calls Tryz.prog 172 #[.pointer (some ⟨b, 0, none⟩), .string sign, .func (.func 30) #[.pointer (some ⟨b, 0, none⟩)] #[]] w (ExBack b g cap toks (within sign rd s) w) := by
  have hb := h.lt
  have hgl := h.glt
  have A := h.al (.cells #[.int .i64 0, .string ⟨#[]⟩, .string ⟨#[]⟩, .int .i64 0, .slice none 0 0, .int .i64 0] 25)
  have bR := newB w #[.int .i64 0, .string ⟨#[]⟩, .string ⟨#[]⟩, .int .i64 0, .slice none 0 0, .int .i64 0] 25
  have hne : w.heap.size ≠ b := by omega
  have hng : w.heap.size ≠ g := by omega
  have K : Kp b w (w.alloc (.cells #[.int .i64 0, .string ⟨#[]⟩, .string ⟨#[]⟩, .int .i64 0, .slice none 0 0, .int .i64 0] 25)) := (Kp.refl b w).al _
  have h1 := sees_any sign b g cap toks s _ A
  obtain ⟨o2, ho2⟩ : ∃ o2, (rd (s.enter sign)).2.opn = o2 := ⟨_, rfl⟩
  have HO2 := hid ho2
  have ho3 : 1 ≤ o2 ∧ o2 ≤ 200001 := by omega
  have HL : Hid ((within sign rd s).2 = ⟨(rd (s.enter sign)).2.rest, o2 - 1, (rd (s.enter sign)).2.err, (rd (s.enter sign)).2.pos⟩) := by show _ = _; rw [← ho2]; rfl
  clear ho ho2
  cases hq : s.sees sign
  · have HO := hid (want_opn s sign)
    have HE : Hid (s.enter sign = ⟨(s.want sign).rest, s.opn + 1, (s.want sign).err, (s.want sign).pos⟩) := by show _ = _; unfold S.enter S.more; rw [hq]; simp only [Bool.false_and, Bool.false_eq_true, if_false]; rw [want_opn]
    rw [hq] at h1
    go_enter Tryz.func172, Tryz.ntmps172
    go_wp2_with (first
      | (go_at_call 69; refine h1.mono ?_; rintro r w1 ⟨rfl, b1⟩; have A := A.below b1; have K := K.tr b1; have bR := bel_box bR b1; obtain ⟨-, -, c2, -, -, cf⟩ := A.cells)
      | (go_at_call 156; (with_reducible refine (want_any sign b g cap toks _ _ A).mono ?_); rintro r w1 ⟨rfl, A, k⟩; have K := K.trans k; have bR := k.box bR hne; obtain ⟨-, -, c2, -, -, cf⟩ := A.cells; rw [HO.out] at c2; have A : At b g cap toks (s.enter sign) _ := (by rw [HE.out]; exact A.more HO.out); have K := K.set (p := ⟨b, 2, none⟩) (.inl rfl) (.int .i64 (s.opn + 1)); have bR := set_box (j := b) (i := 2) bR hne (.int .i64 (s.opn + 1)); have hz1 := ltB bR; have hzb := A.lt)
      | (go_at_call 30; (with_reducible refine (hF _ A K).mono ?_); rintro r w3 ⟨op, mon, name, n, ad, cp, kids, pos, rfl, hclr, hBy, A, k⟩; have K := K.trans k; have bR := k.box bR hne; obtain ⟨-, -, c2, -, -, cf⟩ := A.cells; rw [HO2.out] at c2; obtain ⟨x0, x1, x2, x3, x4, x5, xf, xl⟩ := six bR; have hb3 := A.lt))
    refine bodyPost_ret (v := .agg #[.int .i64 op, .string mon, .string name, .int .i64 n, .slice ad kids.length cp, .int .i64 pos]) ?_ rfl ⟨op, mon, name, n, ad, cp, kids, pos, rfl, hclr, ?_, ?_, ?_⟩
    · simp [results, Tryz.results172, go_sem, x0, x1, x2, x3, x4, x5, xl]
    · refine (Ex.By.kq hBy ?_).mono (Nat.le_of_lt hz1)
      repeat (first | with_reducible refine Kq.set ?_ (.inl (from_not hz1)) _ | with_reducible refine Kq.set ?_ (.inl (from_not hzb)) _ | with_reducible refine Kq.al ?_ _)
      exact Kq.refl _ _
    · repeat (first | with_reducible refine Pz.At.put ?_ hne hng _ | with_reducible refine Pz.At.al ?_ _)
      rw [HL.out]
      exact A.less HO2.out
    · repeat (first | with_reducible refine Kp.set ?_ (.inr (Nat.le_refl _)) _ | with_reducible refine Kp.set ?_ (.inl rfl) _ | with_reducible refine Kp.al ?_ _)
      exact K.set (p := ⟨b, 2, none⟩) (.inl rfl) _
  · cases hr : (s.opn == 64)
    · have HO := hid (want_opn s sign)
      have HE : Hid (s.enter sign = ⟨(s.want sign).rest, s.opn + 1, (s.want sign).err, (s.want sign).pos⟩) := by show _ = _; unfold S.enter S.more; rw [hq, hr]; simp only [Bool.and_false, Bool.false_eq_true, if_false]; rw [want_opn]
      rw [hq] at h1
      go_enter Tryz.func172, Tryz.ntmps172
      go_wp2_with (first
        | (go_at_call 69; refine h1.mono ?_; rintro r w1 ⟨rfl, b1⟩; have A := A.below b1; have K := K.tr b1; have bR := bel_box bR b1; obtain ⟨-, -, c2, -, -, cf⟩ := A.cells)
        | (go_at_call 156; (with_reducible refine (want_any sign b g cap toks _ _ A).mono ?_); rintro r w1 ⟨rfl, A, k⟩; have K := K.trans k; have bR := k.box bR hne; obtain ⟨-, -, c2, -, -, cf⟩ := A.cells; rw [HO.out] at c2; have A : At b g cap toks (s.enter sign) _ := (by rw [HE.out]; exact A.more HO.out); have K := K.set (p := ⟨b, 2, none⟩) (.inl rfl) (.int .i64 (s.opn + 1)); have bR := set_box (j := b) (i := 2) bR hne (.int .i64 (s.opn + 1)); have hz1 := ltB bR; have hzb := A.lt)
        | (go_at_call 30; (with_reducible refine (hF _ A K).mono ?_); rintro r w3 ⟨op, mon, name, n, ad, cp, kids, pos, rfl, hclr, hBy, A, k⟩; have K := K.trans k; have bR := k.box bR hne; obtain ⟨-, -, c2, -, -, cf⟩ := A.cells; rw [HO2.out] at c2; obtain ⟨x0, x1, x2, x3, x4, x5, xf, xl⟩ := six bR; have hb3 := A.lt))
      refine bodyPost_ret (v := .agg #[.int .i64 op, .string mon, .string name, .int .i64 n, .slice ad kids.length cp, .int .i64 pos]) ?_ rfl ⟨op, mon, name, n, ad, cp, kids, pos, rfl, hclr, ?_, ?_, ?_⟩
      · simp [results, Tryz.results172, go_sem, x0, x1, x2, x3, x4, x5, xl]
      · refine (Ex.By.kq hBy ?_).mono (Nat.le_of_lt hz1)
        repeat (first | with_reducible refine Kq.set ?_ (.inl (from_not hz1)) _ | with_reducible refine Kq.set ?_ (.inl (from_not hzb)) _ | with_reducible refine Kq.al ?_ _)
        exact Kq.refl _ _
      · repeat (first | with_reducible refine Pz.At.put ?_ hne hng _ | with_reducible refine Pz.At.al ?_ _)
        rw [HL.out]
        exact A.less HO2.out
      · repeat (first | with_reducible refine Kp.set ?_ (.inr (Nat.le_refl _)) _ | with_reducible refine Kp.set ?_ (.inl rfl) _ | with_reducible refine Kp.al ?_ _)
        exact K.set (p := ⟨b, 2, none⟩) (.inl rfl) _
    · have HO : Hid (((s.refuse 41).want sign).opn = s.opn) := by show _ = _; rw [want_opn]; exact fail_opn _ _ _
      have HE : Hid (s.enter sign = ⟨((s.refuse 41).want sign).rest, s.opn + 1, ((s.refuse 41).want sign).err, ((s.refuse 41).want sign).pos⟩) := by show _ = _; unfold S.enter S.more; rw [hq, hr]; simp only [Bool.and_true, if_true]; rw [HO.out]
      rw [hq] at h1
      go_enter Tryz.func172, Tryz.ntmps172
      go_wp2_with (first
        | (go_at_call 69; refine h1.mono ?_; rintro r w1 ⟨rfl, b1⟩; have A := A.below b1; have K := K.tr b1; have bR := bel_box bR b1; obtain ⟨-, -, c2, -, -, cf⟩ := A.cells)
        | (go_at_call 63; (with_reducible refine (refuse_any 41 b g cap toks _ _ A).mono ?_); rintro r w1 ⟨rfl, A, k⟩; have K := K.trans k; have bR := k.box bR hne)
        | (go_at_call 156; (with_reducible refine (want_any sign b g cap toks _ _ A).mono ?_); rintro r w1 ⟨rfl, A, k⟩; have K := K.trans k; have bR := k.box bR hne; obtain ⟨-, -, c2, -, -, cf⟩ := A.cells; rw [HO.out] at c2; have A : At b g cap toks (s.enter sign) _ := (by rw [HE.out]; exact A.more HO.out); have K := K.set (p := ⟨b, 2, none⟩) (.inl rfl) (.int .i64 (s.opn + 1)); have bR := set_box (j := b) (i := 2) bR hne (.int .i64 (s.opn + 1)); have hz1 := ltB bR; have hzb := A.lt)
        | (go_at_call 30; (with_reducible refine (hF _ A K).mono ?_); rintro r w3 ⟨op, mon, name, n, ad, cp, kids, pos, rfl, hclr, hBy, A, k⟩; have K := K.trans k; have bR := k.box bR hne; obtain ⟨-, -, c2, -, -, cf⟩ := A.cells; rw [HO2.out] at c2; obtain ⟨x0, x1, x2, x3, x4, x5, xf, xl⟩ := six bR; have hb3 := A.lt))
      refine bodyPost_ret (v := .agg #[.int .i64 op, .string mon, .string name, .int .i64 n, .slice ad kids.length cp, .int .i64 pos]) ?_ rfl ⟨op, mon, name, n, ad, cp, kids, pos, rfl, hclr, ?_, ?_, ?_⟩
      · simp [results, Tryz.results172, go_sem, x0, x1, x2, x3, x4, x5, xl]
      · refine (Ex.By.kq hBy ?_).mono (Nat.le_of_lt hz1)
        repeat (first | with_reducible refine Kq.set ?_ (.inl (from_not hz1)) _ | with_reducible refine Kq.set ?_ (.inl (from_not hzb)) _ | with_reducible refine Kq.al ?_ _)
        exact Kq.refl _ _
      · repeat (first | with_reducible refine Pz.At.put ?_ hne hng _ | with_reducible refine Pz.At.al ?_ _)
        rw [HL.out]
        exact A.less HO2.out
      · repeat (first | with_reducible refine Kp.set ?_ (.inr (Nat.le_refl _)) _ | with_reducible refine Kp.set ?_ (.inl rfl) _ | with_reducible refine Kp.al ?_ _)
        exact K.set (p := ⟨b, 2, none⟩) (.inl rfl) _
end Go.Proofs.YtaekbgljbgmchaaGreatDoor
