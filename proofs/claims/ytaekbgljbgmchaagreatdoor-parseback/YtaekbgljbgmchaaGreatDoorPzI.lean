/-
  product and term of package parse.
-/
import Derived.Test.YtaekbgljbgmchaaGreatDoorPzH
namespace Go.Proofs.YtaekbgljbgmchaaGreatDoor
open Go.RowKit
open Lx (Out)
open Pz
theorem Ex.By.renum {Q : Nat → Bool} {w : World} {op : Int} {mon name : ByteArray} {n : Int} {ad : Option Addr} {cp : Nat} {kids : List Ex} {pos : Int} (h : (Ex.mk op mon name n ad cp kids pos).By Q w) {n' pos' : Int} (hn : I64 n') (hp : I64 pos') : (Ex.mk op mon name n' ad cp kids pos').By Q w :=
  Ex.Is.up ⟨⟨h.down.1.1, hn, hp, h.down.1.2.2.2.1, h.down.1.2.2.2.2⟩, h.down.2.1, h.down.2.2⟩
theorem clr_renum {op : Int} {mon name : ByteArray} {n : Int} {ad : Option Addr} {cp : Nat} {kids : List Ex} {pos : Int} {op' : Int} {mon' name' : ByteArray} {n' : Int} {kids' : List Ex} {pos' : Int} (h : (Ex.mk op mon name n ad cp kids pos).clr = ex op' mon' name' n' kids' pos') (m p : Int) : (Ex.mk op mon name m ad cp kids p).clr = ex op' mon' name' m kids' p := by
  rw [Ex.clr] at h ⊢
  unfold ex at h ⊢
  injection h with h1 h2 h3 h4 h5 h6 h7 h8
  rw [h1, h2, h3, h7]
theorem take_fit {toks : List Out} {s : S} (h : Ok toks s) (k : Int) : (s.take k).1.text.size ≤ 100000 ∧ I64 (s.take k).1.n ∧ (s.take k).1.pos ≤ 100000 := by
  unfold S.take
  split
  · have := h.tk.fit _ (hd_mem s h.tk.ne); exact ⟨this.2.2.2, this.2.1, this.2.2.1⟩
  · exact ⟨show noTok.text.size ≤ 100000 by decide, show I64 noTok.n by unfold I64; decide, show noTok.pos ≤ 100000 by decide⟩
theorem path_fit {toks : List Out} {s : S} (h : Ok toks s) : (path s).1.1.size ≤ 100000 ∧ (path s).1.2.size ≤ 100000 := ⟨(take_fit h 1).1, (take_fit ((h.take 1).want s_dot) 1).1⟩
set_option maxRecDepth 100000 in
set_option maxHeartbeats 2000000 in
theorem product_of (x : Ex × S) (b g cap : Nat) (toks : List Out) (s : S) (w : World) (h : At b g cap toks s w) (hk : s.hd.kind = 2)
    (hP : ∀ W, At b g cap toks s.pass W → Kp b w W → s.pass.sees s_star = true → Calls Tryz.prog 149 #[.pointer (some ⟨b, 0, none⟩), .int .i64 7, .string ⟨#[42]⟩, .func (.func 151) #[.pointer (some ⟨b, 0, none⟩)] #[]] W (ExBack b g cap toks (ex 7 e0 e0 0 [x.1] s.pass.hd.pos, x.2) W)) :
    Calls Tryz.prog 173 #[.pointer (some ⟨b, 0, none⟩)] w (ExBack b g cap toks (if s.pass.sees s_star then (ex 7 e0 e0 s.hd.n [x.1] s.hd.pos, x.2) else (ex 1 e0 e0 s.hd.n [] s.hd.pos, s.pass)) w) := by
  have hb := h.lt
  have hgl := h.glt
  have A := h.al (.cells #[.int .i64 0, .string ⟨#[]⟩, .string ⟨#[]⟩, .int .i64 0, .slice none 0 0, .int .i64 0] 25)
  have bR := newB w #[.int .i64 0, .string ⟨#[]⟩, .string ⟨#[]⟩, .int .i64 0, .slice none 0 0, .int .i64 0] 25
  have hne : w.heap.size ≠ b := by omega
  have hng : w.heap.size ≠ g := by omega
  have K : Kp b w (w.alloc (.cells #[.int .i64 0, .string ⟨#[]⟩, .string ⟨#[]⟩, .int .i64 0, .slice none 0 0, .int .i64 0] 25)) := (Kp.refl b w).al _
  have hfit := hd_fit h
  have h1 := take_any 2 b g cap toks s _ A
  have ht2 : s.take 2 = (s.hd, s.pass) := by unfold S.take; rw [if_pos hk]
  rw [ht2] at h1
  obtain ⟨t, ht⟩ : ∃ t, s.hd = t := ⟨_, rfl⟩
  rw [ht] at h1 hfit ⊢
  clear ht ht2
  obtain ⟨tk, tt, tn, tp, te⟩ := t
  have hfn := hfit.2.1
  have hfp := hfit.2.2.1
  clear hfit
  simp only at h1 hfn hfp ⊢
  obtain ⟨R, hR⟩ : ∃ R, (if s.pass.sees s_star then (ex 7 e0 e0 tn [x.1] (tp : Int), x.2) else (ex 1 e0 e0 tn [] (tp : Int), s.pass)) = R := ⟨_, rfl⟩
  rw [hR]
  cases hq : s.pass.sees ⟨#[42]⟩
  · have HR : Hid (R = (ex 1 e0 e0 tn [] (tp : Int), s.pass)) := by show _ = _; rw [← hR, if_neg (by rw [show s.pass.sees s_star = false from hq]; decide)]
    clear hR
    go_enter Tryz.func173, Tryz.ntmps173
    go_wp2_with (first
      | (go_at_call 154; (with_reducible refine h1.mono ?_); rintro r w1 ⟨rfl, A, k⟩; have K := (K.trans k).al (.cells #[.int .i64 tk, .string tt, .int .i64 tn, .int .i64 (tp : Int)] 57); have A := A.al (.cells #[.int .i64 tk, .string tt, .int .i64 tn, .int .i64 (tp : Int)] 57); have bR := bel_box (k.box bR hne) (bel_al _ (.cells #[.int .i64 tk, .string tt, .int .i64 tn, .int .i64 (tp : Int)] 57)); have bT := newB w1 #[.int .i64 tk, .string tt, .int .i64 tn, .int .i64 (tp : Int)] 57)
      | (go_at_call 69; (with_reducible refine (sees_any _ b g cap toks _ _ A).mono ?_); rintro r w1 ⟨rfl, b1⟩; have A := A.below b1; have K := K.tr b1; obtain ⟨x0, x1, x2, x3, x4, x5, xf, xl⟩ := six (bel_box bR b1); obtain ⟨t0, t1, t2, t3, tf, tl⟩ := four (bel_box bT b1)))
    rw [HR.out]
    refine bodyPost_ret (v := .agg #[.int .i64 1, .string ⟨#[]⟩, .string ⟨#[]⟩, .int .i64 tn, .slice none 0 0, .int .i64 (tp : Int)]) ?_ rfl ⟨1, ⟨#[]⟩, ⟨#[]⟩, tn, none, 0, [], tp, rfl, ?_, ?_, ?_, ?_⟩
    · simp [results, Tryz.results173, go_sem, x0, x1, x2, x3, x4, x5]
    · rw [Ex.clr, Ex.clrL]; rfl
    · exact By.leaf ⟨i64_small (by decide) (by decide), hfn, i64_nat hfp, len_e0, len_e0⟩
    · repeat (first | with_reducible refine Pz.At.put ?_ hne hng _ | with_reducible refine Pz.At.al ?_ _)
      exact A
    · repeat (first | with_reducible refine Kp.set ?_ (.inr (Nat.le_refl _)) _ | with_reducible refine Kp.set ?_ (.inl rfl) _ | with_reducible refine Kp.al ?_ _)
      exact K
  · have HQ : Hid (s.pass.sees s_star = true) := hq
    have HR : Hid (R = (ex 7 e0 e0 tn [x.1] (tp : Int), x.2)) := by show _ = _; rw [← hR, if_pos HQ.out]
    clear hR
    go_enter Tryz.func173, Tryz.ntmps173
    go_wp2_with (first
      | (go_at_call 154; (with_reducible refine h1.mono ?_); rintro r w1 ⟨rfl, A, k⟩; have K := (K.trans k).al (.cells #[.int .i64 tk, .string tt, .int .i64 tn, .int .i64 (tp : Int)] 57); have A := A.al (.cells #[.int .i64 tk, .string tt, .int .i64 tn, .int .i64 (tp : Int)] 57); have bR := bel_box (k.box bR hne) (bel_al _ (.cells #[.int .i64 tk, .string tt, .int .i64 tn, .int .i64 (tp : Int)] 57)); have bT := newB w1 #[.int .i64 tk, .string tt, .int .i64 tn, .int .i64 (tp : Int)] 57; have hnt : w1.heap.size ≠ b := (by have := k.size; simp only [World.size_alloc] at this; omega))
      | (go_at_call 69; (with_reducible refine (sees_any _ b g cap toks _ _ A).mono ?_); rintro r w2 ⟨rfl, b1⟩; have A := A.below b1; have K := K.tr b1; have bR := bel_box bR b1; have bT := bel_box bT b1; have hz1 := ltB bR)
      | (go_at_call 149; (with_reducible refine (hP _ A K HQ.out).mono ?_); rintro r w3 ⟨op, mon, name, n, ad, cp, kids, pos, rfl, hclr, hBy, A, k3⟩; have K := K.trans k3; have bR := k3.box bR hne; have bT := k3.box bT hnt; obtain ⟨x0, x1, x2, x3, x4, x5, xf, xl⟩ := six bR; obtain ⟨t0, t1, t2, t3, tf, tl⟩ := four bT))
    go_region
    go_wp2
    rw [HR.out]
    refine bodyPost_ret (v := .agg #[.int .i64 op, .string mon, .string name, .int .i64 tn, .slice ad kids.length cp, .int .i64 (tp : Int)]) ?_ rfl ⟨op, mon, name, tn, ad, cp, kids, tp, rfl, ?_, ?_, ?_, ?_⟩
    · simp [results, Tryz.results173, go_sem, x0, x1, x2, x3, x4, x5, xl]
    · exact clr_renum hclr _ _
    · refine ((Ex.By.kq hBy ?_).mono (Nat.le_of_lt hz1)).renum hfn (i64_nat hfp)
      refine Kq.drew ?_
      repeat (first | with_reducible refine Kq.set ?_ (.inl (from_not hz1)) _ | with_reducible refine Kq.al ?_ _)
      exact Kq.refl _ _
    · refine Pz.At.drew ?_
      repeat (first | with_reducible refine Pz.At.put ?_ hne hng _ | with_reducible refine Pz.At.al ?_ _)
      exact A
    · refine Kp.drew ?_
      repeat (first | with_reducible refine Kp.set ?_ (.inr (Nat.le_refl _)) _ | with_reducible refine Kp.set ?_ (.inl rfl) _ | with_reducible refine Kp.al ?_ _)
      exact K
set_option maxRecDepth 100000 in
set_option maxHeartbeats 2000000 in
theorem term_of (R y2 y3 y4 : Ex × S) (b g cap : Nat) (toks : List Out) (s : S) (w : World) (h : At b g cap toks s w)
    (r1 : s.hd.kind = 2 → R = y2) (r2 : s.hd.kind = 1 → R = (ex 4 (path s).1.1 (path s).1.2 0 [] s.hd.pos, (path s).2))
    (r3 : s.hd.kind ≠ 2 → s.hd.kind ≠ 1 → s.sees ⟨#[45]⟩ = true → R = y3)
    (r4 : s.hd.kind ≠ 2 → s.hd.kind ≠ 1 → s.sees ⟨#[45]⟩ = false → s.sees ⟨#[40]⟩ = true → R = y4)
    (r5 : s.hd.kind ≠ 2 → s.hd.kind ≠ 1 → s.sees ⟨#[45]⟩ = false → s.sees ⟨#[40]⟩ = false → s.sees ⟨#[116, 114, 117, 101]⟩ = true → R = (ex 2 e0 e0 0 [] s.hd.pos, s.pass))
    (r6 : s.hd.kind ≠ 2 → s.hd.kind ≠ 1 → s.sees ⟨#[45]⟩ = false → s.sees ⟨#[40]⟩ = false → s.sees ⟨#[116, 114, 117, 101]⟩ = false → R = (ex 3 e0 e0 0 [] s.hd.pos, s.want k_false))
    (h2 : s.hd.kind = 2 → ∀ W, At b g cap toks s W → Kp b w W → Calls Tryz.prog 173 #[.pointer (some ⟨b, 0, none⟩)] W (ExBack b g cap toks y2 W))
    (h3 : s.sees ⟨#[45]⟩ = true → ∀ W, At b g cap toks s W → Kp b w W → Calls Tryz.prog 149 #[.pointer (some ⟨b, 0, none⟩), .int .i64 6, .string ⟨#[45]⟩, .func (.func 151) #[.pointer (some ⟨b, 0, none⟩)] #[]] W (ExBack b g cap toks y3 W))
    (h4 : s.sees ⟨#[40]⟩ = true → ∀ W, At b g cap toks s W → Kp b w W → Calls Tryz.prog 175 #[.pointer (some ⟨b, 0, none⟩), .string ⟨#[40]⟩, .func (.func 30) #[.pointer (some ⟨b, 0, none⟩)] #[], .string ⟨#[41]⟩] W (ExBack b g cap toks y4 W)) :
    Calls Tryz.prog 151 #[.pointer (some ⟨b, 0, none⟩)] w (ExBack b g cap toks R w) := by
  have hb := h.lt
  have hgl := h.glt
  have A := h.al (.cells #[.int .i64 0, .string ⟨#[]⟩, .string ⟨#[]⟩, .int .i64 0, .slice none 0 0, .int .i64 0] 25)
  have bR := newB w #[.int .i64 0, .string ⟨#[]⟩, .string ⟨#[]⟩, .int .i64 0, .slice none 0 0, .int .i64 0] 25
  have hne : w.heap.size ≠ b := by omega
  have hng : w.heap.size ≠ g := by omega
  have K : Kp b w (w.alloc (.cells #[.int .i64 0, .string ⟨#[]⟩, .string ⟨#[]⟩, .int .i64 0, .slice none 0 0, .int .i64 0] 25)) := (Kp.refl b w).al _
  have hfit := hd_fit h
  have h1 := token_any b g cap toks s _ A
  have hpl : (path s).1.1.size ≤ 100000 ∧ (path s).1.2.size ≤ 100000 := path_fit h.ok
  obtain ⟨t, ht⟩ : ∃ t, s.hd = t := ⟨_, rfl⟩
  rw [ht] at h1 hfit h2 r1 r2 r3 r4 r5 r6
  clear ht
  obtain ⟨tk, tt, tn, tp, te⟩ := t
  have hfp := hfit.2.2.1
  simp only at h1 hfp h2 r1 r2 r3 r4 r5 r6
  clear hfit
  cases q2 : (tk == 2)
  case true =>
    obtain rfl : tk = 2 := by simpa using q2
    have hx := h2 rfl
    have HR := hid (r1 rfl)
    clear h2 h3 h4 r1 r2 r3 r4 r5 r6
    go_enter Tryz.func151, Tryz.ntmps151
    go_wp2_with (first
      | (go_at_call 62; refine h1.mono ?_; rintro r w1 ⟨rfl, b1⟩; have A := (A.below b1).al (.cells #[.int .i64 2, .string tt, .int .i64 tn, .int .i64 (tp : Int)] 57); have K := (K.tr b1).al (.cells #[.int .i64 2, .string tt, .int .i64 tn, .int .i64 (tp : Int)] 57); have bR := bel_box (bel_box bR b1) (bel_al _ (.cells #[.int .i64 2, .string tt, .int .i64 tn, .int .i64 (tp : Int)] 57)); have bT := newB w1 #[.int .i64 2, .string tt, .int .i64 tn, .int .i64 (tp : Int)] 57; have hz1 := ltB bR; have hzb := A.lt; have hnt : w1.heap.size ≠ b := (by have := b1.size; simp only [World.size_alloc] at this; omega); obtain ⟨t0, t1, t2, t3, tf, tl⟩ := four bT)
      | (go_at_call 173; (with_reducible refine (hx _ A K).mono ?_); rintro r w3 ⟨op, mon, name, n, ad, cp, kids, pos, rfl, hclr, hBy, A, k⟩; have K := K.trans k; have bR := k.box bR hne; have bT := k.box bT hnt; obtain ⟨x0, x1, x2, x3, x4, x5, xf, xl⟩ := six bR; obtain ⟨t0, t1, t2, t3, tf, tl⟩ := four bT))
    rw [HR.out]
    refine bodyPost_ret (v := .agg #[.int .i64 op, .string mon, .string name, .int .i64 n, .slice ad kids.length cp, .int .i64 pos]) ?_ rfl ⟨op, mon, name, n, ad, cp, kids, pos, rfl, ?_, ?_, ?_, ?_⟩
    · simp [results, Tryz.results151, go_sem, x0, x1, x2, x3, x4, x5]
    · exact hclr
    · refine (Ex.By.kq hBy ?_).mono (Nat.le_of_lt hz1)
      repeat (first | with_reducible refine Kq.set ?_ (.inl (from_not hz1)) _ | with_reducible refine Kq.al ?_ _)
      exact Kq.refl _ _
    · repeat (first | with_reducible refine Pz.At.put ?_ hne hng _ | with_reducible refine Pz.At.al ?_ _)
      exact A
    · repeat (first | with_reducible refine Kp.set ?_ (.inr (Nat.le_refl _)) _ | with_reducible refine Kp.set ?_ (.inl rfl) _ | with_reducible refine Kp.al ?_ _)
      exact K
  have n2 : tk ≠ 2 := by simpa using q2
  cases q1 : (tk == 1)
  case true =>
    obtain rfl : tk = 1 := by simpa using q1
    have HR := hid (r2 rfl)
    clear h2 h3 h4 r1 r2 r3 r4 r5 r6
    go_enter Tryz.func151, Tryz.ntmps151
    go_wp2_with (first
      | (go_at_call 62; refine h1.mono ?_; rintro r w1 ⟨rfl, b1⟩; have A := (A.below b1).al (.cells #[.int .i64 1, .string tt, .int .i64 tn, .int .i64 (tp : Int)] 57); have K := (K.tr b1).al (.cells #[.int .i64 1, .string tt, .int .i64 tn, .int .i64 (tp : Int)] 57); have bR := bel_box (bel_box bR b1) (bel_al _ (.cells #[.int .i64 1, .string tt, .int .i64 tn, .int .i64 (tp : Int)] 57)); have bT := newB w1 #[.int .i64 1, .string tt, .int .i64 tn, .int .i64 (tp : Int)] 57; have hz1 := ltB bR; have hzb := A.lt; have hnt : w1.heap.size ≠ b := (by have := b1.size; simp only [World.size_alloc] at this; omega); obtain ⟨t0, t1, t2, t3, tf, tl⟩ := four bT)
      | (go_at_call 174; (with_reducible refine (path_any b g cap toks _ _ A).mono ?_); rintro r w3 ⟨rfl, A, k⟩; have K := K.trans k; have bR := k.box bR hne; have bT := k.box bT hnt; obtain ⟨x0, x1, x2, x3, x4, x5, xf, xl⟩ := six bR; obtain ⟨t0, t1, t2, t3, tf, tl⟩ := four bT))
    rw [HR.out]
    refine bodyPost_ret (v := .agg #[.int .i64 4, .string (path s).1.1, .string (path s).1.2, .int .i64 0, .slice none 0 0, .int .i64 (tp : Int)]) ?_ rfl ⟨4, (path s).1.1, (path s).1.2, 0, none, 0, [], tp, rfl, ?_, ?_, ?_, ?_⟩
    · simp [results, Tryz.results151, go_sem, x0, x1, x2, x3, x4, x5]
    · rw [Ex.clr, Ex.clrL]; rfl
    · exact By.leaf ⟨i64_small (by decide) (by decide), i64_small (by decide) (by decide), i64_nat hfp, len_of hpl.1, len_of hpl.2⟩
    · repeat (first | with_reducible refine Pz.At.put ?_ hne hng _ | with_reducible refine Pz.At.al ?_ _)
      exact A
    · repeat (first | with_reducible refine Kp.set ?_ (.inr (Nat.le_refl _)) _ | with_reducible refine Kp.set ?_ (.inl rfl) _ | with_reducible refine Kp.al ?_ _)
      exact K
  have n1 : tk ≠ 1 := by simpa using q1
  cases q3 : s.sees ⟨#[45]⟩
  case true =>
    have hx := h3 q3
    have HR := hid (r3 n2 n1 q3)
    clear h2 h3 h4 r1 r2 r3 r4 r5 r6
    go_enter Tryz.func151, Tryz.ntmps151
    go_wp2_with (first
      | (go_at_call 62; refine h1.mono ?_; rintro r w1 ⟨rfl, b1⟩; have A := (A.below b1).al (.cells #[.int .i64 tk, .string tt, .int .i64 tn, .int .i64 (tp : Int)] 57); have K := (K.tr b1).al (.cells #[.int .i64 tk, .string tt, .int .i64 tn, .int .i64 (tp : Int)] 57); have bR := bel_box (bel_box bR b1) (bel_al _ (.cells #[.int .i64 tk, .string tt, .int .i64 tn, .int .i64 (tp : Int)] 57)); have bT := newB w1 #[.int .i64 tk, .string tt, .int .i64 tn, .int .i64 (tp : Int)] 57; have hz1 := ltB bR; have hzb := A.lt; have hnt : w1.heap.size ≠ b := (by have := b1.size; simp only [World.size_alloc] at this; omega); obtain ⟨t0, t1, t2, t3, tf, tl⟩ := four bT)
      | (go_at_call 69; (with_reducible refine (sees_any _ b g cap toks _ _ A).mono ?_); rintro r w1 ⟨rfl, b1⟩; have A := A.below b1; have K := K.tr b1; have bR := bel_box bR b1; have bT := bel_box bT b1; have hz1 := ltB bR; have hzb := A.lt; obtain ⟨x0, x1, x2, x3, x4, x5, xf, xl⟩ := six bR; obtain ⟨t0, t1, t2, t3, tf, tl⟩ := four bT)
      | (go_at_call 149; (with_reducible refine (hx _ A K).mono ?_); rintro r w3 ⟨op, mon, name, n, ad, cp, kids, pos, rfl, hclr, hBy, A, k⟩; have K := K.trans k; have bR := k.box bR hne; have bT := k.box bT hnt; obtain ⟨x0, x1, x2, x3, x4, x5, xf, xl⟩ := six bR; obtain ⟨t0, t1, t2, t3, tf, tl⟩ := four bT))
    rw [HR.out]
    refine bodyPost_ret (v := .agg #[.int .i64 op, .string mon, .string name, .int .i64 n, .slice ad kids.length cp, .int .i64 pos]) ?_ rfl ⟨op, mon, name, n, ad, cp, kids, pos, rfl, ?_, ?_, ?_, ?_⟩
    · simp [results, Tryz.results151, go_sem, x0, x1, x2, x3, x4, x5]
    · exact hclr
    · refine (Ex.By.kq hBy ?_).mono (Nat.le_of_lt hz1)
      repeat (first | with_reducible refine Kq.set ?_ (.inl (from_not hz1)) _ | with_reducible refine Kq.al ?_ _)
      exact Kq.refl _ _
    · repeat (first | with_reducible refine Pz.At.put ?_ hne hng _ | with_reducible refine Pz.At.al ?_ _)
      exact A
    · repeat (first | with_reducible refine Kp.set ?_ (.inr (Nat.le_refl _)) _ | with_reducible refine Kp.set ?_ (.inl rfl) _ | with_reducible refine Kp.al ?_ _)
      exact K
  cases q4 : s.sees ⟨#[40]⟩
  case true =>
    have hx := h4 q4
    have HR := hid (r4 n2 n1 q3 q4)
    clear h2 h3 h4 r1 r2 r3 r4 r5 r6
    go_enter Tryz.func151, Tryz.ntmps151
    go_wp2_with (first
      | (go_at_call 62; refine h1.mono ?_; rintro r w1 ⟨rfl, b1⟩; have A := (A.below b1).al (.cells #[.int .i64 tk, .string tt, .int .i64 tn, .int .i64 (tp : Int)] 57); have K := (K.tr b1).al (.cells #[.int .i64 tk, .string tt, .int .i64 tn, .int .i64 (tp : Int)] 57); have bR := bel_box (bel_box bR b1) (bel_al _ (.cells #[.int .i64 tk, .string tt, .int .i64 tn, .int .i64 (tp : Int)] 57)); have bT := newB w1 #[.int .i64 tk, .string tt, .int .i64 tn, .int .i64 (tp : Int)] 57; have hz1 := ltB bR; have hzb := A.lt; have hnt : w1.heap.size ≠ b := (by have := b1.size; simp only [World.size_alloc] at this; omega); obtain ⟨t0, t1, t2, t3, tf, tl⟩ := four bT)
      | (go_at_call 69; (with_reducible refine (sees_any _ b g cap toks _ _ A).mono ?_); rintro r w1 ⟨rfl, b1⟩; have A := A.below b1; have K := K.tr b1; have bR := bel_box bR b1; have bT := bel_box bT b1; have hz1 := ltB bR; have hzb := A.lt; obtain ⟨x0, x1, x2, x3, x4, x5, xf, xl⟩ := six bR; obtain ⟨t0, t1, t2, t3, tf, tl⟩ := four bT)
      | (go_at_call 175; (with_reducible refine (hx _ A K).mono ?_); rintro r w3 ⟨op, mon, name, n, ad, cp, kids, pos, rfl, hclr, hBy, A, k⟩; have K := K.trans k; have bR := k.box bR hne; have bT := k.box bT hnt; obtain ⟨x0, x1, x2, x3, x4, x5, xf, xl⟩ := six bR; obtain ⟨t0, t1, t2, t3, tf, tl⟩ := four bT))
    rw [HR.out]
    refine bodyPost_ret (v := .agg #[.int .i64 op, .string mon, .string name, .int .i64 n, .slice ad kids.length cp, .int .i64 pos]) ?_ rfl ⟨op, mon, name, n, ad, cp, kids, pos, rfl, ?_, ?_, ?_, ?_⟩
    · simp [results, Tryz.results151, go_sem, x0, x1, x2, x3, x4, x5]
    · exact hclr
    · refine (Ex.By.kq hBy ?_).mono (Nat.le_of_lt hz1)
      repeat (first | with_reducible refine Kq.set ?_ (.inl (from_not hz1)) _ | with_reducible refine Kq.al ?_ _)
      exact Kq.refl _ _
    · repeat (first | with_reducible refine Pz.At.put ?_ hne hng _ | with_reducible refine Pz.At.al ?_ _)
      exact A
    · repeat (first | with_reducible refine Kp.set ?_ (.inr (Nat.le_refl _)) _ | with_reducible refine Kp.set ?_ (.inl rfl) _ | with_reducible refine Kp.al ?_ _)
      exact K
  cases q5 : s.sees ⟨#[116, 114, 117, 101]⟩
  case true =>
    have HR := hid (r5 n2 n1 q3 q4 q5)
    clear h2 h3 h4 r1 r2 r3 r4 r5 r6
    go_enter Tryz.func151, Tryz.ntmps151
    go_wp2_with (first
      | (go_at_call 62; refine h1.mono ?_; rintro r w1 ⟨rfl, b1⟩; have A := (A.below b1).al (.cells #[.int .i64 tk, .string tt, .int .i64 tn, .int .i64 (tp : Int)] 57); have K := (K.tr b1).al (.cells #[.int .i64 tk, .string tt, .int .i64 tn, .int .i64 (tp : Int)] 57); have bR := bel_box (bel_box bR b1) (bel_al _ (.cells #[.int .i64 tk, .string tt, .int .i64 tn, .int .i64 (tp : Int)] 57)); have bT := newB w1 #[.int .i64 tk, .string tt, .int .i64 tn, .int .i64 (tp : Int)] 57; have hz1 := ltB bR; have hzb := A.lt; have hnt : w1.heap.size ≠ b := (by have := b1.size; simp only [World.size_alloc] at this; omega); obtain ⟨t0, t1, t2, t3, tf, tl⟩ := four bT)
      | (go_at_call 69; (with_reducible refine (sees_any _ b g cap toks _ _ A).mono ?_); rintro r w1 ⟨rfl, b1⟩; have A := A.below b1; have K := K.tr b1; have bR := bel_box bR b1; have bT := bel_box bT b1; have hz1 := ltB bR; have hzb := A.lt; obtain ⟨x0, x1, x2, x3, x4, x5, xf, xl⟩ := six bR; obtain ⟨t0, t1, t2, t3, tf, tl⟩ := four bT)
      | (go_at_call 110; (with_reducible refine (pass_any b g cap toks _ _ A).mono ?_); rintro r w3 ⟨rfl, A, k⟩; have K := K.trans k; have bR := k.box bR hne; have bT := k.box bT hnt; obtain ⟨x0, x1, x2, x3, x4, x5, xf, xl⟩ := six bR; obtain ⟨t0, t1, t2, t3, tf, tl⟩ := four bT))
    rw [HR.out]
    refine bodyPost_ret (v := .agg #[.int .i64 2, .string ⟨#[]⟩, .string ⟨#[]⟩, .int .i64 0, .slice none 0 0, .int .i64 (tp : Int)]) ?_ rfl ⟨2, ⟨#[]⟩, ⟨#[]⟩, 0, none, 0, [], tp, rfl, ?_, ?_, ?_, ?_⟩
    · simp [results, Tryz.results151, go_sem, x0, x1, x2, x3, x4, x5]
    · rw [Ex.clr, Ex.clrL]; rfl
    · exact By.leaf ⟨i64_small (by decide) (by decide), i64_small (by decide) (by decide), i64_nat hfp, len_e0, len_e0⟩
    · repeat (first | with_reducible refine Pz.At.put ?_ hne hng _ | with_reducible refine Pz.At.al ?_ _)
      exact A
    · repeat (first | with_reducible refine Kp.set ?_ (.inr (Nat.le_refl _)) _ | with_reducible refine Kp.set ?_ (.inl rfl) _ | with_reducible refine Kp.al ?_ _)
      exact K
  case false =>
    have HR := hid (r6 n2 n1 q3 q4 q5)
    clear h2 h3 h4 r1 r2 r3 r4 r5 r6
    go_enter Tryz.func151, Tryz.ntmps151
    go_wp2_with (first
      | (go_at_call 62; refine h1.mono ?_; rintro r w1 ⟨rfl, b1⟩; have A := (A.below b1).al (.cells #[.int .i64 tk, .string tt, .int .i64 tn, .int .i64 (tp : Int)] 57); have K := (K.tr b1).al (.cells #[.int .i64 tk, .string tt, .int .i64 tn, .int .i64 (tp : Int)] 57); have bR := bel_box (bel_box bR b1) (bel_al _ (.cells #[.int .i64 tk, .string tt, .int .i64 tn, .int .i64 (tp : Int)] 57)); have bT := newB w1 #[.int .i64 tk, .string tt, .int .i64 tn, .int .i64 (tp : Int)] 57; have hz1 := ltB bR; have hzb := A.lt; have hnt : w1.heap.size ≠ b := (by have := b1.size; simp only [World.size_alloc] at this; omega); obtain ⟨t0, t1, t2, t3, tf, tl⟩ := four bT)
      | (go_at_call 69; (with_reducible refine (sees_any _ b g cap toks _ _ A).mono ?_); rintro r w1 ⟨rfl, b1⟩; have A := A.below b1; have K := K.tr b1; have bR := bel_box bR b1; have bT := bel_box bT b1; have hz1 := ltB bR; have hzb := A.lt; obtain ⟨x0, x1, x2, x3, x4, x5, xf, xl⟩ := six bR; obtain ⟨t0, t1, t2, t3, tf, tl⟩ := four bT)
      | (go_at_call 156; (with_reducible refine (want_any _ b g cap toks _ _ A).mono ?_); rintro r w3 ⟨rfl, A, k⟩; have K := K.trans k; have bR := k.box bR hne; have bT := k.box bT hnt; obtain ⟨x0, x1, x2, x3, x4, x5, xf, xl⟩ := six bR; obtain ⟨t0, t1, t2, t3, tf, tl⟩ := four bT))
    rw [HR.out]
    refine bodyPost_ret (v := .agg #[.int .i64 3, .string ⟨#[]⟩, .string ⟨#[]⟩, .int .i64 0, .slice none 0 0, .int .i64 (tp : Int)]) ?_ rfl ⟨3, ⟨#[]⟩, ⟨#[]⟩, 0, none, 0, [], tp, rfl, ?_, ?_, ?_, ?_⟩
    · simp [results, Tryz.results151, go_sem, x0, x1, x2, x3, x4, x5]
    · rw [Ex.clr, Ex.clrL]; rfl
    · exact By.leaf ⟨i64_small (by decide) (by decide), i64_small (by decide) (by decide), i64_nat hfp, len_e0, len_e0⟩
    · repeat (first | with_reducible refine Pz.At.put ?_ hne hng _ | with_reducible refine Pz.At.al ?_ _)
      exact A
    · repeat (first | with_reducible refine Kp.set ?_ (.inr (Nat.le_refl _)) _ | with_reducible refine Kp.set ?_ (.inl rfl) _ | with_reducible refine Kp.al ?_ _)
      exact K
end Go.Proofs.YtaekbgljbgmchaaGreatDoor
