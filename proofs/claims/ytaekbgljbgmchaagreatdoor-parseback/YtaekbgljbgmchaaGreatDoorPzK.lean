/-
  exprAt of package parse, out of operand and of itself.
-/
import Derived.Test.YtaekbgljbgmchaaGreatDoorPzJ
import Derived.Deep.LoopGhost
import Derived.WalkMore
namespace Go.Proofs.YtaekbgljbgmchaaGreatDoor
open Go.RowKit
open Lx (Out)
open Pz
theorem five {w : World} {k : Nat} {a b c d e : Value} {T : TypeId} (h : w.heap[k]? = some (.cells #[a, b, c, d, e] T (0, 0))) :
    w.cell? ⟨k, 0, none⟩ = some a ∧ w.cell? ⟨k, 1, none⟩ = some b ∧ w.cell? ⟨k, 2, none⟩ = some c ∧ w.cell? ⟨k, 3, none⟩ = some d ∧ w.cell? ⟨k, 4, none⟩ = some e ∧ (∀ i, w.frozen? ⟨k, i, none⟩ = false) ∧ k < w.heap.size :=
  ⟨by rw [cellB h]; rfl, by rw [cellB h]; rfl, by rw [cellB h]; rfl, by rw [cellB h]; rfl, by rw [cellB h]; rfl, frozB h, ltB h⟩
theorem six_set {w : World} {k : Nat} {a b c d e f : Value} {T : TypeId} {z : Nat × Nat} (h : w.heap[k]? = some (.cells #[a, b, c, d, e, f] T z)) (a' b' c' d' e' f' : Value) :
    ((((((w.setCell ⟨k, 0, none⟩ a').setCell ⟨k, 1, none⟩ b').setCell ⟨k, 2, none⟩ c').setCell ⟨k, 3, none⟩ d').setCell ⟨k, 4, none⟩ e').setCell ⟨k, 5, none⟩ f').heap[k]? = some (.cells #[a', b', c', d', e', f'] T z) := by
  rw [setB (setB (setB (setB (setB (setB h _) _) _) _) _) _]; rfl
/-- Blocks behind n, but for one. -/
def past (n m k : Nat) : Bool := decide (n < k) && (k != m)
theorem past_iff {n m k : Nat} : past n m k = true ↔ n < k ∧ k ≠ m := by simp [past]
theorem past_le {n m k : Nat} (h : k ≤ n) : past n m k = false := by simp [past]; omega
theorem past_eq {n m : Nat} : past n m m = false := by simp [past]
theorem Kq.bel {Q : Nat → Bool} {u v w : World} (h : Kq Q u v) (k : Below v.heap.size v w) : Kq Q u w := h.trans ⟨k.size, fun i _ hi => k.block i hi⟩
theorem Pz.loop_unfold (fi l : Nat) (x : Ex) (ow : Nat) (s : S) (h : 1 ≤ fi) : loop fi l x ow s = (if (operOf s.hd).op = 0 ∨ (operOf s.hd).own < l ∨ ow < (operOf s.hd).first then (x, s)
    else loop (fi - 1) l (ex (operOf s.hd).op e0 e0 0 [x, (exprAt (fi - 1) (operOf s.hd).second s.pass).1] (exPos x)) (operOf s.hd).own (exprAt (fi - 1) (operOf s.hd).second s.pass).2) := by
  obtain ⟨f, rfl⟩ : ∃ f, fi = f + 1 := ⟨fi - 1, by omega⟩
  rw [loop]; rfl
/-- What an expression's reading asks of the reader. -/
def Bd (s : S) : Prop := 0 ≤ s.opn ∧ s.opn + s.rest.length ≤ 200000
set_option maxRecDepth 100000 in
set_option maxHeartbeats 1500000 in
theorem exprAt_of (R x0 : Ex × S) (ow0 F l : Nat) (b g cap : Nat) (toks : List Out) (s : S) (w : World) (h : At b g cap toks s w) (hO0 : Opers w) (hb2 : b ≠ 2) (how : ow0 ≤ 6) (hR : loop F l x0.1 ow0 x0.2 = R) (hBd : Bd s) (hLe : Le s x0.2) (hF : 3 * s.rest.length + 1 ≤ F)
    (hop0 : ∀ W, At b g cap toks s W → Kp b w W → Calls Tryz.prog 108 #[.pointer (some ⟨b, 0, none⟩), .int .i64 (l : Int)] W (OpBack b g cap toks x0 (ow0 : Int) W))
    (hE : ∀ fi, fi < F → ∀ (l' : Nat) (s' : S) W, l' ≤ 6 → At b g cap toks s' W → Opers W → Bd s' → 3 * s'.rest.length + 2 ≤ fi → Calls Tryz.prog 64 #[.pointer (some ⟨b, 0, none⟩), .int .i64 (l' : Int)] W (ExBack b g cap toks (exprAt fi l' s') W)) :
    Calls Tryz.prog 64 #[.pointer (some ⟨b, 0, none⟩), .int .i64 (l : Int)] w (ExBack b g cap toks R w) := by
  have hb := h.lt
  have hgl := h.glt
  have A := h.al (.cells #[.int .i64 0, .string ⟨#[]⟩, .string ⟨#[]⟩, .int .i64 0, .slice none 0 0, .int .i64 0] 25)
  have bR := newB w #[.int .i64 0, .string ⟨#[]⟩, .string ⟨#[]⟩, .int .i64 0, .slice none 0 0, .int .i64 0] 25
  have hne : w.heap.size ≠ b := by omega
  have hng : w.heap.size ≠ g := by omega
  have K : Kp b w (w.alloc (.cells #[.int .i64 0, .string ⟨#[]⟩, .string ⟨#[]⟩, .int .i64 0, .slice none 0 0, .int .i64 0] 25)) := (Kp.refl b w).al _
  have hz0 := ltB bR
  have HR := hid hR
  clear hR
  go_enter Tryz.func64, Tryz.ntmps64
  go_wp2
  go_step3
  go_wp2_with (go_at_call 108; (with_reducible refine (hop0 _ A K).mono ?_); rintro r w1 ⟨op, mon, name, n, ad, cp, kids, pos, rfl, hclr, hBy, A, k⟩; have K := K.trans k; have bR := k.box bR hne)
  clear hop0
  go_step3
  go_wp2
  have hk1 := k.size
  simp only [World.size_alloc] at hk1
  have A := A.al (.cells #[.int .i64 op, .string mon, .string name, .int .i64 n, .slice ad kids.length cp, .int .i64 pos] 25)
  have K := K.al (.cells #[.int .i64 op, .string mon, .string name, .int .i64 n, .slice ad kids.length cp, .int .i64 pos] 25)
  have bR := bel_box bR (bel_al w1 (.cells #[.int .i64 op, .string mon, .string name, .int .i64 n, .slice ad kids.length cp, .int .i64 pos] 25))
  have bL := newB w1 #[.int .i64 op, .string mon, .string name, .int .i64 n, .slice ad kids.length cp, .int .i64 pos] 25
  have hBy2 : (Ex.mk op mon name n ad cp kids pos).By (past w.heap.size w1.heap.size) (w1.alloc (.cells #[.int .i64 op, .string mon, .string name, .int .i64 n, .slice ad kids.length cp, .int .i64 pos] 25)) := by
    refine Ex.By.kq (Ex.By.weak hBy (fun k hk hl => past_iff.2 ⟨?_, by omega⟩)) ((Kq.refl _ _).al _)
    have := from_iff.1 hk
    simp only [World.size_alloc] at this
    omega
  obtain ⟨B, hB⟩ : ∃ B, w1.heap.size = B := ⟨_, rfl⟩
  obtain ⟨W1, hW1⟩ : ∃ W1, w1.alloc (.cells #[.int .i64 op, .string mon, .string name, .int .i64 n, .slice ad kids.length cp, .int .i64 pos] 25) = W1 := ⟨_, rfl⟩
  rw [hW1] at A K bR bL hBy2 ⊢
  rw [hB] at bL hBy2 hk1 ⊢
  clear hB hW1 hBy k
  have hBb : B ≠ b := by omega
  have hBg : B ≠ g := by omega
  have hRB : w.heap.size ≠ B := by omega
  have hBw : w.heap.size ≤ B := by omega
  have HS : Hid (loop F l (Ex.mk op mon name n ad cp kids pos).clr ow0 x0.2 = R) := by show _ = _; rw [hclr]; exact HR.out
  clear HR hclr
  have hLe1 := hLe.1
  have hLe2 := hLe.2
  have HLe : Hid (x0.2.opn = s.opn ∧ x0.2.rest.length ≤ s.rest.length) := hLe
  clear hLe hLe1 hLe2
  go_loopg [6] x0.2.rest.length (fun gn i wr => ∃ (op : Int) (mon name : ByteArray) (n : Int) (ad : Option Addr) (cp : Nat) (kids : List Ex) (pos : Int) (fi ow : Nat) (s' : S), gn = s'.rest.length ∧ i = .int .i64 (ow : Int) ∧ ow ≤ 6 ∧ wr.heap[B]? = some (.cells #[.int .i64 op, .string mon, .string name, .int .i64 n, .slice ad kids.length cp, .int .i64 pos] 25 (0, 0)) ∧ (Ex.mk op mon name n ad cp kids pos).By (past w.heap.size B) wr ∧ At b g cap toks s' wr ∧ Kp b w wr ∧ wr.heap[w.heap.size]? = some (.cells #[.int .i64 0, .string ⟨#[]⟩, .string ⟨#[]⟩, .int .i64 0, .slice none 0 0, .int .i64 0] 25 (0, 0)) ∧ Hid (loop fi l (Ex.mk op mon name n ad cp kids pos).clr ow s' = R) ∧ 3 * s'.rest.length + 1 ≤ fi ∧ fi ≤ F ∧ Hid (s'.opn = s.opn ∧ s'.rest.length ≤ s.rest.length))
  case atStart => exact ⟨op, mon, name, n, ad, cp, kids, pos, F, ow0, x0.2, rfl, rfl, how, bL, hBy2, A, K, bR, HS, by have := HLe.out.2; omega, Nat.le_refl _, HLe⟩
  case round =>
    obtain ⟨op, mon, name, n, ad, cp, kids, pos, fi, ow, s', hgn, rfl, how', bL, hBy, A, K, bR, HS, hfi, hfF, HLe⟩ := hrel
    have hO := hO0.kp K hb2
    have hzb := A.lt
    have Q := Kq.refl (past w.heap.size B) wr
    have hpR : past w.heap.size B w.heap.size = false := past_le (Nat.le_refl _)
    have hpB : past w.heap.size B B = false := past_eq
    have hop := operatorOf_any s'.hd
    have hrng := operOf_range s'.hd
    have hke := fun hz : (operOf s'.hd).op ≠ 0 => oper_kind A.ok hz
    have HL := hid (loop_unfold fi l (Ex.mk op mon name n ad cp kids pos).clr ow s' (by omega))
    have hpf := hd_fit A
    obtain ⟨oper, hoper⟩ : ∃ oper, operOf s'.hd = oper := ⟨_, rfl⟩
    rw [hoper] at hop hrng hke HL
    clear hoper
    obtain ⟨oo, oow, of, os⟩ := oper
    simp only at hop hrng hke HL
    obtain ⟨hr1, hr2, hr3, hr4, hr5⟩ := hrng
    by_cases hc1 : oo = 0 ∨ oow < l ∨ ow < of
    · have HF : Hid (R = ((Ex.mk op mon name n ad cp kids pos).clr, s')) := by show _ = _; rw [← HS.out, HL.out, if_pos hc1]
      clear HL HS hke hE hpf hr1 hr2 hr3 hr4 hr5 h hO0
      cases e1 : (oo == 0)
      · have e1n : oo ≠ 0 := by simpa using e1
        by_cases e2 : oow < l
        · have e2i : (oow : Int) < (l : Int) := by omega
          clear hc1 e1n
          go_wp2_with (first
            | (go_at_call 62; (with_reducible refine (token_any b g cap toks _ _ A).mono ?_); rintro r u1 ⟨rfl, b1⟩; have A := A.below b1; have K := K.tr b1; have bR := bel_box bR b1; have bL := bel_box bL b1; have Q := Q.bel b1; have hO := hO.below b1)
            | (go_at_call 109; (with_reducible refine (hop _ hO).mono ?_); rintro r u2 ⟨⟨sg, rfl⟩, b2⟩; have hBO := ltB (bel_box bL b2); have hno2 : u2.heap.size ≠ B := (by omega); have hno3 : B ≠ u2.heap.size := (by omega); have A2 := A.below b2; have K2 := K.tr b2; have Q2 := Q.bel b2; have A := A2.al (.cells #[.string sg, .int .i64 oo, .int .i64 (oow : Int), .int .i64 (of : Int), .int .i64 (os : Int)] 162); have K := K2.al (.cells #[.string sg, .int .i64 oo, .int .i64 (oow : Int), .int .i64 (of : Int), .int .i64 (os : Int)] 162); have bR := bel_box (bel_box bR b2) (bel_al _ (.cells #[.string sg, .int .i64 oo, .int .i64 (oow : Int), .int .i64 (of : Int), .int .i64 (os : Int)] 162)); have bL := bel_box (bel_box bL b2) (bel_al _ (.cells #[.string sg, .int .i64 oo, .int .i64 (oow : Int), .int .i64 (of : Int), .int .i64 (os : Int)] 162)); have Q := Q2.al (.cells #[.string sg, .int .i64 oo, .int .i64 (oow : Int), .int .i64 (of : Int), .int .i64 (os : Int)] 162); have hO := (hO.below b2).al (.cells #[.string sg, .int .i64 oo, .int .i64 (oow : Int), .int .i64 (of : Int), .int .i64 (os : Int)] 162); have bO := newB u2 #[.string sg, .int .i64 oo, .int .i64 (oow : Int), .int .i64 (of : Int), .int .i64 (os : Int)] 162; have hno : u2.heap.size ≠ b := (by have := b1.size; have := b2.size; omega); obtain ⟨x0, x1, x2, x3, x4, x5, xf, xl⟩ := six bR; obtain ⟨l0, l1, l2, l3, l4, l5, lf, ll⟩ := six bL; obtain ⟨p0, p1, p2, p3, p4, pf, pl⟩ := five bO))
          (try rw [Exit.noGoto_ret])
          refine bodyPost_ret (v := .agg #[.int .i64 op, .string mon, .string name, .int .i64 n, .slice ad kids.length cp, .int .i64 pos]) ?_ rfl ⟨op, mon, name, n, ad, cp, kids, pos, rfl, ?_, ?_, ?_, ?_⟩
          · simp [results, Tryz.results64, go_sem, x0, x1, x2, x3, x4, x5]
          · rw [HF.out]
          · refine Ex.By.weak (Ex.By.kq hBy ?_) (fun k hk _ => from_iff.2 (Nat.le_of_lt (past_iff.1 hk).1))
            repeat (first | with_reducible refine Kq.set ?_ (.inl hpR) _ | with_reducible refine Kq.al ?_ _)
            first | with_reducible exact Q2 | with_reducible exact Q
          · rw [HF.out]
            repeat (first | with_reducible refine Pz.At.put ?_ hne hng _ | with_reducible refine Pz.At.al ?_ _)
            first | with_reducible exact A2 | with_reducible exact A
          · repeat (first | with_reducible refine Kp.set ?_ (.inr (Nat.le_refl _)) _ | with_reducible refine Kp.set ?_ (.inl rfl) _ | with_reducible refine Kp.al ?_ _)
            first | with_reducible exact K2 | with_reducible exact K
        · have e2i : decide ((oow : Int) < (l : Int)) = false := by simp; omega
          have e3i : (ow : Int) < (of : Int) := by omega
          clear hc1 e1n
          go_wp2_with (first
            | (go_at_call 62; (with_reducible refine (token_any b g cap toks _ _ A).mono ?_); rintro r u1 ⟨rfl, b1⟩; have A := A.below b1; have K := K.tr b1; have bR := bel_box bR b1; have bL := bel_box bL b1; have Q := Q.bel b1; have hO := hO.below b1)
            | (go_at_call 109; (with_reducible refine (hop _ hO).mono ?_); rintro r u2 ⟨⟨sg, rfl⟩, b2⟩; have hBO := ltB (bel_box bL b2); have hno2 : u2.heap.size ≠ B := (by omega); have hno3 : B ≠ u2.heap.size := (by omega); have A2 := A.below b2; have K2 := K.tr b2; have Q2 := Q.bel b2; have A := A2.al (.cells #[.string sg, .int .i64 oo, .int .i64 (oow : Int), .int .i64 (of : Int), .int .i64 (os : Int)] 162); have K := K2.al (.cells #[.string sg, .int .i64 oo, .int .i64 (oow : Int), .int .i64 (of : Int), .int .i64 (os : Int)] 162); have bR := bel_box (bel_box bR b2) (bel_al _ (.cells #[.string sg, .int .i64 oo, .int .i64 (oow : Int), .int .i64 (of : Int), .int .i64 (os : Int)] 162)); have bL := bel_box (bel_box bL b2) (bel_al _ (.cells #[.string sg, .int .i64 oo, .int .i64 (oow : Int), .int .i64 (of : Int), .int .i64 (os : Int)] 162)); have Q := Q2.al (.cells #[.string sg, .int .i64 oo, .int .i64 (oow : Int), .int .i64 (of : Int), .int .i64 (os : Int)] 162); have hO := (hO.below b2).al (.cells #[.string sg, .int .i64 oo, .int .i64 (oow : Int), .int .i64 (of : Int), .int .i64 (os : Int)] 162); have bO := newB u2 #[.string sg, .int .i64 oo, .int .i64 (oow : Int), .int .i64 (of : Int), .int .i64 (os : Int)] 162; have hno : u2.heap.size ≠ b := (by have := b1.size; have := b2.size; omega); obtain ⟨x0, x1, x2, x3, x4, x5, xf, xl⟩ := six bR; obtain ⟨l0, l1, l2, l3, l4, l5, lf, ll⟩ := six bL; obtain ⟨p0, p1, p2, p3, p4, pf, pl⟩ := five bO))
          (try rw [Exit.noGoto_ret])
          refine bodyPost_ret (v := .agg #[.int .i64 op, .string mon, .string name, .int .i64 n, .slice ad kids.length cp, .int .i64 pos]) ?_ rfl ⟨op, mon, name, n, ad, cp, kids, pos, rfl, ?_, ?_, ?_, ?_⟩
          · simp [results, Tryz.results64, go_sem, x0, x1, x2, x3, x4, x5]
          · rw [HF.out]
          · refine Ex.By.weak (Ex.By.kq hBy ?_) (fun k hk _ => from_iff.2 (Nat.le_of_lt (past_iff.1 hk).1))
            repeat (first | with_reducible refine Kq.set ?_ (.inl hpR) _ | with_reducible refine Kq.al ?_ _)
            first | with_reducible exact Q2 | with_reducible exact Q
          · rw [HF.out]
            repeat (first | with_reducible refine Pz.At.put ?_ hne hng _ | with_reducible refine Pz.At.al ?_ _)
            first | with_reducible exact A2 | with_reducible exact A
          · repeat (first | with_reducible refine Kp.set ?_ (.inr (Nat.le_refl _)) _ | with_reducible refine Kp.set ?_ (.inl rfl) _ | with_reducible refine Kp.al ?_ _)
            first | with_reducible exact K2 | with_reducible exact K
      · obtain rfl : oo = 0 := by simpa using e1
        clear hc1
        go_wp2_with (first
          | (go_at_call 62; (with_reducible refine (token_any b g cap toks _ _ A).mono ?_); rintro r u1 ⟨rfl, b1⟩; have A := A.below b1; have K := K.tr b1; have bR := bel_box bR b1; have bL := bel_box bL b1; have Q := Q.bel b1; have hO := hO.below b1)
          | (go_at_call 109; (with_reducible refine (hop _ hO).mono ?_); rintro r u2 ⟨⟨sg, rfl⟩, b2⟩; have hBO := ltB (bel_box bL b2); have hno2 : u2.heap.size ≠ B := (by omega); have hno3 : B ≠ u2.heap.size := (by omega); have A2 := A.below b2; have K2 := K.tr b2; have Q2 := Q.bel b2; have A := A2.al (.cells #[.string sg, .int .i64 0, .int .i64 (oow : Int), .int .i64 (of : Int), .int .i64 (os : Int)] 162); have K := K2.al (.cells #[.string sg, .int .i64 0, .int .i64 (oow : Int), .int .i64 (of : Int), .int .i64 (os : Int)] 162); have bR := bel_box (bel_box bR b2) (bel_al _ (.cells #[.string sg, .int .i64 0, .int .i64 (oow : Int), .int .i64 (of : Int), .int .i64 (os : Int)] 162)); have bL := bel_box (bel_box bL b2) (bel_al _ (.cells #[.string sg, .int .i64 0, .int .i64 (oow : Int), .int .i64 (of : Int), .int .i64 (os : Int)] 162)); have Q := Q2.al (.cells #[.string sg, .int .i64 0, .int .i64 (oow : Int), .int .i64 (of : Int), .int .i64 (os : Int)] 162); have hO := (hO.below b2).al (.cells #[.string sg, .int .i64 0, .int .i64 (oow : Int), .int .i64 (of : Int), .int .i64 (os : Int)] 162); have bO := newB u2 #[.string sg, .int .i64 0, .int .i64 (oow : Int), .int .i64 (of : Int), .int .i64 (os : Int)] 162; have hno : u2.heap.size ≠ b := (by have := b1.size; have := b2.size; omega); obtain ⟨x0, x1, x2, x3, x4, x5, xf, xl⟩ := six bR; obtain ⟨l0, l1, l2, l3, l4, l5, lf, ll⟩ := six bL; obtain ⟨p0, p1, p2, p3, p4, pf, pl⟩ := five bO))
        (try rw [Exit.noGoto_ret])
        refine bodyPost_ret (v := .agg #[.int .i64 op, .string mon, .string name, .int .i64 n, .slice ad kids.length cp, .int .i64 pos]) ?_ rfl ⟨op, mon, name, n, ad, cp, kids, pos, rfl, ?_, ?_, ?_, ?_⟩
        · simp [results, Tryz.results64, go_sem, x0, x1, x2, x3, x4, x5]
        · rw [HF.out]
        · refine Ex.By.weak (Ex.By.kq hBy ?_) (fun k hk _ => from_iff.2 (Nat.le_of_lt (past_iff.1 hk).1))
          repeat (first | with_reducible refine Kq.set ?_ (.inl hpR) _ | with_reducible refine Kq.al ?_ _)
          first | with_reducible exact Q2 | with_reducible exact Q
        · rw [HF.out]
          repeat (first | with_reducible refine Pz.At.put ?_ hne hng _ | with_reducible refine Pz.At.al ?_ _)
          first | with_reducible exact A2 | with_reducible exact A
        · repeat (first | with_reducible refine Kp.set ?_ (.inr (Nat.le_refl _)) _ | with_reducible refine Kp.set ?_ (.inl rfl) _ | with_reducible refine Kp.al ?_ _)
          first | with_reducible exact K2 | with_reducible exact K
    · have hn1 : oo ≠ 0 := fun hh => hc1 (.inl hh)
      have e1 : (oo == 0) = false := by rw [beq_eq_false_iff_ne]; exact hn1
      have e2 : decide ((oow : Int) < (l : Int)) = false := by
        simp only [decide_eq_false_iff_not]
        intro hh; exact hc1 (.inr (.inl (by omega)))
      have e3 : decide ((ow : Int) < (of : Int)) = false := by
        simp only [decide_eq_false_iff_not]
        intro hh; exact hc1 (.inr (.inr (by omega)))
      have e2n : ¬ oow < l := fun hh => hc1 (.inr (.inl hh))
      have e3n : ¬ ow < of := fun hh => hc1 (.inr (.inr hh))
      have hk5 := hke hn1
      have hpl := pass_lt A.ok hk5
      have HL2 : Hid (R = loop (fi - 1) l (ex oo e0 e0 0 [(Ex.mk op mon name n ad cp kids pos).clr, (exprAt (fi - 1) os s'.pass).1] pos) oow (exprAt (fi - 1) os s'.pass).2) := by
        show _ = _
        rw [← HS.out, HL.out, if_neg hc1]; rfl
      have hEi := hE (fi - 1) (by omega) os s'.pass
      have hle := (expr_le (fi - 1)).1 os s'.pass
      have hbd : Bd s'.pass := ⟨by rw [pass_opn, HLe.out.1]; exact hBd.1, by have h1 := HLe.out; have h2 := hBd.2; rw [pass_opn, h1.1]; omega⟩
      have HP : Hid (s'.pass.opn = s'.opn) := pass_opn s'
      have hip : I64 pos := hBy.down.1.2.2.1
      obtain ⟨res, hres⟩ : ∃ res, exprAt (fi - 1) os s'.pass = res := ⟨_, rfl⟩
      rw [hres] at HL2 hEi hle
      have HLR : Hid (res.2.opn = s.opn ∧ res.2.rest.length + 1 ≤ s'.rest.length) := ⟨by rw [hle.1, HP.out]; exact HLe.out.1, by have := hle.2; omega⟩
      have hfu : 3 * s'.pass.rest.length + 2 ≤ fi - 1 := by omega
      have HG := hid hgn
      have HK := hid hpl
      have HF2 : Hid (3 * s'.rest.length + 1 ≤ fi ∧ fi ≤ F) := ⟨hfi, hfF⟩
      have hsl : s'.rest.length ≤ s.rest.length := HLe.out.2
      have HSL := hid hsl
      clear hres hle HL HS hke hE hpf hr2 h hO0 hc1 hn1 hk5 hgn hpl hfi hfF HLe hsl hF hBd how how'
      go_wp2_with (first
        | (go_at_call 62; (with_reducible refine (token_any b g cap toks _ _ A).mono ?_); rintro r u1 ⟨rfl, b1⟩; have A := A.below b1; have K := K.tr b1; have bR := bel_box bR b1; have bL := bel_box bL b1; have Q := Q.bel b1; have hO := hO.below b1)
        | (go_at_call 109; (with_reducible refine (hop _ hO).mono ?_); rintro r u2 ⟨⟨sg, rfl⟩, b2⟩; have hBO := ltB (bel_box bL b2); have hno2 : u2.heap.size ≠ B := (by omega); have hno3 : B ≠ u2.heap.size := (by omega); have A2 := A.below b2; have K2 := K.tr b2; have Q2 := Q.bel b2; have A := A2.al (.cells #[.string sg, .int .i64 oo, .int .i64 (oow : Int), .int .i64 (of : Int), .int .i64 (os : Int)] 162); have K := K2.al (.cells #[.string sg, .int .i64 oo, .int .i64 (oow : Int), .int .i64 (of : Int), .int .i64 (os : Int)] 162); have bR := bel_box (bel_box bR b2) (bel_al _ (.cells #[.string sg, .int .i64 oo, .int .i64 (oow : Int), .int .i64 (of : Int), .int .i64 (os : Int)] 162)); have bL := bel_box (bel_box bL b2) (bel_al _ (.cells #[.string sg, .int .i64 oo, .int .i64 (oow : Int), .int .i64 (of : Int), .int .i64 (os : Int)] 162)); have Q := Q2.al (.cells #[.string sg, .int .i64 oo, .int .i64 (oow : Int), .int .i64 (of : Int), .int .i64 (os : Int)] 162); have hO := (hO.below b2).al (.cells #[.string sg, .int .i64 oo, .int .i64 (oow : Int), .int .i64 (of : Int), .int .i64 (os : Int)] 162); have bO := newB u2 #[.string sg, .int .i64 oo, .int .i64 (oow : Int), .int .i64 (of : Int), .int .i64 (os : Int)] 162; have hno : u2.heap.size ≠ b := (by have := b1.size; have := b2.size; omega); obtain ⟨x0, x1, x2, x3, x4, x5, xf, xl⟩ := six bR; obtain ⟨l0, l1, l2, l3, l4, l5, lf, ll⟩ := six bL; obtain ⟨p0, p1, p2, p3, p4, pf, pl⟩ := five bO)
        | (go_at_call 110; (with_reducible refine (pass_any b g cap toks _ _ A).mono ?_); rintro r u3 ⟨rfl, A, k3⟩; have K := K.trans k3; have bR := k3.box bR hne; have bL := k3.box bL hBb; have bO := k3.box bO hno; have Q := Q.kp k3 (past_le (by omega)); have hO := hO.kp k3 hb2; obtain ⟨p0, p1, p2, p3, p4, pf, pl⟩ := five bO; have hz3 := ltB bO)
        | (go_at_call 64; (with_reducible refine (hEi _ (by omega) A hO hbd hfu).mono ?_); rintro r u4 ⟨rop, rmon, rname, rn, rad, rcp, rkids, rpos, rfl, hrclr, hrBy, A, k4⟩; have K := K.trans k4; have bR := k4.box bR hne; have bL := k4.box bL hBb; have bO := k4.box bO hno; have Q := Q.kp k4 (past_le (by omega)); obtain ⟨p0, p1, p2, p3, p4, pf, pl⟩ := five bO; obtain ⟨l0, l1, l2, l3, l4, l5, lf, ll⟩ := six bL; have hz4 := k4.size))
      go_roundg res.2.rest.length
      case measure => have := HG.out; have := HLR.out.2; omega
      case rel =>
        refine ⟨oo, ⟨#[]⟩, ⟨#[]⟩, 0, some ⟨u4.heap.size + 1, 0, none⟩, 2, [.mk op mon name n ad cp kids pos, .mk rop rmon rname rn rad rcp rkids rpos], pos, fi - 1, oow, res.2, rfl, rfl, hr1, ?_, ?_, ?_, ?_, ?_, ?_, ?_, ?_, ?_⟩
        · exact bel_box (bel_box (six_set bL _ _ _ _ _ _) (bel_al _ _)) (bel_al _ _)
        · refine By.up (Q := past w.heap.size B) (n := 0) (kids := [.mk op mon name n ad cp kids pos, .mk rop rmon rname rn rad rcp rkids rpos]) (k := u4.heap.size + 1) (T := 25) (c := #[.int .i64 op, .string mon, .string name, .int .i64 n, .slice ad kids.length cp, .int .i64 pos, .int .i64 rop, .string rmon, .string rname, .int .i64 rn, .slice rad rkids.length rcp, .int .i64 rpos]) (past_iff.2 ⟨by omega, by omega⟩) ⟨i64_small hr4 (by omega), i64_small (by decide) (by decide), hip, len_e0, len_e0⟩ (by simp) rfl (newB' _ _ _ _ (by simp)) ?_
          intro y hy
          rcases List.mem_cons.1 hy with rfl | hy
          · refine Ex.By.kq hBy ?_
            repeat (first | with_reducible refine Kq.set ?_ (.inl hpB) _ | with_reducible refine Kq.al ?_ _)
            with_reducible exact Q
          · rw [List.mem_singleton.1 hy]
            refine Ex.By.kq (Ex.By.weak hrBy (fun k hk _ => past_iff.2 ⟨by have := from_iff.1 hk; omega, by have := from_iff.1 hk; omega⟩)) ?_
            repeat (first | with_reducible refine Kq.set ?_ (.inl hpB) _ | with_reducible refine Kq.al ?_ _)
            with_reducible exact Kq.refl _ _
        · repeat (first | with_reducible refine Pz.At.put ?_ hBb hBg _ | with_reducible refine Pz.At.al ?_ _)
          with_reducible exact A
        · repeat (first | with_reducible refine Kp.set ?_ (.inr hBw) _ | with_reducible refine Kp.al ?_ _)
          with_reducible exact K
        · refine bel_box (bel_box ?_ (bel_al _ _)) (bel_al _ _)
          repeat (with_reducible refine set_box ?_ hRB _)
          with_reducible exact bR
        · show _ = _
          rw [HL2.out, Ex.clr, Ex.clrL, Ex.clrL, Ex.clrL, hrclr]; rfl
        · have := HF2.out; have := HLR.out; omega
        · have := HF2.out; omega
        · exact ⟨HLR.out.1, by have := HLR.out.2; have := HSL.out; omega⟩
end Go.Proofs.YtaekbgljbgmchaaGreatDoor
