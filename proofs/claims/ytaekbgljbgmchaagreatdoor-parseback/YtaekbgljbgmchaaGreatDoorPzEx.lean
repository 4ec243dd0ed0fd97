/-
  Expr of package parse reads what the plain function says.
-/
import Derived.Test.YtaekbgljbgmchaaGreatDoorPzRd
namespace Go.Proofs.YtaekbgljbgmchaaGreatDoor
open Go.RowKit
open Lx (Out)
open Pz
/-- What read made of all that there is. -/
def wholeOf (x : Ex × S) : Ex × Int × Int := if (atEnd x.2).err = 0 then (x.1, 0, 0) else (exZ, (atEnd x.2).err, (atEnd x.2).pos)
/-- What Expr comes to. -/
def ExOut (x : Ex × Int × Int) (w : World) (r : Ending) (w' : World) : Prop :=
  ∃ op mon name n ad cp kids pos, r = .returned (.tuple #[.agg #[.int .i64 op, .string mon, .string name, .int .i64 n, .slice ad (kids : List Ex).length cp, .int .i64 pos], .int .i64 x.2.1, .int .i64 x.2.2]) ∧ (Ex.mk op mon name n ad cp kids pos).clr = x.1 ∧ (Ex.mk op mon name n ad cp kids pos).By (from_ w.heap.size) w'
set_option maxRecDepth 100000 in
set_option maxHeartbeats 2000000 in
theorem whole_expr (x : Ex × S) (b g cap : Nat) (toks : List Out) (s : S) (w : World) (h : At b g cap toks s w)
    (hE : ∀ W, At b g cap toks s W → Kp b w W → Calls Tryz.prog 30 #[.pointer (some ⟨b, 0, none⟩)] W (ExBack b g cap toks x W)) :
    Calls Tryz.prog 29 #[.pointer (some ⟨b, 0, none⟩), .func (.func 30) #[.pointer (some ⟨b, 0, none⟩)] #[]] w fun r w' => ExOut (wholeOf x) w r w' ∧ Kp b w w' := by
  have hb := h.lt
  have hgl := h.glt
  have A := h.al (.cells #[.int .i64 0, .string ⟨#[]⟩, .string ⟨#[]⟩, .int .i64 0, .slice none 0 0, .int .i64 0] 25)
  have bR := newB w #[.int .i64 0, .string ⟨#[]⟩, .string ⟨#[]⟩, .int .i64 0, .slice none 0 0, .int .i64 0] 25
  have hne : w.heap.size ≠ b := by omega
  have hng : w.heap.size ≠ g := by omega
  have K : Kp b w (w.alloc (.cells #[.int .i64 0, .string ⟨#[]⟩, .string ⟨#[]⟩, .int .i64 0, .slice none 0 0, .int .i64 0] 25)) := (Kp.refl b w).al _
  have htk : ∀ W, At b g cap toks x.2 W → Calls Tryz.prog 62 #[.pointer (some ⟨b, 0, none⟩)] W fun e w' => e = .returned (.agg #[.int .i64 x.2.hd.kind, .string x.2.hd.text, .int .i64 x.2.hd.n, .int .i64 (x.2.hd.pos : Int)]) ∧ Below W.heap.size W w' := fun W hW => token_any b g cap toks _ W hW
  have f0 := fld0
  have hbq : b < (w.alloc (.cells #[.int .i64 0, .string ⟨#[]⟩, .string ⟨#[]⟩, .int .i64 0, .slice none 0 0, .int .i64 0] 25)).heap.size := A.lt
  obtain ⟨R, hR⟩ : ∃ R, wholeOf x = R := ⟨_, rfl⟩
  rw [hR]
  cases q : (x.2.hd.kind != 5)
  · have ha : atEnd x.2 = x.2 := by unfold atEnd; rw [if_pos (by simpa using q)]
    cases q2 : (x.2.err != 0)
    · have HR : Hid (R = (x.1, 0, 0)) := by show _ = _; rw [← hR]; unfold wholeOf; rw [ha, if_pos (by simpa using q2)]
      clear hR ha h
      go_enter Tryz.func29, Tryz.ntmps29
      go_wp2_with (first
            | (go_at_call 30; (with_reducible refine (hE _ A K).mono ?_); rintro r w1 ⟨op, mon, name, n, ad, cp, kids, pos, rfl, hclr, hBy, A, k⟩; have K := K.trans k; have bR := k.box bR hne; have hnx : w1.heap.size ≠ b := (by have := ltB bR; omega); have hnxR : w.heap.size ≠ w1.heap.size := (by have := ltB bR; omega); have A := A.al (.cells #[.int .i64 op, .string mon, .string name, .int .i64 n, .slice ad kids.length cp, .int .i64 pos] 25); have K := K.al (.cells #[.int .i64 op, .string mon, .string name, .int .i64 n, .slice ad kids.length cp, .int .i64 pos] 25); have bR := bel_box bR (bel_al _ (.cells #[.int .i64 op, .string mon, .string name, .int .i64 n, .slice ad kids.length cp, .int .i64 pos] 25)); have bX := newB w1 #[.int .i64 op, .string mon, .string name, .int .i64 n, .slice ad kids.length cp, .int .i64 pos] 25; have Q := (Kq.refl (from_ (w.alloc (.cells #[.int .i64 0, .string ⟨#[]⟩, .string ⟨#[]⟩, .int .i64 0, .slice none 0 0, .int .i64 0] 25)).heap.size) w1).al (.cells #[.int .i64 op, .string mon, .string name, .int .i64 n, .slice ad kids.length cp, .int .i64 pos] 25))
            | (go_at_call 62; (with_reducible refine (htk _ A).mono ?_); rintro r w2 ⟨rfl, b2⟩; have A := A.below b2; have K := K.tr b2; have bR := bel_box bR b2; have bX := bel_box bX b2; have Q := Q.bel b2; obtain ⟨-, -, -, c3, c4, cf⟩ := A.cells; obtain ⟨x0, x1, x2, x3, x4, x5, xf, xl⟩ := six bR; obtain ⟨y0, y1, y2, y3, y4, y5, yf, yl⟩ := six bX; have hb3 := A.lt))
      rw [HR.out]
      refine bodyPost_ret (v := .tuple #[.agg #[.int .i64 op, .string mon, .string name, .int .i64 n, .slice ad kids.length cp, .int .i64 pos], .int .i64 0, .int .i64 0]) ?_ rfl ⟨⟨op, mon, name, n, ad, cp, kids, pos, rfl, hclr, ?_⟩, ?_⟩
      · simp [results, Tryz.results29, go_sem, x0, x1, x2, x3, x4, x5]
      · have hz1 : w.heap.size < (w.alloc (.cells #[.int .i64 0, .string ⟨#[]⟩, .string ⟨#[]⟩, .int .i64 0, .slice none 0 0, .int .i64 0] 25)).heap.size := by simp
        refine (Ex.By.kq hBy ?_).mono (Nat.le_of_lt hz1)
        repeat (first | with_reducible refine Kq.set ?_ (.inl (from_not hz1)) _ | with_reducible refine Kq.al ?_ _)
        with_reducible exact Q
      · repeat (first | with_reducible refine Kp.set ?_ (.inr (Nat.le_refl _)) _ | with_reducible refine Kp.set ?_ (.inl rfl) _ | with_reducible refine Kp.al ?_ _)
        with_reducible exact K
    · have HR : Hid (R = (exZ, x.2.err, x.2.pos)) := by show _ = _; rw [← hR]; unfold wholeOf; rw [ha, if_neg (by simpa using q2)]
      clear hR ha h
      go_enter Tryz.func29, Tryz.ntmps29
      go_wp2_with (first
            | (go_at_call 30; (with_reducible refine (hE _ A K).mono ?_); rintro r w1 ⟨op, mon, name, n, ad, cp, kids, pos, rfl, hclr, hBy, A, k⟩; have K := K.trans k; have bR := k.box bR hne; have hnx : w1.heap.size ≠ b := (by have := ltB bR; omega); have hnxR : w.heap.size ≠ w1.heap.size := (by have := ltB bR; omega); have A := A.al (.cells #[.int .i64 op, .string mon, .string name, .int .i64 n, .slice ad kids.length cp, .int .i64 pos] 25); have K := K.al (.cells #[.int .i64 op, .string mon, .string name, .int .i64 n, .slice ad kids.length cp, .int .i64 pos] 25); have bR := bel_box bR (bel_al _ (.cells #[.int .i64 op, .string mon, .string name, .int .i64 n, .slice ad kids.length cp, .int .i64 pos] 25)); have bX := newB w1 #[.int .i64 op, .string mon, .string name, .int .i64 n, .slice ad kids.length cp, .int .i64 pos] 25; have Q := (Kq.refl (from_ (w.alloc (.cells #[.int .i64 0, .string ⟨#[]⟩, .string ⟨#[]⟩, .int .i64 0, .slice none 0 0, .int .i64 0] 25)).heap.size) w1).al (.cells #[.int .i64 op, .string mon, .string name, .int .i64 n, .slice ad kids.length cp, .int .i64 pos] 25))
            | (go_at_call 62; (with_reducible refine (htk _ A).mono ?_); rintro r w2 ⟨rfl, b2⟩; have A := A.below b2; have K := K.tr b2; have bR := bel_box bR b2; have bX := bel_box bX b2; have Q := Q.bel b2; obtain ⟨-, -, -, c3, c4, cf⟩ := A.cells; obtain ⟨x0, x1, x2, x3, x4, x5, xf, xl⟩ := six bR; obtain ⟨y0, y1, y2, y3, y4, y5, yf, yl⟩ := six bX; have hb3 := A.lt))
      go_region
      all_goals go_wp2
      all_goals rw [HR.out]
      all_goals refine bodyPost_ret (v := .tuple #[.agg #[.int .i64 0, .string ⟨#[]⟩, .string ⟨#[]⟩, .int .i64 0, .slice none 0 0, .int .i64 0], .int .i64 x.2.err, .int .i64 x.2.pos]) ?_ rfl ⟨⟨0, ⟨#[]⟩, ⟨#[]⟩, 0, none, 0, [], 0, rfl, ?_, By.zero⟩, ?_⟩
      all_goals first | (rw [Ex.clr, Ex.clrL]; rfl) | ((repeat (first | with_reducible refine Kp.set ?_ (.inr (Nat.le_refl _)) _ | with_reducible refine Kp.al ?_ _ | with_reducible refine Kp.drew ?_)); with_reducible exact K) | simp [results, Tryz.results29, go_sem, x0, x1, x2, x3, x4, x5, xl]
  · have ha : atEnd x.2 = x.2.refuse 40 := by unfold atEnd; rw [if_neg (by simpa using q)]
    cases q2 : ((x.2.refuse 40).err != 0)
    · have HR : Hid (R = (x.1, 0, 0)) := by show _ = _; rw [← hR]; unfold wholeOf; rw [ha, if_pos (by simpa using q2)]
      clear hR ha h
      go_enter Tryz.func29, Tryz.ntmps29
      go_wp2_with (first
            | (go_at_call 30; (with_reducible refine (hE _ A K).mono ?_); rintro r w1 ⟨op, mon, name, n, ad, cp, kids, pos, rfl, hclr, hBy, A, k⟩; have K := K.trans k; have bR := k.box bR hne; have hnx : w1.heap.size ≠ b := (by have := ltB bR; omega); have hnxR : w.heap.size ≠ w1.heap.size := (by have := ltB bR; omega); have A := A.al (.cells #[.int .i64 op, .string mon, .string name, .int .i64 n, .slice ad kids.length cp, .int .i64 pos] 25); have K := K.al (.cells #[.int .i64 op, .string mon, .string name, .int .i64 n, .slice ad kids.length cp, .int .i64 pos] 25); have bR := bel_box bR (bel_al _ (.cells #[.int .i64 op, .string mon, .string name, .int .i64 n, .slice ad kids.length cp, .int .i64 pos] 25)); have bX := newB w1 #[.int .i64 op, .string mon, .string name, .int .i64 n, .slice ad kids.length cp, .int .i64 pos] 25; have Q := (Kq.refl (from_ (w.alloc (.cells #[.int .i64 0, .string ⟨#[]⟩, .string ⟨#[]⟩, .int .i64 0, .slice none 0 0, .int .i64 0] 25)).heap.size) w1).al (.cells #[.int .i64 op, .string mon, .string name, .int .i64 n, .slice ad kids.length cp, .int .i64 pos] 25))
            | (go_at_call 62; (with_reducible refine (htk _ A).mono ?_); rintro r w2 ⟨rfl, b2⟩; have A := A.below b2; have K := K.tr b2; have bR := bel_box bR b2; have bX := bel_box bX b2; have Q := Q.bel b2; obtain ⟨-, -, -, c3, c4, cf⟩ := A.cells; obtain ⟨x0, x1, x2, x3, x4, x5, xf, xl⟩ := six bR; obtain ⟨y0, y1, y2, y3, y4, y5, yf, yl⟩ := six bX; have hb3 := A.lt)
            | (go_at_call 63; (with_reducible refine (refuse_any 40 b g cap toks _ _ A).mono ?_); rintro r w3 ⟨rfl, A, k⟩; have K := K.trans k; have bR := k.box bR hne; have bX := k.box bX hnx; have Q := Q.kp k (from_not hbq); obtain ⟨-, -, -, c3, c4, cf⟩ := A.cells; obtain ⟨x0, x1, x2, x3, x4, x5, xf, xl⟩ := six bR; obtain ⟨y0, y1, y2, y3, y4, y5, yf, yl⟩ := six bX; have hb3 := A.lt))
      rw [HR.out]
      refine bodyPost_ret (v := .tuple #[.agg #[.int .i64 op, .string mon, .string name, .int .i64 n, .slice ad kids.length cp, .int .i64 pos], .int .i64 0, .int .i64 0]) ?_ rfl ⟨⟨op, mon, name, n, ad, cp, kids, pos, rfl, hclr, ?_⟩, ?_⟩
      · simp [results, Tryz.results29, go_sem, x0, x1, x2, x3, x4, x5]
      · have hz1 : w.heap.size < (w.alloc (.cells #[.int .i64 0, .string ⟨#[]⟩, .string ⟨#[]⟩, .int .i64 0, .slice none 0 0, .int .i64 0] 25)).heap.size := by simp
        refine (Ex.By.kq hBy ?_).mono (Nat.le_of_lt hz1)
        repeat (first | with_reducible refine Kq.set ?_ (.inl (from_not hz1)) _ | with_reducible refine Kq.al ?_ _)
        with_reducible exact Q
      · repeat (first | with_reducible refine Kp.set ?_ (.inr (Nat.le_refl _)) _ | with_reducible refine Kp.set ?_ (.inl rfl) _ | with_reducible refine Kp.al ?_ _)
        with_reducible exact K
    · have HR : Hid (R = (exZ, (x.2.refuse 40).err, (x.2.refuse 40).pos)) := by show _ = _; rw [← hR]; unfold wholeOf; rw [ha, if_neg (by simpa using q2)]
      clear hR ha h
      go_enter Tryz.func29, Tryz.ntmps29
      go_wp2_with (first
            | (go_at_call 30; (with_reducible refine (hE _ A K).mono ?_); rintro r w1 ⟨op, mon, name, n, ad, cp, kids, pos, rfl, hclr, hBy, A, k⟩; have K := K.trans k; have bR := k.box bR hne; have hnx : w1.heap.size ≠ b := (by have := ltB bR; omega); have hnxR : w.heap.size ≠ w1.heap.size := (by have := ltB bR; omega); have A := A.al (.cells #[.int .i64 op, .string mon, .string name, .int .i64 n, .slice ad kids.length cp, .int .i64 pos] 25); have K := K.al (.cells #[.int .i64 op, .string mon, .string name, .int .i64 n, .slice ad kids.length cp, .int .i64 pos] 25); have bR := bel_box bR (bel_al _ (.cells #[.int .i64 op, .string mon, .string name, .int .i64 n, .slice ad kids.length cp, .int .i64 pos] 25)); have bX := newB w1 #[.int .i64 op, .string mon, .string name, .int .i64 n, .slice ad kids.length cp, .int .i64 pos] 25; have Q := (Kq.refl (from_ (w.alloc (.cells #[.int .i64 0, .string ⟨#[]⟩, .string ⟨#[]⟩, .int .i64 0, .slice none 0 0, .int .i64 0] 25)).heap.size) w1).al (.cells #[.int .i64 op, .string mon, .string name, .int .i64 n, .slice ad kids.length cp, .int .i64 pos] 25))
            | (go_at_call 62; (with_reducible refine (htk _ A).mono ?_); rintro r w2 ⟨rfl, b2⟩; have A := A.below b2; have K := K.tr b2; have bR := bel_box bR b2; have bX := bel_box bX b2; have Q := Q.bel b2; obtain ⟨-, -, -, c3, c4, cf⟩ := A.cells; obtain ⟨x0, x1, x2, x3, x4, x5, xf, xl⟩ := six bR; obtain ⟨y0, y1, y2, y3, y4, y5, yf, yl⟩ := six bX; have hb3 := A.lt)
            | (go_at_call 63; (with_reducible refine (refuse_any 40 b g cap toks _ _ A).mono ?_); rintro r w3 ⟨rfl, A, k⟩; have K := K.trans k; have bR := k.box bR hne; have bX := k.box bX hnx; have Q := Q.kp k (from_not hbq); obtain ⟨-, -, -, c3, c4, cf⟩ := A.cells; obtain ⟨x0, x1, x2, x3, x4, x5, xf, xl⟩ := six bR; obtain ⟨y0, y1, y2, y3, y4, y5, yf, yl⟩ := six bX; have hb3 := A.lt))
      go_region
      all_goals go_wp2
      all_goals rw [HR.out]
      all_goals refine bodyPost_ret (v := .tuple #[.agg #[.int .i64 0, .string ⟨#[]⟩, .string ⟨#[]⟩, .int .i64 0, .slice none 0 0, .int .i64 0], .int .i64 (x.2.refuse 40).err, .int .i64 (x.2.refuse 40).pos]) ?_ rfl ⟨⟨0, ⟨#[]⟩, ⟨#[]⟩, 0, none, 0, [], 0, rfl, ?_, By.zero⟩, ?_⟩
      all_goals first | (rw [Ex.clr, Ex.clrL]; rfl) | ((repeat (first | with_reducible refine Kp.set ?_ (.inr (Nat.le_refl _)) _ | with_reducible refine Kp.al ?_ _ | with_reducible refine Kp.drew ?_)); with_reducible exact K) | simp [results, Tryz.results29, go_sem, x0, x1, x2, x3, x4, x5, xl]
set_option maxRecDepth 100000 in
set_option maxHeartbeats 2000000 in
theorem parseExpr_any (s : ByteArray) (w : World) (hs : s.size ≤ 20000) (hE : HasErr w) (hO : Opers w) :
    Calls Tryz.prog 10 #[.string s] w fun r w' => ExOut (wholeOf (Pz.expr (reader s))) w r w' ∧ Below w.heap.size w w' := by
  have bR := newB w #[.int .i64 0, .string ⟨#[]⟩, .string ⟨#[]⟩, .int .i64 0, .slice none 0 0, .int .i64 0] 25
  have h1 := newReader_any s (w.alloc (.cells #[.int .i64 0, .string ⟨#[]⟩, .string ⟨#[]⟩, .int .i64 0, .slice none 0 0, .int .i64 0] 25)) hs (hE.alloc _)
  have hO1 := hO.al (.cells #[.int .i64 0, .string ⟨#[]⟩, .string ⟨#[]⟩, .int .i64 0, .slice none 0 0, .int .i64 0] 25)
  have h29 : ∀ b g cap toks W, At b g cap toks (reader s) W → b ≠ 2 → Opers W → (reader s).rest.length ≤ 20001 → Calls Tryz.prog 29 #[.pointer (some ⟨b, 0, none⟩), .func (.func 30) #[.pointer (some ⟨b, 0, none⟩)] #[]] W fun r w' => ExOut (wholeOf (Pz.expr (reader s))) W r w' ∧ Kp b W w' := fun b g cap toks W hA hb hOW hl =>
    whole_expr (Pz.expr (reader s)) b g cap toks (reader s) W hA (fun V hV kV => expr_c _ b g cap toks (reader s) V hV (hOW.kp kV hb) hb (by have h0 : (reader s).opn = 0 := (by unfold reader; split <;> rfl); exact ⟨by rw [h0]; decide, by rw [h0]; omega⟩) (by unfold fuel; omega))
  obtain ⟨X, hX⟩ : ∃ X, wholeOf (Pz.expr (reader s)) = X := ⟨_, rfl⟩
  simp only [hX] at h29
  rw [hX]
  clear hX
  go_enter Tryz.func10, Tryz.ntmps10
  go_wp2_with (first
      | (go_at_call 28; (with_reducible refine h1.mono ?_); rintro r w1 ⟨b, g, gcap, toks, rfl, A, hnn, hb, hg, hlen, hre, b1⟩; have bR := bel_box bR b1; have hO2 := hO1.below b1; have hl2 := hO.2; simp only [World.size_alloc] at hb; have hb2 : b ≠ 2 := (by omega); have hne : w.heap.size ≠ b := (by omega); have B1 := (bel_al w (.cells #[.int .i64 0, .string ⟨#[]⟩, .string ⟨#[]⟩, .int .i64 0, .slice none 0 0, .int .i64 0] 25)).trans (b1.mono (by simp)); have hz1 := ltB bR)
      | (go_at_call 29; (with_reducible refine (h29 b g gcap toks _ A hb2 hO2 hlen).mono ?_); rintro r w3 ⟨⟨op, mon, name, n, ad, cp, kids, pos, rfl, hclr, hBy⟩, k⟩; have bR := k.box bR hne; obtain ⟨x0, x1, x2, x3, x4, x5, xf, xl⟩ := six bR))
  refine bodyPost_ret (v := .tuple #[.agg #[.int .i64 op, .string mon, .string name, .int .i64 n, .slice ad kids.length cp, .int .i64 pos], .int .i64 X.2.1, .int .i64 X.2.2]) ?_ rfl ⟨⟨op, mon, name, n, ad, cp, kids, pos, rfl, hclr, ?_⟩, ?_⟩
  · simp [results, Tryz.results10, go_sem, x0, x1, x2, x3, x4, x5]
  · refine (Ex.By.kq hBy ?_).mono (Nat.le_of_lt hz1)
    repeat (first | with_reducible refine Kq.set ?_ (.inl (from_not hz1)) _ | with_reducible refine Kq.al ?_ _)
    with_reducible exact Kq.refl _ _
  · repeat (refine Below.setCell ?_ (by simp) _)
    exact B1.trans ⟨k.os, k.tape, k.output, k.size, fun i hi => k.block i (by omega) (by omega)⟩
end Go.Proofs.YtaekbgljbgmchaaGreatDoor
