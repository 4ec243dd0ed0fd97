/-
  whole of programs.
-/
import Derived.Test.YtaekbgljbgmchaaGreatDoorPzPr
import Derived.Test.YtaekbgljbgmchaaGreatDoorPzEx
namespace Go.Proofs.YtaekbgljbgmchaaGreatDoor
open Go.RowKit
open Lx (Out)
open Pz
/-- What read made of all that there is. -/
def wholeOfP (x : Pr × S) : Pr × Int × Int := if (atEnd x.2).err = 0 then (x.1, 0, 0) else (pr [] [], (atEnd x.2).err, (atEnd x.2).pos)
/-- What Parse comes to. -/
def PrOut (x : Pr × Int × Int) (w : World) (r : Ending) (w' : World) : Prop :=
  ∃ mad mcp lm rad rcp lr, r = .returned (.tuple #[.agg #[.slice mad (lm : List Mo).length mcp, .slice rad (lr : List Ro).length rcp], .int .i64 x.2.1, .int .i64 x.2.2]) ∧ (Pr.mk mad mcp lm rad rcp lr).clr = x.1 ∧ (Pr.mk mad mcp lm rad rcp lr).By (from_ w.heap.size) w'
theorem PrBy.zero {n : Nat} {w : World} : (Pr.mk none 0 [] none 0 []).By (from_ n) w := PrBy.own (u := .slice none 0 0) (u' := .slice none 0 0) ⟨World.ownsRow_nil _ _ _ _, by simp⟩ ⟨World.ownsRow_nil _ _ _ _, by simp⟩
set_option maxRecDepth 100000 in
set_option maxHeartbeats 2000000 in
theorem whole_prog (x : Pr × S) (b g cap : Nat) (toks : List Out) (s : S) (w : World) (h : At b g cap toks s w)
    (hE : ∀ W, At b g cap toks s W → Kp b w W → Calls Tryz.prog 36 #[.pointer (some ⟨b, 0, none⟩)] W (PrBk b g cap toks x W)) :
    Calls Tryz.prog 35 #[.pointer (some ⟨b, 0, none⟩), .func (.func 36) #[.pointer (some ⟨b, 0, none⟩)] #[]] w fun r w' => PrOut (wholeOfP x) w r w' ∧ Kp b w w' := by
  have hb := h.lt
  have hgl := h.glt
  have A := h.al (.cells #[.slice none 0 0, .slice none 0 0] 37)
  have bR := newB w #[.slice none 0 0, .slice none 0 0] 37
  have hne : w.heap.size ≠ b := by omega
  have hng : w.heap.size ≠ g := by omega
  have K : Kp b w (w.alloc (.cells #[.slice none 0 0, .slice none 0 0] 37)) := (Kp.refl b w).al _
  have htk : ∀ W, At b g cap toks x.2 W → Calls Tryz.prog 62 #[.pointer (some ⟨b, 0, none⟩)] W fun e w' => e = .returned (.agg #[.int .i64 x.2.hd.kind, .string x.2.hd.text, .int .i64 x.2.hd.n, .int .i64 (x.2.hd.pos : Int)]) ∧ Below W.heap.size W w' := fun W hW => token_any b g cap toks _ W hW
  have f0 := fld0
  have hbq : b < (w.alloc (.cells #[.slice none 0 0, .slice none 0 0] 37)).heap.size := A.lt
  obtain ⟨R, hR⟩ : ∃ R, wholeOfP x = R := ⟨_, rfl⟩
  rw [hR]
  cases q : (x.2.hd.kind != 5)
  · have ha : atEnd x.2 = x.2 := by unfold atEnd; rw [if_pos (by simpa using q)]
    cases q2 : (x.2.err != 0)
    · have HR : Hid (R = (x.1, 0, 0)) := by show _ = _; rw [← hR]; unfold wholeOfP; rw [ha, if_pos (by simpa using q2)]
      clear hR ha h
      go_enter Tryz.func35, Tryz.ntmps35
      go_wp2_with (first
            | (go_at_call 36; (with_reducible refine (hE _ A K).mono ?_); rintro r w1 ⟨mad, mcp, lm, rad, rcp, lr, rfl, hclr, hBy, A, k⟩; have K := K.trans k; have bR := k.box bR hne; have hnx : w1.heap.size ≠ b := (by have := ltB bR; omega); have hnxR : w.heap.size ≠ w1.heap.size := (by have := ltB bR; omega); have A := A.al (.cells #[.slice mad lm.length mcp, .slice rad lr.length rcp] 37); have K := K.al (.cells #[.slice mad lm.length mcp, .slice rad lr.length rcp] 37); have bR := bel_box bR (bel_al _ (.cells #[.slice mad lm.length mcp, .slice rad lr.length rcp] 37)); have bX := newB w1 #[.slice mad lm.length mcp, .slice rad lr.length rcp] 37; have Q := (Kq.refl (from_ (w.alloc (.cells #[.slice none 0 0, .slice none 0 0] 37)).heap.size) w1).al (.cells #[.slice mad lm.length mcp, .slice rad lr.length rcp] 37))
            | (go_at_call 62; (with_reducible refine (htk _ A).mono ?_); rintro r w2 ⟨rfl, b2⟩; have A := A.below b2; have K := K.tr b2; have bR := bel_box bR b2; have bX := bel_box bX b2; have Q := Q.bel b2; obtain ⟨-, -, -, c3, c4, cf⟩ := A.cells; obtain ⟨x0, x1, xf, xl⟩ := two bR; obtain ⟨y0, y1, yf, yl⟩ := two bX; have hb3 := A.lt))
      rw [HR.out]
      refine bodyPost_ret (v := .tuple #[.agg #[.slice mad lm.length mcp, .slice rad lr.length rcp], .int .i64 0, .int .i64 0]) ?_ rfl ⟨⟨mad, mcp, lm, rad, rcp, lr, rfl, hclr, ?_⟩, ?_⟩
      · simp [results, Tryz.results35, go_sem, x0, x1]
      · have hz1 : w.heap.size < (w.alloc (.cells #[.slice none 0 0, .slice none 0 0] 37)).heap.size := by simp
        refine (Pr.By.kq hBy ?_).mono (Nat.le_of_lt hz1)
        repeat (first | with_reducible refine Kq.set ?_ (.inl (from_not hz1)) _ | with_reducible refine Kq.al ?_ _)
        with_reducible exact Q
      · repeat (first | with_reducible refine Kp.set ?_ (.inr (Nat.le_refl _)) _ | with_reducible refine Kp.set ?_ (.inl rfl) _ | with_reducible refine Kp.al ?_ _)
        with_reducible exact K
    · have HR : Hid (R = (pr [] [], x.2.err, x.2.pos)) := by show _ = _; rw [← hR]; unfold wholeOfP; rw [ha, if_neg (by simpa using q2)]
      clear hR ha h
      go_enter Tryz.func35, Tryz.ntmps35
      go_wp2_with (first
            | (go_at_call 36; (with_reducible refine (hE _ A K).mono ?_); rintro r w1 ⟨mad, mcp, lm, rad, rcp, lr, rfl, hclr, hBy, A, k⟩; have K := K.trans k; have bR := k.box bR hne; have hnx : w1.heap.size ≠ b := (by have := ltB bR; omega); have hnxR : w.heap.size ≠ w1.heap.size := (by have := ltB bR; omega); have A := A.al (.cells #[.slice mad lm.length mcp, .slice rad lr.length rcp] 37); have K := K.al (.cells #[.slice mad lm.length mcp, .slice rad lr.length rcp] 37); have bR := bel_box bR (bel_al _ (.cells #[.slice mad lm.length mcp, .slice rad lr.length rcp] 37)); have bX := newB w1 #[.slice mad lm.length mcp, .slice rad lr.length rcp] 37; have Q := (Kq.refl (from_ (w.alloc (.cells #[.slice none 0 0, .slice none 0 0] 37)).heap.size) w1).al (.cells #[.slice mad lm.length mcp, .slice rad lr.length rcp] 37))
            | (go_at_call 62; (with_reducible refine (htk _ A).mono ?_); rintro r w2 ⟨rfl, b2⟩; have A := A.below b2; have K := K.tr b2; have bR := bel_box bR b2; have bX := bel_box bX b2; have Q := Q.bel b2; obtain ⟨-, -, -, c3, c4, cf⟩ := A.cells; obtain ⟨x0, x1, xf, xl⟩ := two bR; obtain ⟨y0, y1, yf, yl⟩ := two bX; have hb3 := A.lt))
      go_region
      all_goals go_wp2
      all_goals rw [HR.out]
      all_goals refine bodyPost_ret (v := .tuple #[.agg #[.slice none 0 0, .slice none 0 0], .int .i64 x.2.err, .int .i64 x.2.pos]) ?_ rfl ⟨⟨none, 0, [], none, 0, [], rfl, ?_, PrBy.zero⟩, ?_⟩
      all_goals first | rfl | ((repeat (first | with_reducible refine Kp.set ?_ (.inr (Nat.le_refl _)) _ | with_reducible refine Kp.al ?_ _ | with_reducible refine Kp.drew ?_)); with_reducible exact K) | simp [results, Tryz.results35, go_sem, x0, x1, xl]
  · have ha : atEnd x.2 = x.2.refuse 40 := by unfold atEnd; rw [if_neg (by simpa using q)]
    cases q2 : ((x.2.refuse 40).err != 0)
    · have HR : Hid (R = (x.1, 0, 0)) := by show _ = _; rw [← hR]; unfold wholeOfP; rw [ha, if_pos (by simpa using q2)]
      clear hR ha h
      go_enter Tryz.func35, Tryz.ntmps35
      go_wp2_with (first
            | (go_at_call 36; (with_reducible refine (hE _ A K).mono ?_); rintro r w1 ⟨mad, mcp, lm, rad, rcp, lr, rfl, hclr, hBy, A, k⟩; have K := K.trans k; have bR := k.box bR hne; have hnx : w1.heap.size ≠ b := (by have := ltB bR; omega); have hnxR : w.heap.size ≠ w1.heap.size := (by have := ltB bR; omega); have A := A.al (.cells #[.slice mad lm.length mcp, .slice rad lr.length rcp] 37); have K := K.al (.cells #[.slice mad lm.length mcp, .slice rad lr.length rcp] 37); have bR := bel_box bR (bel_al _ (.cells #[.slice mad lm.length mcp, .slice rad lr.length rcp] 37)); have bX := newB w1 #[.slice mad lm.length mcp, .slice rad lr.length rcp] 37; have Q := (Kq.refl (from_ (w.alloc (.cells #[.slice none 0 0, .slice none 0 0] 37)).heap.size) w1).al (.cells #[.slice mad lm.length mcp, .slice rad lr.length rcp] 37))
            | (go_at_call 62; (with_reducible refine (htk _ A).mono ?_); rintro r w2 ⟨rfl, b2⟩; have A := A.below b2; have K := K.tr b2; have bR := bel_box bR b2; have bX := bel_box bX b2; have Q := Q.bel b2; obtain ⟨-, -, -, c3, c4, cf⟩ := A.cells; obtain ⟨x0, x1, xf, xl⟩ := two bR; obtain ⟨y0, y1, yf, yl⟩ := two bX; have hb3 := A.lt)
            | (go_at_call 63; (with_reducible refine (refuse_any 40 b g cap toks _ _ A).mono ?_); rintro r w3 ⟨rfl, A, k⟩; have K := K.trans k; have bR := k.box bR hne; have bX := k.box bX hnx; have Q := Q.kp k (from_not hbq); obtain ⟨-, -, -, c3, c4, cf⟩ := A.cells; obtain ⟨x0, x1, xf, xl⟩ := two bR; obtain ⟨y0, y1, yf, yl⟩ := two bX; have hb3 := A.lt))
      rw [HR.out]
      refine bodyPost_ret (v := .tuple #[.agg #[.slice mad lm.length mcp, .slice rad lr.length rcp], .int .i64 0, .int .i64 0]) ?_ rfl ⟨⟨mad, mcp, lm, rad, rcp, lr, rfl, hclr, ?_⟩, ?_⟩
      · simp [results, Tryz.results35, go_sem, x0, x1]
      · have hz1 : w.heap.size < (w.alloc (.cells #[.slice none 0 0, .slice none 0 0] 37)).heap.size := by simp
        refine (Pr.By.kq hBy ?_).mono (Nat.le_of_lt hz1)
        repeat (first | with_reducible refine Kq.set ?_ (.inl (from_not hz1)) _ | with_reducible refine Kq.al ?_ _)
        with_reducible exact Q
      · repeat (first | with_reducible refine Kp.set ?_ (.inr (Nat.le_refl _)) _ | with_reducible refine Kp.set ?_ (.inl rfl) _ | with_reducible refine Kp.al ?_ _)
        with_reducible exact K
    · have HR : Hid (R = (pr [] [], (x.2.refuse 40).err, (x.2.refuse 40).pos)) := by show _ = _; rw [← hR]; unfold wholeOfP; rw [ha, if_neg (by simpa using q2)]
      clear hR ha h
      go_enter Tryz.func35, Tryz.ntmps35
      go_wp2_with (first
            | (go_at_call 36; (with_reducible refine (hE _ A K).mono ?_); rintro r w1 ⟨mad, mcp, lm, rad, rcp, lr, rfl, hclr, hBy, A, k⟩; have K := K.trans k; have bR := k.box bR hne; have hnx : w1.heap.size ≠ b := (by have := ltB bR; omega); have hnxR : w.heap.size ≠ w1.heap.size := (by have := ltB bR; omega); have A := A.al (.cells #[.slice mad lm.length mcp, .slice rad lr.length rcp] 37); have K := K.al (.cells #[.slice mad lm.length mcp, .slice rad lr.length rcp] 37); have bR := bel_box bR (bel_al _ (.cells #[.slice mad lm.length mcp, .slice rad lr.length rcp] 37)); have bX := newB w1 #[.slice mad lm.length mcp, .slice rad lr.length rcp] 37; have Q := (Kq.refl (from_ (w.alloc (.cells #[.slice none 0 0, .slice none 0 0] 37)).heap.size) w1).al (.cells #[.slice mad lm.length mcp, .slice rad lr.length rcp] 37))
            | (go_at_call 62; (with_reducible refine (htk _ A).mono ?_); rintro r w2 ⟨rfl, b2⟩; have A := A.below b2; have K := K.tr b2; have bR := bel_box bR b2; have bX := bel_box bX b2; have Q := Q.bel b2; obtain ⟨-, -, -, c3, c4, cf⟩ := A.cells; obtain ⟨x0, x1, xf, xl⟩ := two bR; obtain ⟨y0, y1, yf, yl⟩ := two bX; have hb3 := A.lt)
            | (go_at_call 63; (with_reducible refine (refuse_any 40 b g cap toks _ _ A).mono ?_); rintro r w3 ⟨rfl, A, k⟩; have K := K.trans k; have bR := k.box bR hne; have bX := k.box bX hnx; have Q := Q.kp k (from_not hbq); obtain ⟨-, -, -, c3, c4, cf⟩ := A.cells; obtain ⟨x0, x1, xf, xl⟩ := two bR; obtain ⟨y0, y1, yf, yl⟩ := two bX; have hb3 := A.lt))
      go_region
      all_goals go_wp2
      all_goals rw [HR.out]
      all_goals refine bodyPost_ret (v := .tuple #[.agg #[.slice none 0 0, .slice none 0 0], .int .i64 (x.2.refuse 40).err, .int .i64 (x.2.refuse 40).pos]) ?_ rfl ⟨⟨none, 0, [], none, 0, [], rfl, ?_, PrBy.zero⟩, ?_⟩
      all_goals first | rfl | ((repeat (first | with_reducible refine Kp.set ?_ (.inr (Nat.le_refl _)) _ | with_reducible refine Kp.al ?_ _ | with_reducible refine Kp.drew ?_)); with_reducible exact K) | simp [results, Tryz.results35, go_sem, x0, x1, xl]
end Go.Proofs.YtaekbgljbgmchaaGreatDoor
