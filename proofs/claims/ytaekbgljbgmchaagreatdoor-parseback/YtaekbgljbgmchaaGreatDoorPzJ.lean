/-
  operand of package parse.
-/
import Derived.Test.YtaekbgljbgmchaaGreatDoorPzI
namespace Go.Proofs.YtaekbgljbgmchaaGreatDoor
open Go.RowKit
open Lx (Out)
open Pz
/-- What operand comes to. -/
def OpBack (b g cap : Nat) (toks : List Out) (x : Ex × S) (ow : Int) (w : World) (r : Ending) (w' : World) : Prop :=
  ∃ op mon name n ad cp kids pos, r = .returned (.tuple #[.agg #[.int .i64 op, .string mon, .string name, .int .i64 n, .slice ad (kids : List Ex).length cp, .int .i64 pos], .int .i64 ow]) ∧ (Ex.mk op mon name n ad cp kids pos).clr = x.1 ∧ (Ex.mk op mon name n ad cp kids pos).By (from_ w.heap.size) w' ∧ At b g cap toks x.2 w' ∧ Kp b w w'
set_option maxRecDepth 100000 in
set_option maxHeartbeats 2000000 in
theorem operand_of (R y1 y2 : Ex × S) (ow : Int) (l : Nat) (b g cap : Nat) (toks : List Out) (s : S) (w : World) (h : At b g cap toks s w)
    (r1 : l ≤ 3 → s.sees ⟨#[33]⟩ = true → (R, ow) = (y1, 3)) (r2 : (l ≤ 3 → s.sees ⟨#[33]⟩ = false) → (R, ow) = (y2, 6))
    (h1 : s.sees ⟨#[33]⟩ = true → ∀ W, At b g cap toks s W → Kp b w W → Calls Tryz.prog 149 #[.pointer (some ⟨b, 0, none⟩), .int .i64 5, .string ⟨#[33]⟩, .func (.func 150) #[.pointer (some ⟨b, 0, none⟩)] #[]] W (ExBack b g cap toks y1 W))
    (h2 : ∀ W, At b g cap toks s W → Kp b w W → Calls Tryz.prog 151 #[.pointer (some ⟨b, 0, none⟩)] W (ExBack b g cap toks y2 W)) :
    Calls Tryz.prog 108 #[.pointer (some ⟨b, 0, none⟩), .int .i64 (l : Int)] w (OpBack b g cap toks R ow w) := by
  have hb := h.lt
  have hgl := h.glt
  have A := h.al (.cells #[.int .i64 0, .string ⟨#[]⟩, .string ⟨#[]⟩, .int .i64 0, .slice none 0 0, .int .i64 0] 25)
  have bR := newB w #[.int .i64 0, .string ⟨#[]⟩, .string ⟨#[]⟩, .int .i64 0, .slice none 0 0, .int .i64 0] 25
  have hne : w.heap.size ≠ b := by omega
  have hng : w.heap.size ≠ g := by omega
  have K : Kp b w (w.alloc (.cells #[.int .i64 0, .string ⟨#[]⟩, .string ⟨#[]⟩, .int .i64 0, .slice none 0 0, .int .i64 0] 25)) := (Kp.refl b w).al _
  have hz1 := ltB bR
  by_cases hl : l ≤ 3
  · have hli : decide ((l : Int) ≤ 3) = true := by simp; omega
    have hli2 : (l : Int) ≤ 3 := by omega
    cases q : s.sees ⟨#[33]⟩
    · have e := r2 (fun _ => q)
      obtain ⟨rfl, rfl⟩ := Prod.mk.inj e
      clear r1 r2 h1 e
      go_enter Tryz.func108, Tryz.ntmps108
      go_wp2_with (first
      | (go_at_call 69; (with_reducible refine (sees_any _ b g cap toks _ _ A).mono ?_); rintro r w1 ⟨rfl, b1⟩; have A := A.below b1; have K := K.tr b1; have bR := bel_box bR b1; have hz1 := ltB bR; have hzb := A.lt)
      | (go_at_call 151; (with_reducible refine (h2 _ A K).mono ?_); rintro r w3 ⟨op, mon, name, n, ad, cp, kids, pos, rfl, hclr, hBy, A, k⟩; have K := K.trans k; have bR := k.box bR hne; obtain ⟨x0, x1, x2, x3, x4, x5, xf, xl⟩ := six bR))
      refine bodyPost_ret (v := .tuple #[.agg #[.int .i64 op, .string mon, .string name, .int .i64 n, .slice ad kids.length cp, .int .i64 pos], .int .i64 6]) ?_ rfl ⟨op, mon, name, n, ad, cp, kids, pos, rfl, ?_, ?_, ?_, ?_⟩
      · simp [results, Tryz.results108, go_sem, x0, x1, x2, x3, x4, x5]
      · exact hclr
      · refine (Ex.By.kq hBy ?_).mono (Nat.le_of_lt hz1)
        repeat (first | with_reducible refine Kq.set ?_ (.inl (from_not hz1)) _ | with_reducible refine Kq.al ?_ _)
        exact Kq.refl _ _
      · repeat (first | with_reducible refine Pz.At.put ?_ hne hng _ | with_reducible refine Pz.At.al ?_ _)
        exact A
      · repeat (first | with_reducible refine Kp.set ?_ (.inr (Nat.le_refl _)) _ | with_reducible refine Kp.set ?_ (.inl rfl) _ | with_reducible refine Kp.al ?_ _)
        exact K
    · have e := r1 hl q
      obtain ⟨rfl, rfl⟩ := Prod.mk.inj e
      have hx := h1 q
      clear r1 r2 h1 h2 e
      go_enter Tryz.func108, Tryz.ntmps108
      go_wp2_with (first
      | (go_at_call 69; (with_reducible refine (sees_any _ b g cap toks _ _ A).mono ?_); rintro r w1 ⟨rfl, b1⟩; have A := A.below b1; have K := K.tr b1; have bR := bel_box bR b1; have hz1 := ltB bR; have hzb := A.lt)
      | (go_at_call 149; (with_reducible refine (hx _ A K).mono ?_); rintro r w3 ⟨op, mon, name, n, ad, cp, kids, pos, rfl, hclr, hBy, A, k⟩; have K := K.trans k; have bR := k.box bR hne; obtain ⟨x0, x1, x2, x3, x4, x5, xf, xl⟩ := six bR))
      refine bodyPost_ret (v := .tuple #[.agg #[.int .i64 op, .string mon, .string name, .int .i64 n, .slice ad kids.length cp, .int .i64 pos], .int .i64 3]) ?_ rfl ⟨op, mon, name, n, ad, cp, kids, pos, rfl, ?_, ?_, ?_, ?_⟩
      · simp [results, Tryz.results108, go_sem, x0, x1, x2, x3, x4, x5]
      · exact hclr
      · refine (Ex.By.kq hBy ?_).mono (Nat.le_of_lt hz1)
        repeat (first | with_reducible refine Kq.set ?_ (.inl (from_not hz1)) _ | with_reducible refine Kq.al ?_ _)
        exact Kq.refl _ _
      · repeat (first | with_reducible refine Pz.At.put ?_ hne hng _ | with_reducible refine Pz.At.al ?_ _)
        exact A
      · repeat (first | with_reducible refine Kp.set ?_ (.inr (Nat.le_refl _)) _ | with_reducible refine Kp.set ?_ (.inl rfl) _ | with_reducible refine Kp.al ?_ _)
        exact K
  · have hli : decide ((l : Int) ≤ 3) = false := by simp; omega
    have hli2 : ¬ (l : Int) ≤ 3 := by omega
    have e := r2 (fun h => absurd h hl)
    obtain ⟨rfl, rfl⟩ := Prod.mk.inj e
    clear r1 r2 h1 e
    go_enter Tryz.func108, Tryz.ntmps108
    go_wp2_with (first
      | (go_at_call 151; (with_reducible refine (h2 _ A K).mono ?_); rintro r w3 ⟨op, mon, name, n, ad, cp, kids, pos, rfl, hclr, hBy, A, k⟩; have K := K.trans k; have bR := k.box bR hne; obtain ⟨x0, x1, x2, x3, x4, x5, xf, xl⟩ := six bR))
    refine bodyPost_ret (v := .tuple #[.agg #[.int .i64 op, .string mon, .string name, .int .i64 n, .slice ad kids.length cp, .int .i64 pos], .int .i64 6]) ?_ rfl ⟨op, mon, name, n, ad, cp, kids, pos, rfl, ?_, ?_, ?_, ?_⟩
    · simp [results, Tryz.results108, go_sem, x0, x1, x2, x3, x4, x5]
    · exact hclr
    · refine (Ex.By.kq hBy ?_).mono (Nat.le_of_lt hz1)
      repeat (first | with_reducible refine Kq.set ?_ (.inl (from_not hz1)) _ | with_reducible refine Kq.al ?_ _)
      exact Kq.refl _ _
    · repeat (first | with_reducible refine Pz.At.put ?_ hne hng _ | with_reducible refine Pz.At.al ?_ _)
      exact A
    · repeat (first | with_reducible refine Kp.set ?_ (.inr (Nat.le_refl _)) _ | with_reducible refine Kp.set ?_ (.inl rfl) _ | with_reducible refine Kp.al ?_ _)
      exact K
end Go.Proofs.YtaekbgljbgmchaaGreatDoor
