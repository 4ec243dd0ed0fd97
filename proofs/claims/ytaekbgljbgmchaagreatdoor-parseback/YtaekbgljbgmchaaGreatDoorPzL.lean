/-
  exprAt and term of package parse read what the plain functions say, for every fuel that is enough.
-/
import Derived.Test.YtaekbgljbgmchaaGreatDoorPzK
namespace Go.Proofs.YtaekbgljbgmchaaGreatDoor
open Go.RowKit
open Lx (Out)
open Pz
/-- exprAt reads as the plain function does. -/
def ExprC (f : Nat) : Prop := ∀ (b g cap : Nat) (toks : List Out) (l : Nat) (s : S) (w : World), At b g cap toks s w → Opers w → b ≠ 2 → Bd s → 3 * s.rest.length + 2 ≤ f → l ≤ 6 → Calls Tryz.prog 64 #[.pointer (some ⟨b, 0, none⟩), .int .i64 (l : Int)] w (ExBack b g cap toks (exprAt f l s) w)
/-- term reads as the plain function does. -/
def TermC (f : Nat) : Prop := ∀ (b g cap : Nat) (toks : List Out) (s : S) (w : World), At b g cap toks s w → Opers w → b ≠ 2 → Bd s → 3 * s.rest.length + 1 ≤ f → Calls Tryz.prog 151 #[.pointer (some ⟨b, 0, none⟩)] w (ExBack b g cap toks (term f s) w)
theorem Bd.enter {toks : List Out} {s : S} {x : ByteArray} (h : Bd s) (ho : Ok toks s) (hs : s.sees x = true) (hx : x.size ≠ 0) : Bd (s.enter x) := by
  have h1 := enter_lt ho hs hx
  have h2 := enter_opn s x
  have := h.1; have := h.2
  exact ⟨by omega, by rw [h2]; omega⟩
theorem Bd.pass {s : S} (h : Bd s) : Bd s.pass := by
  have h1 := pass_len s
  have := h.1; have := h.2
  exact ⟨by rw [pass_opn]; omega, by rw [pass_opn]; omega⟩
theorem Bd.op {s : S} (h : Bd s) : 0 ≤ s.opn ∧ s.opn ≤ 200000 := ⟨h.1, by have := h.2; omega⟩
theorem not_c (F : Nat) (hE : ExprC F) (b g cap : Nat) (toks : List Out) (s : S) (w : World) (h : At b g cap toks s w) (hO : Opers w) (hb2 : b ≠ 2) (hBd : Bd s) (hs : s.sees s_bang = true) (hF : 3 * s.rest.length + 1 ≤ F) :
    Calls Tryz.prog 149 #[.pointer (some ⟨b, 0, none⟩), .int .i64 5, .string ⟨#[33]⟩, .func (.func 150) #[.pointer (some ⟨b, 0, none⟩)] #[]] w (ExBack b g cap toks (prefixed 5 0 s_bang (exprAt F 3) s.hd.pos s) w) := by
  refine prefixed_any _ (within s_bang (exprAt F 3) s) 5 _ b g cap toks s w h (by decide) (fun W hW kW => ?_)
  refine within_neg (exprAt F 3) s_bang b g cap toks s W hW hBd.op (by rw [((expr_le F).1 3 (s.enter s_bang)).1, enter_opn]) (fun V hV kV => ?_)
  refine neg_of _ b g cap toks _ V hV (fun U hU kU => ?_)
  have hlt := enter_lt h.ok hs (by decide)
  exact hE b g cap toks 3 _ U hU (((hO.kp kW hb2).kp kV hb2).kp kU hb2) hb2 (hBd.enter h.ok hs (by decide)) (by omega) (by decide)
theorem minus_c (F : Nat) (hT : TermC F) (b g cap : Nat) (toks : List Out) (s : S) (w : World) (h : At b g cap toks s w) (hO : Opers w) (hb2 : b ≠ 2) (hBd : Bd s) (op : Int) (hop : 0 ≤ op ∧ op ≤ 1000) (sign : ByteArray) (hx : sign.size ≠ 0) (hs : s.sees sign = true) (hF : 3 * s.rest.length ≤ F) :
    Calls Tryz.prog 149 #[.pointer (some ⟨b, 0, none⟩), .int .i64 op, .string sign, .func (.func 151) #[.pointer (some ⟨b, 0, none⟩)] #[]] w (ExBack b g cap toks (prefixed op 0 sign (term F) s.hd.pos s) w) := by
  refine prefixed_any _ (within sign (term F) s) op _ b g cap toks s w h hop (fun W hW kW => ?_)
  refine within_term (term F) sign b g cap toks s W hW hBd.op (by rw [((expr_le F).2.2 (s.enter sign)).1, enter_opn]) (fun V hV kV => ?_)
  have hlt := enter_lt h.ok hs hx
  exact hT b g cap toks _ V hV ((hO.kp kW hb2).kp kV hb2) hb2 (hBd.enter h.ok hs hx) (by omega)
theorem paren_c (F : Nat) (hE : ExprC F) (b g cap : Nat) (toks : List Out) (s : S) (w : World) (h : At b g cap toks s w) (hO : Opers w) (hb2 : b ≠ 2) (hBd : Bd s) (hs : s.sees s_lpar = true) (hF : 3 * s.rest.length ≤ F) :
    Calls Tryz.prog 175 #[.pointer (some ⟨b, 0, none⟩), .string ⟨#[40]⟩, .func (.func 30) #[.pointer (some ⟨b, 0, none⟩)] #[], .string ⟨#[41]⟩] w (ExBack b g cap toks (enclosed s_lpar (exprAt F 1) s_rpar s) w) := by
  refine enclosed_any _ (within s_lpar (exprAt F 1) s) _ _ b g cap toks s w h (fun W hW kW => ?_)
  refine within_expr (exprAt F 1) s_lpar b g cap toks s W hW hBd.op (by rw [((expr_le F).1 1 (s.enter s_lpar)).1, enter_opn]) (fun V hV kV => ?_)
  refine expr_of _ b g cap toks _ V hV (fun U hU kU => ?_)
  have hlt := enter_lt h.ok hs (by decide)
  exact hE b g cap toks 1 _ U hU (((hO.kp kW hb2).kp kV hb2).kp kU hb2) hb2 (hBd.enter h.ok hs (by decide)) (by omega) (by decide)
theorem expr_step (F : Nat) (hE : ∀ f, f ≤ F → ExprC f) (hT : TermC F) : ExprC (F + 1) := by
  intro b g cap toks l s w h hO hb2 hBd hF hl
  have h1 : s.sees ⟨#[33]⟩ = true → ∀ W, At b g cap toks s W → Kp b w W → Calls Tryz.prog 149 #[.pointer (some ⟨b, 0, none⟩), .int .i64 5, .string ⟨#[33]⟩, .func (.func 150) #[.pointer (some ⟨b, 0, none⟩)] #[]] W (ExBack b g cap toks (prefixed 5 0 s_bang (exprAt F 3) s.hd.pos s) W) := fun hs W hW kW =>
    not_c F (hE F (Nat.le_refl _)) b g cap toks s W hW (hO.kp kW hb2) hb2 hBd hs (by omega)
  have h2 : ∀ W, At b g cap toks s W → Kp b w W → Calls Tryz.prog 151 #[.pointer (some ⟨b, 0, none⟩)] W (ExBack b g cap toks (term F s) W) := fun W hW kW => hT b g cap toks s W hW (hO.kp kW hb2) hb2 hBd (by omega)
  have hE' : ∀ fi, fi < F → ∀ (l' : Nat) (s' : S) W, l' ≤ 6 → At b g cap toks s' W → Opers W → Bd s' → 3 * s'.rest.length + 2 ≤ fi → Calls Tryz.prog 64 #[.pointer (some ⟨b, 0, none⟩), .int .i64 (l' : Int)] W (ExBack b g cap toks (exprAt fi l' s') W) :=
    fun fi hfi l' s' W hl' hA hO' hB hf => hE fi (by omega) b g cap toks l' s' W hA hO' hb2 hB hf hl'
  by_cases hc : (decide (l ≤ 3) && s.sees s_bang) = true
  · have hc1 := Bool.and_eq_true_iff.1 hc
    refine exprAt_of _ (prefixed 5 0 s_bang (exprAt F 3) s.hd.pos s) 3 F l b g cap toks s w h hO hb2 (by decide) (by rw [exprAt, if_pos hc]) hBd (le_within _ _ s ((expr_le F).1 _ _)) (by omega) (fun W hW kW => ?_) hE'
    exact operand_of _ (prefixed 5 0 s_bang (exprAt F 3) s.hd.pos s) (term F s) 3 l b g cap toks s W hW (fun _ _ => rfl) (fun hh => by have := hh (of_decide_eq_true hc1.1); rw [show s.sees ⟨#[33]⟩ = true from hc1.2] at this; cases this) (fun hs V hV kV => h1 hs V hV (kW.trans kV)) (fun V hV kV => h2 V hV (kW.trans kV))
  · refine exprAt_of _ (term F s) 6 F l b g cap toks s w h hO hb2 (by decide) (by rw [exprAt, if_neg hc]) hBd ((expr_le F).2.2 s) (by omega) (fun W hW kW => ?_) hE'
    exact operand_of _ (prefixed 5 0 s_bang (exprAt F 3) s.hd.pos s) (term F s) 6 l b g cap toks s W hW (fun h3 hs => absurd (Bool.and_eq_true_iff.2 ⟨decide_eq_true h3, hs⟩) hc) (fun _ => rfl) (fun hs V hV kV => h1 hs V hV (kW.trans kV)) (fun V hV kV => h2 V hV (kW.trans kV))
theorem term_step (F : Nat) (hE : ExprC F) (hT : TermC F) : TermC (F + 1) := by
  intro b g cap toks s w h hO hb2 hBd hF
  refine term_of _ (if s.pass.sees s_star then (ex 7 e0 e0 s.hd.n [(within s_star (term F) s.pass).1] s.hd.pos, (within s_star (term F) s.pass).2) else (ex 1 e0 e0 s.hd.n [] s.hd.pos, s.pass)) (prefixed 6 0 s_minus (term F) s.hd.pos s) (enclosed s_lpar (exprAt F 1) s_rpar s) b g cap toks s w h ?_ ?_ ?_ ?_ ?_ ?_ ?_ ?_ ?_
  · intro hk; rw [term, if_pos hk]; rfl
  · intro hk; rw [term, if_neg (by rw [hk]; decide), if_pos hk]
  · intro n2 n1 q3; rw [term, if_neg n2, if_neg n1, if_pos (show s.sees s_minus = true from q3)]
  · intro n2 n1 q3 q4; rw [term, if_neg n2, if_neg n1, if_neg (by rw [show s.sees s_minus = false from q3]; decide), if_pos (show s.sees s_lpar = true from q4)]
  · intro n2 n1 q3 q4 q5; rw [term, if_neg n2, if_neg n1, if_neg (by rw [show s.sees s_minus = false from q3]; decide), if_neg (by rw [show s.sees s_lpar = false from q4]; decide), if_pos (show s.sees k_true = true from q5)]
  · intro n2 n1 q3 q4 q5; rw [term, if_neg n2, if_neg n1, if_neg (by rw [show s.sees s_minus = false from q3]; decide), if_neg (by rw [show s.sees s_lpar = false from q4]; decide), if_neg (by rw [show s.sees k_true = false from q5]; decide)]
  · intro hk W hW kW
    refine product_of _ b g cap toks s W hW hk (fun V hV kV hs => ?_)
    have hpl := pass_len s
    exact minus_c F hT b g cap toks s.pass V hV ((hO.kp kW hb2).kp kV hb2) hb2 hBd.pass 7 (by decide) s_star (by decide) hs (by omega)
  · intro hs W hW kW
    exact minus_c F hT b g cap toks s W hW (hO.kp kW hb2) hb2 hBd 6 (by decide) s_minus (by decide) hs (by omega)
  · intro hs W hW kW
    exact paren_c F hE b g cap toks s W hW (hO.kp kW hb2) hb2 hBd hs (by omega)
theorem expr_all : ∀ n f, f ≤ n → ExprC f ∧ TermC f := by
  intro n
  induction n with
  | zero =>
    intro f hf
    exact ⟨fun b g cap toks l s w h hO hb2 hBd hF hl => by omega, fun b g cap toks s w h hO hb2 hBd hF => by omega⟩
  | succ n ih =>
    intro f hf
    by_cases h0 : f ≤ n
    · exact ih f h0
    · obtain rfl : f = n + 1 := by omega
      exact ⟨expr_step n (fun f hf => (ih f hf).1) (ih n (Nat.le_refl _)).2, term_step n (ih n (Nat.le_refl _)).1 (ih n (Nat.le_refl _)).2⟩
theorem exprAt_any (f : Nat) : ExprC f := (expr_all f f (Nat.le_refl _)).1
end Go.Proofs.YtaekbgljbgmchaaGreatDoor
