/-
  Statements and blocks of package parse are read as the plain functions say, for every fuel that is enough.
-/
import Derived.Test.YtaekbgljbgmchaaGreatDoorPzBr
namespace Go.Proofs.YtaekbgljbgmchaaGreatDoor
open Go.RowKit
open Lx (Out)
open Pz
theorem expr_c (f : Nat) (b g cap : Nat) (toks : List Out) (s : S) (w : World) (h : At b g cap toks s w) (hO : Opers w) (hb2 : b ≠ 2) (hBd : Bd s) (hF : 3 * s.rest.length + 2 ≤ f) : Calls Tryz.prog 30 #[.pointer (some ⟨b, 0, none⟩)] w (ExBack b g cap toks (exprAt f 1 s) w) :=
  expr_of _ b g cap toks s w h (fun W hW kW => exprAt_any f b g cap toks 1 s W hW (hO.kp kW hb2) hb2 hBd hF (by decide))
/-- block reads as the plain function does. -/
def BlockC (f : Nat) : Prop := ∀ (b g cap : Nat) (toks : List Out) (s : S) (w : World), At b g cap toks s w → Opers w → b ≠ 2 → Bd s → 3 * s.rest.length + 3 ≤ f → Calls Tryz.prog 121 #[.pointer (some ⟨b, 0, none⟩)] w (BlBack b g cap toks (block (stmtsF f []) s) w)
theorem Bd.le {s s' : S} (h : BdS s) (hl : Le s s') (hlt : s'.rest.length + 1 ≤ s.rest.length) : Bd s' := ⟨by rw [hl.1]; exact h.1, by have := h.2; rw [hl.1]; omega⟩
theorem block_step (f : Nat) (hS : ∀ f', f' < f → StmtC f') : BlockC f := by
  intro b g cap toks s w h hO hb2 hBd hF
  refine block_of (stmtsF f []) b g cap toks s w h ⟨hBd.1, by have := hBd.2; omega⟩ (by rw [(stmts_le f [] (s.enter s_lbr)).1, enter_opn]) (fun W hW kW => ?_)
  have h1 := enter_len s s_lbr
  exact stmts_of f hS b g cap toks (s.enter s_lbr) W hW (hO.kp kW hb2) hb2 ⟨by rw [enter_opn]; have := hBd.1; omega, by rw [enter_opn]; have := hBd.2; omega⟩ (by omega)
theorem stmt_step (f : Nat) (hB : BlockC f) : StmtC f := by
  intro b g cap toks s w h hO hb2 hBd hF hk
  have hk5 := hd5 h.ok hk
  have hpl := pass_lt h.ok hk5
  have hp : Le s s.pass := le_pass s
  have hX : ∀ s' W, Le s s' → s'.rest.length + 1 ≤ s.rest.length → At b g cap toks s' W → Kp b w W → Calls Tryz.prog 30 #[.pointer (some ⟨b, 0, none⟩)] W (ExBack b g cap toks (exprAt f 1 s') W) := fun s' W hl hlt hA hK => expr_c f b g cap toks s' W hA (hO.kp hK hb2) hb2 (Bd.le hBd hl hlt) (by omega)
  have hY : ∀ s' W, Le s s' → s'.rest.length + 1 ≤ s.rest.length → At b g cap toks s' W → Kp b w W → Calls Tryz.prog 121 #[.pointer (some ⟨b, 0, none⟩)] W (BlBack b g cap toks (block (stmtsF f []) s') W) := fun s' W hl hlt hA hK => hB b g cap toks s' W hA (hO.kp hK hb2) hb2 (Bd.le hBd hl hlt) (by omega)
  have hlx : ∀ s, Le s (exprAt f 1 s).2 := fun s => (expr_le f).1 1 s
  have hlb : ∀ s, Le s (block (stmtsF f []) s).2 := fun s => le_block _ (fun s => stmts_le f [] s) s
  have step : ∀ (x : ByteArray) (h1 : is s.hd x = true), Le s (s.want x) ∧ (s.want x).rest.length + 1 ≤ s.rest.length := fun x h1 => by rw [want_pass h1]; exact ⟨hp, by omega⟩
  rcases kind_word s.hd _ rfl hk with h1 | h1 | h1 | h1 | h1 | h1 | h1 | h1 | h1 | h1 | h1 <;> obtain ⟨hk1, hw⟩ := h1 <;> rw [hk1] <;> simp only [stmt]
  · have hl : Le s.pass ((path s).2.want s_eq) := by
      have : (path s).2 = ((s.pass.want s_dot).take 1).2 := by unfold path; rw [take_yes s 1 hw]
      rw [this]; exact ((le_want _ _).trans (le_take _ _)).trans (le_want _ _)
    exact set_any (exprAt f 1 ((path s).2.want s_eq)) b g cap toks s w h (fun W hA hK => hX _ W (hp.trans hl) (by have := hl.2; omega) hA hK)
  · exact skip_any b g cap toks s w h
  · obtain ⟨q1, q2⟩ := step k_if hw
    have hle1 := hlx (s.want k_if)
    have hle2 := hlb (exprAt f 1 (s.want k_if)).2
    have hle3 := le_pass (block (stmtsF f []) (exprAt f 1 (s.want k_if)).2).2
    exact branch_any (exprAt f 1 (s.want k_if)) (block (stmtsF f []) (exprAt f 1 (s.want k_if)).2) (block (stmtsF f []) (block (stmtsF f []) (exprAt f 1 (s.want k_if)).2).2.pass) b g cap toks s w h (fun W hA hK => hX _ W q1 q2 hA hK)
      (fun W hA hK => hY _ W (q1.trans hle1) (by have := hle1.2; omega) hA hK) (fun _ W hA hK => hY _ W (((q1.trans hle1).trans hle2).trans hle3) (by have := hle1.2; have := hle2.2; have := hle3.2; omega) hA hK)
  · obtain ⟨q1, q2⟩ := step k_while hw
    have hle1 := hlx (s.want k_while)
    exact while_any (exprAt f 1 (s.want k_while)) (block (stmtsF f []) (exprAt f 1 (s.want k_while)).2) b g cap toks s w h (fun W hA hK => hX _ W q1 q2 hA hK) (fun W hA hK => hY _ W (q1.trans hle1) (by have := hle1.2; omega) hA hK)
  · obtain ⟨q1, q2⟩ := step k_loop hw
    exact loopSt_any (block (stmtsF f []) (s.want k_loop)) b g cap toks s w h (fun W hA hK => hY _ W q1 q2 hA hK)
  · exact choose_any (block (stmtsF f [])) hlb b g cap toks s w h hk5 (fun s' W hl hlt hA hK => hY s' W hl hlt hA hK)
  · obtain ⟨q1, q2⟩ := step k_sync hw
    have hle1 := le_take (s.want k_sync) 1
    exact sync_any (block (stmtsF f []) ((s.want k_sync).take 1).2) b g cap toks s w h (fun W hA hK => hY _ W (q1.trans hle1) (by have := hle1.2; omega) hA hK)
  · exact call_any b g cap toks s w h
  · exact wait_any b g cap toks s w h
  · exact notify_any b g cap toks s w h
  · exact notifyAll_any b g cap toks s w h
theorem stmt_all : ∀ n f, f ≤ n → StmtC f := by
  intro n
  induction n with
  | zero =>
    intro f hf b g cap toks s w h hO hb2 hBd hF hk
    omega
  | succ n ih =>
    intro f hf
    exact stmt_step f (block_step f (fun f' hf' => ih f' (by omega)))
theorem block_any (f : Nat) : BlockC f := block_step f (fun f' _ => stmt_all f' f' (Nat.le_refl _))
end Go.Proofs.YtaekbgljbgmchaaGreatDoor
