/-
  sameStmt, SameStmts, sameVar, sameMethod, sameMonitor, sameRole, Same and isNone of package tree: whether two are the same but for places.
-/
import Derived.Test.YtfkabkbnfeiggaaDoorEqB
namespace Go.Proofs.YtfkabkbnfeiggaaDoor
open Go.RowKit
theorem bcell {W w1 : World} (hb : Below W.heap.size W w1) : (∀ b o, b < W.heap.size → w1.cell? ⟨b, o, none⟩ = W.cell? ⟨b, o, none⟩) ∧ (∀ b o, b < W.heap.size → w1.frozen? ⟨b, o, none⟩ = W.frozen? ⟨b, o, none⟩) :=
  ⟨fun b o h => hb.cell (p := ⟨b, o, none⟩) h, fun b o h => hb.frozen (p := ⟨b, o, none⟩) h⟩
theorem stSame_mk (kind kind' : Int) (mon name mon' name' : ByteArray) (n n' : Int) (e e' : Ex) (ad ad' : Option Addr) (cap cap' : Nat) (blocks blocks' : List Bl) (pos pos' : Int) :
    (St.mk kind mon name n e ad cap blocks pos).same (St.mk kind' mon' name' n' e' ad' cap' blocks' pos') = ((kind == kind') && (mon.toList == mon'.toList) && (name.toList == name'.toList) && (n == n') && e.same e' && all2 Bl.same blocks blocks') := by
  rw [St.same, Bl.sameL_eq]
theorem blSame_mk (ad ad' : Option Addr) (cap cap' : Nat) (body body' : List St) : (Bl.mk ad cap body).same (Bl.mk ad' cap' body') = all2 St.same body body' := by rw [Bl.same, St.sameL_eq]
set_option maxHeartbeats 1000000 in
theorem isNone_any (n₀ : Nat) (e : Ex) (w : World) (hn : n₀ ≤ w.heap.size) (he : e.Is n₀ w) :
    Calls Tryd.prog 84 #[e.val] w fun r w' => r = .returned (.bool (e.same (.mk 0 ⟨#[]⟩ ⟨#[]⟩ 0 none 0 [] 0))) ∧ Below w.heap.size w w' := by
  have hC : ∀ W, Below n₀ w W → Calls Tryd.prog 93 #[e.val, (Ex.mk 0 ⟨#[]⟩ ⟨#[]⟩ 0 none 0 [] 0).val] W fun r w' => r = .returned (.bool (e.same (.mk 0 ⟨#[]⟩ ⟨#[]⟩ 0 none 0 [] 0))) ∧ Below W.heap.size W w' := fun W hW =>
    sameExpr_any n₀ e _ W (by have := hW.size; omega) (he.below hW) (Ex.Is.up ⟨⟨by unfold I64; omega, by unfold I64; omega, by unfold I64; omega, Nat.zero_le _, Nat.zero_le _⟩, ⟨Nat.le_refl _, by unfold maxLen; omega, .inl rfl⟩, fun x hx => by cases hx⟩)
  obtain ⟨res, hres⟩ : ∃ res, e.same (.mk 0 ⟨#[]⟩ ⟨#[]⟩ 0 none 0 [] 0) = res := ⟨_, rfl⟩
  rw [hres] at hC ⊢
  clear hres he
  rcases e with ⟨op, mon, name, n, ad, cap, kids, pos⟩
  simp only [Ex.val, Ex.cells, List.length_nil] at hC ⊢
  go_enter Tryd.func84, Tryd.ntmps84
  go_wp2_with (go_at_call 93; refine (hC _ ((Below.refl n₀ w).al hn _)).mono ?_; rintro r w1 ⟨rfl, hb1⟩)
  go_ret
  exact ⟨rfl, ((Below.refl _ _).al le_rfl' _).tr le_rfl' hb1⟩
end Go.Proofs.YtfkabkbnfeiggaaDoor
