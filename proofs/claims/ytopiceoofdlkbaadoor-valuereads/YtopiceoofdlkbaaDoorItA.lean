/-
  passExpr, parts of package tree: the iterator over an expression and all its parts, from the left, for whatever loop body keeps what lay below n₀ and what was laid from B on.
-/
import Derived.Test.YtopiceoofdlkbaaDoorEqA
import Derived.RangeFuncNested
import Derived.RangeFuncBound
import Derived.RangeFuncCalls
import Derived.RangeFuncLeaves
import Derived.Shelf.Abstract
import Derived.Shelf.RegionOpen
import Derived.OwnWalkIn
import Derived.TacticsInMore
import Derived.LoopNIn
import Derived.LoopIn
namespace Go.Proofs.YtopiceoofdlkbaaDoor
open Go.RowKit Go.Shelf
attribute [local go_sem] Oper.semAt_some
theorem room_of_none {F : Fence} (hd : F.depth = none) (k : Nat) : F.room k := fun d h => by rw [hd] at h; cases h
theorem roundIn_anyDepth {F : Fence} (hd : F.depth = none) {m m' : Nat} {P : Program} {l : Nat} {f : FuncId} {tmps : Array Value} {assign body : Code} {w : World} {R : Ending → World → Prop}
    (h : RoundIn F m P l f tmps assign body w R) : RoundIn F m' P l f tmps assign body w R := ⟨h.1, fun c cs _ => h.2 c cs (room_of_none hd _)⟩
theorem yieldAt_anyDepth {F : Fence} (hd : F.depth = none) {m : Nat} (m' : Nat) {P : Program} {l : Nat} {args : Array Value} {W : World} {R : Ending → World → Prop} (h : YieldAt F m P l args W R) : YieldAt F m' P l args W R := by
  obtain ⟨fn, tmps, assign, body, hy, hR⟩ := h
  exact ⟨fn, tmps, assign, body, hy, roundIn_anyDepth hd hR⟩
/-- What a round keeps: what lay below n₀, and the cells that lay from B on. -/
def Kp (n₀ B : Nat) (W W' : World) : Prop := Below n₀ W W' ∧ ∀ k c t z, B ≤ k → t ≠ 9 → W.heap[k]? = some (.cells c t z) → W'.heap[k]? = some (.cells c t z)
theorem Kp.t {n₀ B : Nat} {W1 W2 W3 : World} (h : Kp n₀ B W1 W2) (k : Kp n₀ B W2 W3) : Kp n₀ B W1 W3 := ⟨h.1.trans k.1, fun j c t z hj ht hc => k.2 j c t z hj ht (h.2 j c t z hj ht hc)⟩
theorem Kp.b {n₀ B : Nat} {w : World} (hn : n₀ ≤ w.heap.size) (W : World) (l : Nat) (o o' : Obj) (hl : w.heap.size ≤ l) (h : W.heap[l]? = some o) (hc : o.isCells = false) (hw : o.isWalk = false) : Kp n₀ B W (W.putObj l o') :=
  ⟨belowK_b hn W l o o' hl h hc hw, fun k _ _ _ _ _ hk => by
    have hne : k ≠ l := by rintro rfl; rw [h] at hk; cases hk; cases hc
    exact (World.putObj_heap_other (fun e => hne (by rw [e]))).trans hk⟩
theorem Kp.of {n₀ B : Nat} {W W' : World} (hn : n₀ ≤ W.heap.size) (h : Below W.heap.size W W') : Kp n₀ B W W' :=
  ⟨h.mono hn, fun k _ _ _ _ _ hk => (h.block k (Array.getElem?_eq_some_iff.1 hk).1).trans hk⟩
theorem Kp.refl (n₀ B : Nat) (W : World) : Kp n₀ B W W := ⟨Below.refl _ _, fun _ _ _ _ _ _ h => h⟩
theorem Kp.alloc {n₀ B : Nat} {W : World} (hn : n₀ ≤ W.heap.size) (o : Obj) : Kp n₀ B W (W.alloc o) := Kp.of hn ((Below.refl _ _).al le_rfl' _)
/-- An expression that lay below n₀ in the world w. -/
abbrev ExA (n₀ : Nat) (w : World) := { x : Ex // x.Is n₀ w }
theorem cell_of {W : World} {B : Nat} {c : Array Value} {t : TypeId} {z : Nat × Nat} (h : W.heap[B]? = some (.cells c t z)) (i : Nat) : W.cell? ⟨B, i, none⟩ = c[i]? := by
  simp [World.cell?, h]
theorem subsL_pre (l : List Ex) (k : Nat) : (Ex.subsL (l.take k)).length ≤ (Ex.subsL l).length := by
  conv => rhs; rw [← List.take_append_drop k l, Ex.subsL_eq, List.flatMap_append]
  rw [Ex.subsL_eq]; simp
theorem subsL_prefix (l : List Ex) (k : Nat) : Ex.subsL (l.take k) <+: Ex.subsL l := by
  refine ⟨Ex.subsL (l.drop k), ?_⟩
  rw [Ex.subsL_eq, Ex.subsL_eq, Ex.subsL_eq, ← List.flatMap_append, List.take_append_drop]
set_option maxRecDepth 100000 in
set_option maxHeartbeats 2000000 in
theorem passExpr_in (F : Fence) (hd : F.depth = none) (h55 : F.fn 55) (hro : F.round = none) (l n₀ B N : Nat) (w : World) (hn₀ : n₀ ≤ w.heap.size) (hBw : B ≤ w.heap.size) (J Jx : List (ExA n₀ w) → World → Prop)
    (hJA : ∀ pre W o, J pre W → J pre (W.alloc o))
    (hY : ∀ m pre (x : ExA n₀ w) W, J pre W → pre.length < N → YieldAt F m Tryd.prog l #[x.1.val] W fun e W' =>
      (e = .returned (.bool true) ∧ J (pre ++ [x]) W' ∧ Kp n₀ B W W') ∨ (e = .returned (.bool false) ∧ Jx (pre ++ [x]) W')) (T : Ex) :
    ∀ (n : Nat) (pre : List (ExA n₀ w)) (W : World), T.Is n₀ w → Below n₀ w W → J pre W → pre.length + T.subs.length ≤ N →
      CallsIn F n Tryd.prog 55 #[T.val, .func (.yield l) #[] #[]] W fun e W' =>
        (e = .returned (.bool true) ∧ ∃ q, q.map Subtype.val = T.subs ∧ J (pre ++ q) W' ∧ Kp n₀ B W W') ∨ (e = .returned (.bool false) ∧ ∃ q, q.map Subtype.val <+: T.subs ∧ Jx (pre ++ q) W') := by
  induction T using Ex.ind with
  | h op mon name k ad cap kids pos ih =>
    intro n pre W hT hB hJ hN
    have hT' := hT.down
    have hdd : ∀ k : Nat, (F.depth.isSome = true → 1 ≤ k) := fun k h => by rw [hd] at h; cases h
    have hlW := hB.size
    have hl1 := hT'.2.1.1; have hl2 := hT'.2.1.2.1
    unfold maxLen at hl2
    rw [Ex.subs_mk] at hN
    simp only [List.length_cons] at hN
    have HSU := hid (Ex.subs_mk op mon name k ad cap kids pos)
    have hy0 := hY (n - 1) pre ⟨_, hT⟩ (W.alloc (.cells #[.int .i64 op, .string mon, .string name, .int .i64 k, .slice ad kids.length cap, .int .i64 pos] 28)) (hJA _ _ _ hJ) (by omega)
    have hy0 := YieldAt.mono hy0 (R' := fun e W' => (e = .returned (.bool true) ∧ J (pre ++ [⟨_, hT⟩]) W' ∧ Kp n₀ B W W' ∧ W'.cell? ⟨W.heap.size, 4, none⟩ = some (.slice ad kids.length cap)) ∨ (e = .returned (.bool false) ∧ Jx (pre ++ [⟨_, hT⟩]) W')) fun e W' h => h.elim
      (fun ⟨he, hj, hk⟩ => .inl ⟨he, hj, (Kp.alloc (by omega) _).t hk, by rw [cell_of (hk.2 _ _ _ _ (by omega) (by decide) (World.alloc_heap_new W _))]; rfl⟩) .inr
    simp only [Ex.val, Ex.cells] at hy0 ⊢
    obtain ⟨fn, tmps, assign, body, hy, hR⟩ := hy0
    clear hY
    refine callsIn_of_wp Tryd.func55 rfl h55 ?_ hro
    simp only [Tryd.ntmps55, List.size_toArray, List.length_cons, List.length_nil, Nat.reduceAdd, Nat.reduceSub, Array.replicate_succ, Array.replicate_zero, List.push_toArray, List.append_toArray, List.nil_append, List.cons_append]
    gi_wp2_with (first
      | ((try refine ⟨hdd _, ?_⟩); refine hR.mono ?_; clear hR; rintro e W1 (⟨rfl, hJ1, hk1, hc1⟩ | ⟨rfl, hx1⟩)))
    · gi_loopw [14] (fun i wr => ∃ (j : Nat) (q : List (ExA n₀ w)), j ≤ kids.length ∧ i = .int .i64 j ∧ Hid (q.map Subtype.val = (Ex.mk op mon name k ad cap kids pos) :: Ex.subsL (kids.take j)) ∧ J (pre ++ q) wr ∧ Kp n₀ B W wr)
        (fun i _ => kids.length - (intOf i).toNat)
      case atStart => exact ⟨0, [⟨_, hT⟩], by omega, rfl, by simp [Hid, Ex.subsL], hJ1, hk1⟩
      case round =>
        obtain ⟨j, q, hj, rfl, HQ, hJj, hkj⟩ := hrel
        by_cases hlt : j < kids.length
        · rcases hT'.2.1.2.2 with h | ⟨b, off, rfl, hbn, hrow⟩
          · subst h; simp at hlt
          have hB2 := hB.trans hkj.1
          have hr := hrow.below hB2 hbn
          have hbr : b < wr.heap.size := by have := hB2.size; omega
          have hI := hT'.2.2 _ (List.getElem_mem hlt)
          have HSN := hid (Ex.subsL_snoc kids j hlt)
          have hlen : q.length = (Ex.subsL (kids.take j)).length + 1 := by have := congrArg List.length HQ.out; simpa using this
          have hcnt := subsL_pre kids (j + 1)
          rw [HSN.out, List.length_append] at hcnt
          have hq := ih _ (List.getElem_mem hlt) (n - 1) (pre ++ q) (wr.alloc (.cells (kids[j]).cells.toArray 28)) hI (hB2.al hn₀ _) (hJA _ _ _ hJj) (by rw [List.length_append]; omega)
          have hq := hq.mono (R' := fun e W' => (e = .returned (.bool true) ∧ (∃ q, Hid (q.map Subtype.val = (Ex.mk op mon name k (some ⟨b, off, none⟩) cap kids pos) :: Ex.subsL (kids.take (j + 1))) ∧ J (pre ++ q) W' ∧ Kp n₀ B W W')) ∨ (e = .returned (.bool false) ∧ ∃ q, q.map Subtype.val <+: (Ex.mk op mon name k (some ⟨b, off, none⟩) cap kids pos).subs ∧ Jx (pre ++ q) W')) (by
            rintro e W' (⟨rfl, q2, hq2, hJ2, hk2⟩ | ⟨rfl, q2, hq2, hx2⟩)
            · refine .inl ⟨rfl, q ++ q2, ?_, by rw [← List.append_assoc]; exact hJ2, hkj.t ((Kp.alloc (by have := hB2.size; omega) _).t hk2)⟩
              show _ = _
              rw [List.map_append, HQ.out, hq2, HSN.out]; rfl
            · refine .inr ⟨rfl, q ++ q2, ?_, by rw [← List.append_assoc]; exact hx2⟩
              rw [List.map_append, HQ.out, HSU.out, List.cons_append]
              refine List.prefix_cons_inj _ |>.2 ?_
              refine List.IsPrefix.trans (List.prefix_append_right_inj _ |>.2 hq2) ?_
              rw [← HSN.out]
              exact subsL_prefix kids (j + 1))
          clear ih
          rcases he : kids[j] with ⟨op', mon', name', n', ad', cp', kids', pos'⟩
          obtain ⟨c0, c1, c2, c3, c4, c5⟩ := row6 hr j hlt (by rw [he]; rfl)
          simp only [he, Ex.val, Ex.cells] at hq
          have HF := hid he
          clear he
          gi_wp2_with ((try refine ⟨hdd _, ?_⟩); gi_at_call 55; refine hq.mono ?_; clear hq; rintro e W2 (⟨rfl, q2, hq2, hJ2, hk2⟩ | ⟨rfl, q2, hq2, hx2⟩))
          · go_roundw
            case rel => exact ⟨j + 1, q2, by omega, by go_num, hq2, hJ2, hk2⟩
            case measure => simp [intOf]; omega
          · go_ret
            exact .inr ⟨rfl, q2, hq2, hx2⟩
        · have hj' : j = kids.length := by omega
          gi_wp2
          go_ret
          refine .inl ⟨rfl, q, ?_, hJj, hkj⟩
          rw [HQ.out, HSU.out, hj', List.take_length]
    · go_ret
      exact .inr ⟨rfl, [⟨_, hT⟩], by rw [HSU.out]; simp, hx1⟩
end Go.Proofs.YtopiceoofdlkbaaDoor
