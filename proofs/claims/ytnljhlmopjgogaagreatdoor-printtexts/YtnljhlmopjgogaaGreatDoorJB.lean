/-
  The document's Is: whether a program has the shape of one.
-/
import Derived.Test.YtnljhlmopjgogaaGreatDoorU6A
import Derived.Test.YtnljhlmopjgogaaGreatDoorJI
import Derived.Deep.Cut
namespace Go.Proofs.YtnljhlmopjgogaaGreatDoor
open Go.RowKit
set_option maxRecDepth 100000 in
set_option maxHeartbeats 64000000 in
theorem reg6n {Q : Exit → Act → World → Prop} (t0 t1 t2 t3 t4 t5 t6 t7 t9 t10 t11 t12 t13 t14 t15 t16 t17 t18 t19 t20 t21 t22 t23 t24 t25 t26 t27 t28 t29 t30 t31 t32 t33 t34 t35 t36 t37 t38 t39 t40 t41 t42 t43 t44 t45 t46 t47 t48 t49 t50 t51 t52 t53 t54 t55 t56 t57 t58 t59 t60 t61 t62 t63 t64 t65 t66 t67 t68 t69 t70 t71 t72 t73 t74 t75 t76 t77 t78 t79 t80 t81 t82 t83 t84 t85 t86 t87 t88 t89 t90 t91 t92 t93 t94 t95 t96 t97 t98 t99 t100 t101 t102 t103 t104 t105 t106 t107 t108 t109 t110 t111 t112 t113 t114 t115 t116 t117 t118 t119 t120 t121 t122 t123 t124 t125 t126 t127 t128 t129 t130 t131 t132 t133 t134 : Value) (W : World)
    (hQP : ∀ c a d v w, Q (.panic c) (Act.put a d v) w → Q (.panic c) a w)
    (hQ : ∀ u28 u29 u30 u31 u32 u33 u34 u35 u36 u37 u38 u39 u40 u41 u42 u43 u44 u45 u46 u47 u48 u49 u50 u51 u52 u53 u54 u55 u56 u57 u58 u59 u60 u61 u62 u63 u64 u65 u66 u67 u68 u69 u70 u71 u72 u73 u74 u75 u76 u77 u78 u79 u80 u81 u82 u83 u84 u85 u86 u87 u88 u89 u90 u91 u92 u93 u94 u95 u96 u97 u98, Q .normal { tmps := #[t0, t1, t2, t3, t4, t5, t6, t7, .bool false, t9, t10, t11, t12, t13, t14, t15, t16, t17, t18, t19, t20, t21, t22, t23, t24, t25, t26, t27, u28, u29, u30, u31, u32, u33, u34, u35, u36, u37, u38, u39, u40, u41, u42, u43, u44, u45, u46, u47, u48, u49, u50, u51, u52, u53, u54, u55, u56, u57, u58, u59, u60, u61, u62, u63, u64, u65, u66, u67, u68, u69, u70, u71, u72, u73, u74, u75, u76, u77, u78, u79, u80, u81, u82, u83, u84, u85, u86, u87, u88, u89, u90, u91, u92, u93, u94, u95, u96, u97, u98, .bool true, t100, t101, t102, t103, t104, t105, t106, t107, t108, t109, t110, t111, t112, t113, t114, t115, t116, t117, t118, t119, t120, t121, t122, t123, t124, t125, t126, t127, t128, t129, t130, t131, t132, t133, t134], defers := [] } W.drew) :
    (Code.region 6 r6Ops true).wp Tryz.prog Q { tmps := #[t0, t1, t2, t3, t4, t5, t6, t7, .bool false, t9, t10, t11, t12, t13, t14, t15, t16, t17, t18, t19, t20, t21, t22, t23, t24, t25, t26, t27, t28, t29, t30, t31, t32, t33, t34, t35, t36, t37, t38, t39, t40, t41, t42, t43, t44, t45, t46, t47, t48, t49, t50, t51, t52, t53, t54, t55, t56, t57, t58, t59, t60, t61, t62, t63, t64, t65, t66, t67, t68, t69, t70, t71, t72, t73, t74, t75, t76, t77, t78, t79, t80, t81, t82, t83, t84, t85, t86, t87, t88, t89, t90, t91, t92, t93, t94, t95, t96, t97, t98, t99, t100, t101, t102, t103, t104, t105, t106, t107, t108, t109, t110, t111, t112, t113, t114, t115, t116, t117, t118, t119, t120, t121, t122, t123, t124, t125, t126, t127, t128, t129, t130, t131, t132, t133, t134], defers := [] } W := by
  dsimp only at hQ ⊢
  refine wp_region_held_drew (S := fun _ => True) mixedQ trivial (fun hS => ?_)
  show wpAnyH Tryz.prog .any r6Ops Q _ 72 #[false, false, false, false, false, false, false, false, false, false, false, false, false, false, false, false, false, false, false, false, false, false, false, false, false, false, false, false, false, false, false, false, false, false, false, false, false, false, false, false, false, false, false, false, false, false, false, false, false, false, false, false, false, false, false, false, false, false, false, false, false, false, false, false, false, false, false, false, false, false, false, false] _ _
  refine wpAnyH_take (i := 0) (oi := rq0) (v := .bool false) rfl (by kernel_rfl) (by kernel_rfl) (by kernel_rfl) (fun c _ w h => hQP c _ _ _ w h) (Or.inl ⟨by rfl, ?_⟩) hS ?_
  · rintro w -
    unfold rq0
    go_simp
  simp only [rq0d, Act.put, List.setIfInBounds_toArray, List.set_cons_zero, List.set_cons_succ]
  refine wpAnyH_take (i := 1) (oi := rq1) (v := .bool true) rfl (by kernel_rfl) (by kernel_rfl) (by kernel_rfl) (fun c _ w h => hQP c _ _ _ w h) (Or.inl ⟨by rfl, ?_⟩) hS ?_
  · rintro w -
    unfold rq1
    go_simp
  simp only [rq1d, Act.put, List.setIfInBounds_toArray, List.set_cons_zero, List.set_cons_succ]
  refine wpAnyH_take (i := 2) (oi := rq2) (v := .bool true) rfl (by kernel_rfl) (by kernel_rfl) (by kernel_rfl) (fun c _ w h => hQP c _ _ _ w h) (Or.inl ⟨by rfl, ?_⟩) hS ?_
  · rintro w -
    unfold rq2
    go_simp
  simp only [rq2d, Act.put, List.setIfInBounds_toArray, List.set_cons_zero, List.set_cons_succ]
  refine wpAnyH_take (i := 3) (oi := rq3) (v := undef) rfl (by kernel_rfl) (by kernel_rfl) (by kernel_rfl) (fun c _ w h => hQP c _ _ _ w h) (Or.inr ⟨by rfl, rfl⟩) hS ?_
  simp only [rq3d, Act.put, List.setIfInBounds_toArray, List.set_cons_zero, List.set_cons_succ]
  refine wpAnyH_take (i := 4) (oi := rq4) (v := undef) rfl (by kernel_rfl) (by kernel_rfl) (by kernel_rfl) (fun c _ w h => hQP c _ _ _ w h) (Or.inr ⟨by rfl, rfl⟩) hS ?_
  simp only [rq4d, Act.put, List.setIfInBounds_toArray, List.set_cons_zero, List.set_cons_succ]
  refine wpAnyH_take (i := 5) (oi := rq5) (v := undef) rfl (by kernel_rfl) (by kernel_rfl) (by kernel_rfl) (fun c _ w h => hQP c _ _ _ w h) (Or.inr ⟨by rfl, rfl⟩) hS ?_
  simp only [rq5d, Act.put, List.setIfInBounds_toArray, List.set_cons_zero, List.set_cons_succ]
  refine wpAnyH_take (i := 6) (oi := rq6) (v := undef) rfl (by kernel_rfl) (by kernel_rfl) (by kernel_rfl) (fun c _ w h => hQP c _ _ _ w h) (Or.inr ⟨by rfl, rfl⟩) hS ?_
  simp only [rq6d, Act.put, List.setIfInBounds_toArray, List.set_cons_zero, List.set_cons_succ]
  refine wpAnyH_take (i := 7) (oi := rq7) (v := undef) rfl (by kernel_rfl) (by kernel_rfl) (by kernel_rfl) (fun c _ w h => hQP c _ _ _ w h) (Or.inr ⟨by rfl, rfl⟩) hS ?_
  simp only [rq7d, Act.put, List.setIfInBounds_toArray, List.set_cons_zero, List.set_cons_succ]
  refine wpAnyH_take (i := 8) (oi := rq8) (v := .bool true) rfl (by kernel_rfl) (by kernel_rfl) (by kernel_rfl) (fun c _ w h => hQP c _ _ _ w h) (Or.inl ⟨by rfl, ?_⟩) hS ?_
  · rintro w -
    unfold rq8
    go_simp
  simp only [rq8d, Act.put, List.setIfInBounds_toArray, List.set_cons_zero, List.set_cons_succ]
  refine wpAnyH_take (i := 9) (oi := rq9) (v := .bool true) rfl (by kernel_rfl) (by kernel_rfl) (by kernel_rfl) (fun c _ w h => hQP c _ _ _ w h) (Or.inl ⟨by rfl, ?_⟩) hS ?_
  · rintro w -
    unfold rq9
    go_simp
  simp only [rq9d, Act.put, List.setIfInBounds_toArray, List.set_cons_zero, List.set_cons_succ]
  refine wpAnyH_take (i := 10) (oi := rq10) (v := undef) rfl (by kernel_rfl) (by kernel_rfl) (by kernel_rfl) (fun c _ w h => hQP c _ _ _ w h) (Or.inr ⟨by rfl, rfl⟩) hS ?_
  simp only [rq10d, Act.put, List.setIfInBounds_toArray, List.set_cons_zero, List.set_cons_succ]
  refine wpAnyH_take (i := 11) (oi := rq11) (v := undef) rfl (by kernel_rfl) (by kernel_rfl) (by kernel_rfl) (fun c _ w h => hQP c _ _ _ w h) (Or.inr ⟨by rfl, rfl⟩) hS ?_
  simp only [rq11d, Act.put, List.setIfInBounds_toArray, List.set_cons_zero, List.set_cons_succ]
  refine wpAnyH_take (i := 12) (oi := rq12) (v := undef) rfl (by kernel_rfl) (by kernel_rfl) (by kernel_rfl) (fun c _ w h => hQP c _ _ _ w h) (Or.inr ⟨by rfl, rfl⟩) hS ?_
  simp only [rq12d, Act.put, List.setIfInBounds_toArray, List.set_cons_zero, List.set_cons_succ]
  refine wpAnyH_take (i := 13) (oi := rq13) (v := undef) rfl (by kernel_rfl) (by kernel_rfl) (by kernel_rfl) (fun c _ w h => hQP c _ _ _ w h) (Or.inr ⟨by rfl, rfl⟩) hS ?_
  simp only [rq13d, Act.put, List.setIfInBounds_toArray, List.set_cons_zero, List.set_cons_succ]
  refine wpAnyH_take (i := 14) (oi := rq14) (v := undef) rfl (by kernel_rfl) (by kernel_rfl) (by kernel_rfl) (fun c _ w h => hQP c _ _ _ w h) (Or.inr ⟨by rfl, rfl⟩) hS ?_
  simp only [rq14d, Act.put, List.setIfInBounds_toArray, List.set_cons_zero, List.set_cons_succ]
  refine wpAnyH_take (i := 15) (oi := rq15) (v := .bool true) rfl (by kernel_rfl) (by kernel_rfl) (by kernel_rfl) (fun c _ w h => hQP c _ _ _ w h) (Or.inl ⟨by rfl, ?_⟩) hS ?_
  · rintro w -
    unfold rq15
    go_simp
  simp only [rq15d, Act.put, List.setIfInBounds_toArray, List.set_cons_zero, List.set_cons_succ]
  refine wpAnyH_take (i := 16) (oi := rq16) (v := .bool true) rfl (by kernel_rfl) (by kernel_rfl) (by kernel_rfl) (fun c _ w h => hQP c _ _ _ w h) (Or.inl ⟨by rfl, ?_⟩) hS ?_
  · rintro w -
    unfold rq16
    go_simp
  simp only [rq16d, Act.put, List.setIfInBounds_toArray, List.set_cons_zero, List.set_cons_succ]
  refine wpAnyH_take (i := 17) (oi := rq17) (v := undef) rfl (by kernel_rfl) (by kernel_rfl) (by kernel_rfl) (fun c _ w h => hQP c _ _ _ w h) (Or.inr ⟨by rfl, rfl⟩) hS ?_
  simp only [rq17d, Act.put, List.setIfInBounds_toArray, List.set_cons_zero, List.set_cons_succ]
  refine wpAnyH_take (i := 18) (oi := rq18) (v := undef) rfl (by kernel_rfl) (by kernel_rfl) (by kernel_rfl) (fun c _ w h => hQP c _ _ _ w h) (Or.inr ⟨by rfl, rfl⟩) hS ?_
  simp only [rq18d, Act.put, List.setIfInBounds_toArray, List.set_cons_zero, List.set_cons_succ]
  refine wpAnyH_take (i := 19) (oi := rq19) (v := undef) rfl (by kernel_rfl) (by kernel_rfl) (by kernel_rfl) (fun c _ w h => hQP c _ _ _ w h) (Or.inr ⟨by rfl, rfl⟩) hS ?_
  simp only [rq19d, Act.put, List.setIfInBounds_toArray, List.set_cons_zero, List.set_cons_succ]
  refine wpAnyH_take (i := 20) (oi := rq20) (v := undef) rfl (by kernel_rfl) (by kernel_rfl) (by kernel_rfl) (fun c _ w h => hQP c _ _ _ w h) (Or.inr ⟨by rfl, rfl⟩) hS ?_
  simp only [rq20d, Act.put, List.setIfInBounds_toArray, List.set_cons_zero, List.set_cons_succ]
  refine wpAnyH_take (i := 21) (oi := rq21) (v := undef) rfl (by kernel_rfl) (by kernel_rfl) (by kernel_rfl) (fun c _ w h => hQP c _ _ _ w h) (Or.inr ⟨by rfl, rfl⟩) hS ?_
  simp only [rq21d, Act.put, List.setIfInBounds_toArray, List.set_cons_zero, List.set_cons_succ]
  refine wpAnyH_take (i := 22) (oi := rq22) (v := undef) rfl (by kernel_rfl) (by kernel_rfl) (by kernel_rfl) (fun c _ w h => hQP c _ _ _ w h) (Or.inr ⟨by rfl, rfl⟩) hS ?_
  simp only [rq22d, Act.put, List.setIfInBounds_toArray, List.set_cons_zero, List.set_cons_succ]
  refine wpAnyH_take (i := 23) (oi := rq23) (v := undef) rfl (by kernel_rfl) (by kernel_rfl) (by kernel_rfl) (fun c _ w h => hQP c _ _ _ w h) (Or.inr ⟨by rfl, rfl⟩) hS ?_
  simp only [rq23d, Act.put, List.setIfInBounds_toArray, List.set_cons_zero, List.set_cons_succ]
  refine wpAnyH_take (i := 24) (oi := rq24) (v := .bool true) rfl (by kernel_rfl) (by kernel_rfl) (by kernel_rfl) (fun c _ w h => hQP c _ _ _ w h) (Or.inl ⟨by rfl, ?_⟩) hS ?_
  · rintro w -
    unfold rq24
    go_simp
  simp only [rq24d, Act.put, List.setIfInBounds_toArray, List.set_cons_zero, List.set_cons_succ]
  refine wpAnyH_take (i := 25) (oi := rq25) (v := .bool true) rfl (by kernel_rfl) (by kernel_rfl) (by kernel_rfl) (fun c _ w h => hQP c _ _ _ w h) (Or.inl ⟨by rfl, ?_⟩) hS ?_
  · rintro w -
    unfold rq25
    go_simp
  simp only [rq25d, Act.put, List.setIfInBounds_toArray, List.set_cons_zero, List.set_cons_succ]
  refine wpAnyH_take (i := 26) (oi := rq26) (v := undef) rfl (by kernel_rfl) (by kernel_rfl) (by kernel_rfl) (fun c _ w h => hQP c _ _ _ w h) (Or.inr ⟨by rfl, rfl⟩) hS ?_
  simp only [rq26d, Act.put, List.setIfInBounds_toArray, List.set_cons_zero, List.set_cons_succ]
  refine wpAnyH_take (i := 27) (oi := rq27) (v := undef) rfl (by kernel_rfl) (by kernel_rfl) (by kernel_rfl) (fun c _ w h => hQP c _ _ _ w h) (Or.inr ⟨by rfl, rfl⟩) hS ?_
  simp only [rq27d, Act.put, List.setIfInBounds_toArray, List.set_cons_zero, List.set_cons_succ]
  refine wpAnyH_take (i := 28) (oi := rq28) (v := undef) rfl (by kernel_rfl) (by kernel_rfl) (by kernel_rfl) (fun c _ w h => hQP c _ _ _ w h) (Or.inr ⟨by rfl, rfl⟩) hS ?_
  simp only [rq28d, Act.put, List.setIfInBounds_toArray, List.set_cons_zero, List.set_cons_succ]
  refine wpAnyH_take (i := 29) (oi := rq29) (v := undef) rfl (by kernel_rfl) (by kernel_rfl) (by kernel_rfl) (fun c _ w h => hQP c _ _ _ w h) (Or.inr ⟨by rfl, rfl⟩) hS ?_
  simp only [rq29d, Act.put, List.setIfInBounds_toArray, List.set_cons_zero, List.set_cons_succ]
  refine wpAnyH_take (i := 30) (oi := rq30) (v := undef) rfl (by kernel_rfl) (by kernel_rfl) (by kernel_rfl) (fun c _ w h => hQP c _ _ _ w h) (Or.inr ⟨by rfl, rfl⟩) hS ?_
  simp only [rq30d, Act.put, List.setIfInBounds_toArray, List.set_cons_zero, List.set_cons_succ]
  refine wpAnyH_take (i := 31) (oi := rq31) (v := undef) rfl (by kernel_rfl) (by kernel_rfl) (by kernel_rfl) (fun c _ w h => hQP c _ _ _ w h) (Or.inr ⟨by rfl, rfl⟩) hS ?_
  simp only [rq31d, Act.put, List.setIfInBounds_toArray, List.set_cons_zero, List.set_cons_succ]
  refine wpAnyH_take (i := 32) (oi := rq32) (v := undef) rfl (by kernel_rfl) (by kernel_rfl) (by kernel_rfl) (fun c _ w h => hQP c _ _ _ w h) (Or.inr ⟨by rfl, rfl⟩) hS ?_
  simp only [rq32d, Act.put, List.setIfInBounds_toArray, List.set_cons_zero, List.set_cons_succ]
  refine wpAnyH_take (i := 33) (oi := rq33) (v := .bool true) rfl (by kernel_rfl) (by kernel_rfl) (by kernel_rfl) (fun c _ w h => hQP c _ _ _ w h) (Or.inl ⟨by rfl, ?_⟩) hS ?_
  · rintro w -
    unfold rq33
    go_simp
  simp only [rq33d, Act.put, List.setIfInBounds_toArray, List.set_cons_zero, List.set_cons_succ]
  refine wpAnyH_take (i := 34) (oi := rq34) (v := .bool true) rfl (by kernel_rfl) (by kernel_rfl) (by kernel_rfl) (fun c _ w h => hQP c _ _ _ w h) (Or.inl ⟨by rfl, ?_⟩) hS ?_
  · rintro w -
    unfold rq34
    go_simp
  simp only [rq34d, Act.put, List.setIfInBounds_toArray, List.set_cons_zero, List.set_cons_succ]
  refine wpAnyH_take (i := 35) (oi := rq35) (v := undef) rfl (by kernel_rfl) (by kernel_rfl) (by kernel_rfl) (fun c _ w h => hQP c _ _ _ w h) (Or.inr ⟨by rfl, rfl⟩) hS ?_
  simp only [rq35d, Act.put, List.setIfInBounds_toArray, List.set_cons_zero, List.set_cons_succ]
  refine wpAnyH_take (i := 36) (oi := rq36) (v := undef) rfl (by kernel_rfl) (by kernel_rfl) (by kernel_rfl) (fun c _ w h => hQP c _ _ _ w h) (Or.inr ⟨by rfl, rfl⟩) hS ?_
  simp only [rq36d, Act.put, List.setIfInBounds_toArray, List.set_cons_zero, List.set_cons_succ]
  refine wpAnyH_take (i := 37) (oi := rq37) (v := undef) rfl (by kernel_rfl) (by kernel_rfl) (by kernel_rfl) (fun c _ w h => hQP c _ _ _ w h) (Or.inr ⟨by rfl, rfl⟩) hS ?_
  simp only [rq37d, Act.put, List.setIfInBounds_toArray, List.set_cons_zero, List.set_cons_succ]
  refine wpAnyH_take (i := 38) (oi := rq38) (v := undef) rfl (by kernel_rfl) (by kernel_rfl) (by kernel_rfl) (fun c _ w h => hQP c _ _ _ w h) (Or.inr ⟨by rfl, rfl⟩) hS ?_
  simp only [rq38d, Act.put, List.setIfInBounds_toArray, List.set_cons_zero, List.set_cons_succ]
  refine wpAnyH_take (i := 39) (oi := rq39) (v := undef) rfl (by kernel_rfl) (by kernel_rfl) (by kernel_rfl) (fun c _ w h => hQP c _ _ _ w h) (Or.inr ⟨by rfl, rfl⟩) hS ?_
  simp only [rq39d, Act.put, List.setIfInBounds_toArray, List.set_cons_zero, List.set_cons_succ]
  refine wpAnyH_take (i := 40) (oi := rq40) (v := undef) rfl (by kernel_rfl) (by kernel_rfl) (by kernel_rfl) (fun c _ w h => hQP c _ _ _ w h) (Or.inr ⟨by rfl, rfl⟩) hS ?_
  simp only [rq40d, Act.put, List.setIfInBounds_toArray, List.set_cons_zero, List.set_cons_succ]
  refine wpAnyH_take (i := 41) (oi := rq41) (v := undef) rfl (by kernel_rfl) (by kernel_rfl) (by kernel_rfl) (fun c _ w h => hQP c _ _ _ w h) (Or.inr ⟨by rfl, rfl⟩) hS ?_
  simp only [rq41d, Act.put, List.setIfInBounds_toArray, List.set_cons_zero, List.set_cons_succ]
  refine wpAnyH_take (i := 42) (oi := rq42) (v := undef) rfl (by kernel_rfl) (by kernel_rfl) (by kernel_rfl) (fun c _ w h => hQP c _ _ _ w h) (Or.inr ⟨by rfl, rfl⟩) hS ?_
  simp only [rq42d, Act.put, List.setIfInBounds_toArray, List.set_cons_zero, List.set_cons_succ]
  refine wpAnyH_take (i := 43) (oi := rq43) (v := undef) rfl (by kernel_rfl) (by kernel_rfl) (by kernel_rfl) (fun c _ w h => hQP c _ _ _ w h) (Or.inr ⟨by rfl, rfl⟩) hS ?_
  simp only [rq43d, Act.put, List.setIfInBounds_toArray, List.set_cons_zero, List.set_cons_succ]
  refine wpAnyH_take (i := 44) (oi := rq44) (v := .bool true) rfl (by kernel_rfl) (by kernel_rfl) (by kernel_rfl) (fun c _ w h => hQP c _ _ _ w h) (Or.inl ⟨by rfl, ?_⟩) hS ?_
  · rintro w -
    unfold rq44
    go_simp
  simp only [rq44d, Act.put, List.setIfInBounds_toArray, List.set_cons_zero, List.set_cons_succ]
  refine wpAnyH_take (i := 45) (oi := rq45) (v := .bool true) rfl (by kernel_rfl) (by kernel_rfl) (by kernel_rfl) (fun c _ w h => hQP c _ _ _ w h) (Or.inl ⟨by rfl, ?_⟩) hS ?_
  · rintro w -
    unfold rq45
    go_simp
  simp only [rq45d, Act.put, List.setIfInBounds_toArray, List.set_cons_zero, List.set_cons_succ]
  refine wpAnyH_take (i := 46) (oi := rq46) (v := undef) rfl (by kernel_rfl) (by kernel_rfl) (by kernel_rfl) (fun c _ w h => hQP c _ _ _ w h) (Or.inr ⟨by rfl, rfl⟩) hS ?_
  simp only [rq46d, Act.put, List.setIfInBounds_toArray, List.set_cons_zero, List.set_cons_succ]
  refine wpAnyH_take (i := 47) (oi := rq47) (v := undef) rfl (by kernel_rfl) (by kernel_rfl) (by kernel_rfl) (fun c _ w h => hQP c _ _ _ w h) (Or.inr ⟨by rfl, rfl⟩) hS ?_
  simp only [rq47d, Act.put, List.setIfInBounds_toArray, List.set_cons_zero, List.set_cons_succ]
  refine wpAnyH_take (i := 48) (oi := rq48) (v := undef) rfl (by kernel_rfl) (by kernel_rfl) (by kernel_rfl) (fun c _ w h => hQP c _ _ _ w h) (Or.inr ⟨by rfl, rfl⟩) hS ?_
  simp only [rq48d, Act.put, List.setIfInBounds_toArray, List.set_cons_zero, List.set_cons_succ]
  refine wpAnyH_take (i := 49) (oi := rq49) (v := undef) rfl (by kernel_rfl) (by kernel_rfl) (by kernel_rfl) (fun c _ w h => hQP c _ _ _ w h) (Or.inr ⟨by rfl, rfl⟩) hS ?_
  simp only [rq49d, Act.put, List.setIfInBounds_toArray, List.set_cons_zero, List.set_cons_succ]
  refine wpAnyH_take (i := 50) (oi := rq50) (v := undef) rfl (by kernel_rfl) (by kernel_rfl) (by kernel_rfl) (fun c _ w h => hQP c _ _ _ w h) (Or.inr ⟨by rfl, rfl⟩) hS ?_
  simp only [rq50d, Act.put, List.setIfInBounds_toArray, List.set_cons_zero, List.set_cons_succ]
  refine wpAnyH_take (i := 51) (oi := rq51) (v := undef) rfl (by kernel_rfl) (by kernel_rfl) (by kernel_rfl) (fun c _ w h => hQP c _ _ _ w h) (Or.inr ⟨by rfl, rfl⟩) hS ?_
  simp only [rq51d, Act.put, List.setIfInBounds_toArray, List.set_cons_zero, List.set_cons_succ]
  refine wpAnyH_take (i := 52) (oi := rq52) (v := undef) rfl (by kernel_rfl) (by kernel_rfl) (by kernel_rfl) (fun c _ w h => hQP c _ _ _ w h) (Or.inr ⟨by rfl, rfl⟩) hS ?_
  simp only [rq52d, Act.put, List.setIfInBounds_toArray, List.set_cons_zero, List.set_cons_succ]
  refine wpAnyH_take (i := 53) (oi := rq53) (v := undef) rfl (by kernel_rfl) (by kernel_rfl) (by kernel_rfl) (fun c _ w h => hQP c _ _ _ w h) (Or.inr ⟨by rfl, rfl⟩) hS ?_
  simp only [rq53d, Act.put, List.setIfInBounds_toArray, List.set_cons_zero, List.set_cons_succ]
  refine wpAnyH_take (i := 54) (oi := rq54) (v := undef) rfl (by kernel_rfl) (by kernel_rfl) (by kernel_rfl) (fun c _ w h => hQP c _ _ _ w h) (Or.inr ⟨by rfl, rfl⟩) hS ?_
  simp only [rq54d, Act.put, List.setIfInBounds_toArray, List.set_cons_zero, List.set_cons_succ]
  refine wpAnyH_take (i := 55) (oi := rq55) (v := .bool true) rfl (by kernel_rfl) (by kernel_rfl) (by kernel_rfl) (fun c _ w h => hQP c _ _ _ w h) (Or.inl ⟨by rfl, ?_⟩) hS ?_
  · rintro w -
    unfold rq55
    go_simp
  simp only [rq55d, Act.put, List.setIfInBounds_toArray, List.set_cons_zero, List.set_cons_succ]
  refine wpAnyH_take (i := 56) (oi := rq56) (v := .bool true) rfl (by kernel_rfl) (by kernel_rfl) (by kernel_rfl) (fun c _ w h => hQP c _ _ _ w h) (Or.inl ⟨by rfl, ?_⟩) hS ?_
  · rintro w -
    unfold rq56
    go_simp
  simp only [rq56d, Act.put, List.setIfInBounds_toArray, List.set_cons_zero, List.set_cons_succ]
  refine wpAnyH_take (i := 57) (oi := rq57) (v := undef) rfl (by kernel_rfl) (by kernel_rfl) (by kernel_rfl) (fun c _ w h => hQP c _ _ _ w h) (Or.inr ⟨by rfl, rfl⟩) hS ?_
  simp only [rq57d, Act.put, List.setIfInBounds_toArray, List.set_cons_zero, List.set_cons_succ]
  refine wpAnyH_take (i := 58) (oi := rq58) (v := undef) rfl (by kernel_rfl) (by kernel_rfl) (by kernel_rfl) (fun c _ w h => hQP c _ _ _ w h) (Or.inr ⟨by rfl, rfl⟩) hS ?_
  simp only [rq58d, Act.put, List.setIfInBounds_toArray, List.set_cons_zero, List.set_cons_succ]
  refine wpAnyH_take (i := 59) (oi := rq59) (v := undef) rfl (by kernel_rfl) (by kernel_rfl) (by kernel_rfl) (fun c _ w h => hQP c _ _ _ w h) (Or.inr ⟨by rfl, rfl⟩) hS ?_
  simp only [rq59d, Act.put, List.setIfInBounds_toArray, List.set_cons_zero, List.set_cons_succ]
  refine wpAnyH_take (i := 60) (oi := rq60) (v := .bool true) rfl (by kernel_rfl) (by kernel_rfl) (by kernel_rfl) (fun c _ w h => hQP c _ _ _ w h) (Or.inl ⟨by rfl, ?_⟩) hS ?_
  · rintro w -
    unfold rq60
    go_simp
  simp only [rq60d, Act.put, List.setIfInBounds_toArray, List.set_cons_zero, List.set_cons_succ]
  refine wpAnyH_take (i := 61) (oi := rq61) (v := .bool true) rfl (by kernel_rfl) (by kernel_rfl) (by kernel_rfl) (fun c _ w h => hQP c _ _ _ w h) (Or.inl ⟨by rfl, ?_⟩) hS ?_
  · rintro w -
    unfold rq61
    go_simp
  simp only [rq61d, Act.put, List.setIfInBounds_toArray, List.set_cons_zero, List.set_cons_succ]
  refine wpAnyH_take (i := 62) (oi := rq62) (v := undef) rfl (by kernel_rfl) (by kernel_rfl) (by kernel_rfl) (fun c _ w h => hQP c _ _ _ w h) (Or.inr ⟨by rfl, rfl⟩) hS ?_
  simp only [rq62d, Act.put, List.setIfInBounds_toArray, List.set_cons_zero, List.set_cons_succ]
  refine wpAnyH_take (i := 63) (oi := rq63) (v := undef) rfl (by kernel_rfl) (by kernel_rfl) (by kernel_rfl) (fun c _ w h => hQP c _ _ _ w h) (Or.inr ⟨by rfl, rfl⟩) hS ?_
  simp only [rq63d, Act.put, List.setIfInBounds_toArray, List.set_cons_zero, List.set_cons_succ]
  refine wpAnyH_take (i := 64) (oi := rq64) (v := undef) rfl (by kernel_rfl) (by kernel_rfl) (by kernel_rfl) (fun c _ w h => hQP c _ _ _ w h) (Or.inr ⟨by rfl, rfl⟩) hS ?_
  simp only [rq64d, Act.put, List.setIfInBounds_toArray, List.set_cons_zero, List.set_cons_succ]
  refine wpAnyH_take (i := 65) (oi := rq65) (v := undef) rfl (by kernel_rfl) (by kernel_rfl) (by kernel_rfl) (fun c _ w h => hQP c _ _ _ w h) (Or.inr ⟨by rfl, rfl⟩) hS ?_
  simp only [rq65d, Act.put, List.setIfInBounds_toArray, List.set_cons_zero, List.set_cons_succ]
  refine wpAnyH_take (i := 66) (oi := rq66) (v := undef) rfl (by kernel_rfl) (by kernel_rfl) (by kernel_rfl) (fun c _ w h => hQP c _ _ _ w h) (Or.inr ⟨by rfl, rfl⟩) hS ?_
  simp only [rq66d, Act.put, List.setIfInBounds_toArray, List.set_cons_zero, List.set_cons_succ]
  refine wpAnyH_take (i := 67) (oi := rq67) (v := undef) rfl (by kernel_rfl) (by kernel_rfl) (by kernel_rfl) (fun c _ w h => hQP c _ _ _ w h) (Or.inr ⟨by rfl, rfl⟩) hS ?_
  simp only [rq67d, Act.put, List.setIfInBounds_toArray, List.set_cons_zero, List.set_cons_succ]
  refine wpAnyH_take (i := 68) (oi := rq68) (v := undef) rfl (by kernel_rfl) (by kernel_rfl) (by kernel_rfl) (fun c _ w h => hQP c _ _ _ w h) (Or.inr ⟨by rfl, rfl⟩) hS ?_
  simp only [rq68d, Act.put, List.setIfInBounds_toArray, List.set_cons_zero, List.set_cons_succ]
  refine wpAnyH_take (i := 69) (oi := rq69) (v := undef) rfl (by kernel_rfl) (by kernel_rfl) (by kernel_rfl) (fun c _ w h => hQP c _ _ _ w h) (Or.inr ⟨by rfl, rfl⟩) hS ?_
  simp only [rq69d, Act.put, List.setIfInBounds_toArray, List.set_cons_zero, List.set_cons_succ]
  refine wpAnyH_take (i := 70) (oi := rq70) (v := undef) rfl (by kernel_rfl) (by kernel_rfl) (by kernel_rfl) (fun c _ w h => hQP c _ _ _ w h) (Or.inr ⟨by rfl, rfl⟩) hS ?_
  simp only [rq70d, Act.put, List.setIfInBounds_toArray, List.set_cons_zero, List.set_cons_succ]
  refine wpAnyH_take (i := 71) (oi := rq71) (v := .bool true) rfl (by kernel_rfl) (by kernel_rfl) (by kernel_rfl) (fun c _ w h => hQP c _ _ _ w h) (Or.inl ⟨by rfl, ?_⟩) hS ?_
  · rintro w -
    unfold rq71
    go_simp
  simp only [rq71d, Act.put, List.setIfInBounds_toArray, List.set_cons_zero, List.set_cons_succ]
  exact wpAnyH_done (by kernel_rfl) (hQ _ _ _ _ _ _ _ _ _ _ _ _ _ _ _ _ _ _ _ _ _ _ _ _ _ _ _ _ _ _ _ _ _ _ _ _ _ _ _ _ _ _ _ _ _ _ _ _ _ _ _ _ _ _ _ _ _ _ _ _ _ _ _ _ _ _ _ _ _ _ _) _
end Go.Proofs.YtnljhlmopjgogaaGreatDoor
namespace Go.Proofs.YtnljhlmopjgogaaGreatDoor
open Go.RowKit
theorem below_drew' {B : Nat} {w w' : World} (h : Below B w w') : Below B w w'.drew := ⟨h.os, h.tape, h.output, h.size, h.block⟩
theorem StBox.keep {W W' : World} {b : Nat} {s : St} (h : StBox W b s) (hb : Below W.heap.size W W') : StBox W' b s := (hb.block b h.lt).trans h
theorem four_keep {W W' : World} {b : Nat} {c0 c1 c2 c3 : Bool} (h : W.heap[b]? = some (.cells #[.bool c0, .bool c1, .bool c2, .bool c3] 4 (0, 0))) (hb : Below W.heap.size W W') : W'.heap[b]? = some (.cells #[.bool c0, .bool c1, .bool c2, .bool c3] 4 (0, 0)) :=
  (hb.block b (Array.getElem?_eq_some_iff.1 h).1).trans h
theorem four_cells {W : World} {b : Nat} {c0 c1 c2 c3 : Bool} (h : W.heap[b]? = some (.cells #[.bool c0, .bool c1, .bool c2, .bool c3] 4 (0, 0))) : W.cell? ⟨b, 0, none⟩ = some (.bool c0) ∧ W.cell? ⟨b, 1, none⟩ = some (.bool c1) ∧ W.cell? ⟨b, 2, none⟩ = some (.bool c2) ∧ W.cell? ⟨b, 3, none⟩ = some (.bool c3) :=
  ⟨cell_of' h 0, cell_of' h 1, cell_of' h 2, cell_of' h 3⟩
set_option maxRecDepth 100000 in
set_option maxHeartbeats 16000000 in
theorem isStmts_step (n₀ : Nat) (ad : Option Addr) (cap : Nat) (body : List St)
    (ih : ∀ s ∈ body, ∀ b ∈ s.blocks, ∀ w : World, n₀ ≤ w.heap.size → b.Is n₀ w → Calls Tryz.prog 42 #[b.slice] w fun r w' => r = .returned (.bool b.ok) ∧ Below w.heap.size w w')
    (w : World) (hn : n₀ ≤ w.heap.size) (hI : (Bl.mk ad cap body).Is n₀ w) : Calls Tryz.prog 42 #[.slice ad body.length cap] w fun r w' => r = .returned (.bool (Bl.mk ad cap body).ok) ∧ Below w.heap.size w w' := by
  have HR := hid (Bl.ok_mk ad cap body)
  have hd := hI.down
  have hl1 := hd.1.1; have hl2 := hd.1.2.1
  unfold maxLen at hl2
  go_enter Tryz.func42, Tryz.ntmps42
  go_wp2
  go_loopw [3] (fun i wr => ∃ j : Nat, j ≤ body.length ∧ i = .int .i64 j ∧ Hid ((body.take j).all (fun s => s.subs.all St.ok1) = true) ∧ Below w.heap.size w wr)
    (fun i _ => body.length - (intOf i).toNat)
  case atStart => exact ⟨0, by omega, rfl, rfl, Below.refl _ _⟩
  case round =>
    obtain ⟨wo, hwo⟩ : ∃ wo : World, wo = wr := ⟨_, rfl⟩
    subst hwo
    obtain ⟨j, hj, rfl, HA, hbw⟩ := hrel
    have hz := hbw.size
    by_cases hlt : j < body.length
    · rcases hd.1.2.2 with h | ⟨b, off, rfl, hbn, hrow⟩
      · subst h; simp at hlt
      have hb0 := hbw.mono hn
      have hbn2 : b < wo.heap.size := by omega
      have hr := hrow.below hb0 hbn
      have hIj := (hd.2 _ (List.getElem_mem hlt)).below hb0
      have hih := ih _ (List.getElem_mem hlt)
      have HX : Hid (body[j].subs.all St.ok1 = false → (Bl.mk (some ⟨b, off, none⟩) cap body).ok = false) := fun h => by
        rw [HR.out]; exact allL_cut (fun s : St => s.subs.all St.ok1) body j hlt h
      have HY : Hid (body[j].subs.all St.ok1 = true → (body.take (j + 1)).all (fun s => s.subs.all St.ok1) = true) := fun h => by
        rw [allL_snoc (fun s : St => s.subs.all St.ok1) body j hlt, HA.out, Bool.true_and]; exact h
      clear ih
      rcases he' : body[j] with ⟨kind, mon, name, n, e, ad', cap', blocks, pos⟩
      rcases hee : e with ⟨eop, emon, ename, en, ead, ecap, ekids, epos⟩
      obtain ⟨c0, c1, c2, c3, c4, c5, c6, c7, c8, c9, c10, c11⟩ := row12 hr j hlt (by rw [he', hee]; rfl)
      rw [he'] at hIj hih HX HY
      have hIs := hIj.down
      have hsm := hIs.1.2.2.2.1; have hsn := hIs.1.2.2.2.2
      unfold Len at hsm hsn
      have hlb1 := hIs.2.2.1.1; have hlb2 := hIs.2.2.1.2.1
      unfold maxLen at hlb2
      clear he' hIj
      have hih : ∀ b ∈ blocks, ∀ w : World, n₀ ≤ w.heap.size → b.Is n₀ w → Calls Tryz.prog 42 #[b.slice] w fun r w' => r = .returned (.bool b.ok) ∧ Below w.heap.size w w' := hih
      by_cases hkr : 1 ≤ kind ∧ kind ≤ 11
      · obtain ⟨k, rfl⟩ : ∃ k : Nat, kind = (k : Int) := ⟨kind.toNat, by omega⟩
        have hk1 : 1 ≤ k := by omega
        have hk2 : k ≤ 11 := by omega
        have HD := hid (stok_doc k mon name n e ad' cap' blocks pos hk1 hk2)
        have HO := hid (St.sok_mk (k : Int) mon name n e ad' cap' blocks pos)
        have hform := fun W => form_yes k W hk1 hk2
        obtain ⟨fm, hfm⟩ : ∃ fm, stMon k = fm := ⟨_, rfl⟩
        obtain ⟨fn, hfn⟩ : ∃ fn, stName k = fn := ⟨_, rfl⟩
        obtain ⟨fu, hfu⟩ : ∃ fu, stNumber k = fu := ⟨_, rfl⟩
        obtain ⟨fe, hfe⟩ : ∃ fe, stExpr k = fe := ⟨_, rfl⟩
        obtain ⟨ll, hll⟩ : ∃ ll, stLeast k = ll := ⟨_, rfl⟩
        obtain ⟨mm, hmm⟩ : ∃ mm, stMost k = mm := ⟨_, rfl⟩
        rw [hfm, hfn, hfu, hfe, hll, hmm] at HD
        simp only [hfm, hfn, hfu, hfe, hll, hmm] at hform
        clear hfm hfn hfu hfe hll hmm hkr
        go_upto_region 6 with (go_at_call 69; refine (hform _).mono ?_; rintro r w' ⟨rfl, hw'⟩; subst hw')
        have hBx : StBox ((wo.alloc (.cells #[.int .i64 (k : Int), .string mon, .string name, .int .i64 n, .int .i64 eop, .string emon, .string ename, .int .i64 en, .slice ead ekids.length ecap, .int .i64 epos, .slice ad' blocks.length cap', .int .i64 pos] 55)).alloc (.cells #[.bool fm, .bool fn, .bool fu, .bool fe] 4)) wo.heap.size (St.mk (k : Int) mon name n (.mk eop emon ename en ead ecap ekids epos) ad' cap' blocks pos) :=
          StBox.keep (StBox.new wo (St.mk (k : Int) mon name n (.mk eop emon ename en ead ecap ekids epos) ad' cap' blocks pos)) ((Below.refl _ _).al le_rfl' _)
        have hFx : ((wo.alloc (.cells #[.int .i64 (k : Int), .string mon, .string name, .int .i64 n, .int .i64 eop, .string emon, .string ename, .int .i64 en, .slice ead ekids.length ecap, .int .i64 epos, .slice ad' blocks.length cap', .int .i64 pos] 55)).alloc (.cells #[.bool fm, .bool fn, .bool fu, .bool fe] 4)).heap[wo.heap.size + 1]? = some (.cells #[.bool fm, .bool fn, .bool fu, .bool fe] 4 (0, 0)) := heapAt _ (by simp)
        have hB2 := (hbw.al le_rfl' (.cells #[.int .i64 (k : Int), .string mon, .string name, .int .i64 n, .int .i64 eop, .string emon, .string ename, .int .i64 en, .slice ead ekids.length ecap, .int .i64 epos, .slice ad' blocks.length cap', .int .i64 pos] 55)).al le_rfl' (.cells #[.bool fm, .bool fn, .bool fu, .bool fe] 4)
        have hBn := ((Below.refl wo.heap.size wo).al le_rfl' (.cells #[.int .i64 (k : Int), .string mon, .string name, .int .i64 n, .int .i64 eop, .string emon, .string ename, .int .i64 en, .slice ead ekids.length ecap, .int .i64 epos, .slice ad' blocks.length cap', .int .i64 pos] 55)).al le_rfl' (.cells #[.bool fm, .bool fn, .bool fu, .bool fe] 4)
        obtain ⟨W2, hW2⟩ : ∃ W2, (wo.alloc (.cells #[.int .i64 (k : Int), .string mon, .string name, .int .i64 n, .int .i64 eop, .string emon, .string ename, .int .i64 en, .slice ead ekids.length ecap, .int .i64 epos, .slice ad' blocks.length cap', .int .i64 pos] 55)).alloc (.cells #[.bool fm, .bool fn, .bool fu, .bool fe] 4) = W2 := ⟨_, rfl⟩
        rw [hW2] at hBx hFx hB2 hBn ⊢
        clear hW2 c0 c1 c2 c3 c4 c5 c6 c7 c8 c9 c10 c11 hform
        have hz2 := hBn.size
        obtain ⟨⟨b0, b1, b2, b3⟩, -, b10, -⟩ := hBx.cells
        obtain ⟨f0, f1, f2, f3⟩ := four_cells hFx
        refine reg6 _ _ _ _ _ _ _ _ _ _ _ _ _ _ _ _ _ _ _ _ _ _ _ _ _ _ _ _ _ _ _ _ _ _ _ _ _ _ _ _ _ _ _ _ _ _ _ _ _ _ _ _ _ _ _ _ _ _ _ _ _ _ _ _ _ _ _ _ _ _ _ _ _ _ _ _ _ _ _ _ _ _ _ _ _ _ _ _ _ _ _ _ _ _ _ _ _ _ _ _ _ _ _ _ _ _ _ _ _ _ _ _ _ _ _ _ _ _ _ _ _ _ _ _ _ _ _ _ _ _ wo.heap.size (wo.heap.size + 1) ll mm blocks.length cap' ad' mon name n fm fn fu W2 hsm hsn ⟨b1, b2, b3, b10, f0, f1, f2⟩ (fun _ _ d _ _ h => by cases d <;> exact h) ?_
        intro v28 v29 v30 v31 v32 v33 v34 v35 v36 v37 v38 v39 v40 v41 v42 v43 v44 v45 v46 v47 v48 v49 v50 v51 v52 v53 v54 v55 v56 v57 v58 v59 v60 v61 v62 v63 v64 v65 v66 v67 v68 v69 v70 v71 v72 v73 v74 v75 v76 v77 v78 v79 v80 v81 v82 v83 v84 v85 v86 v87 v88 v89 v90 v91 v92 v93 v94 v95 v96 v97 v98 T W3 hT B3
        have HP : Hid ((St.mk (k : Int) mon name n e ad' cap' blocks pos).ok1 = (!T && !(fe && !e.ok || !fe && !e.none))) := by
          show _ = _
          rw [HD.out, ← hT]
          simp only [Bool.not_or, Bool.and_assoc]
        clear hT HD b0 b1 b2 b3 b10 f0 f1 f2 f3
        have hE := (hIs.2.1.below (hBn.mono (by omega) : Below n₀ wo W2)).below (B3.mono (by omega))
        have hz3 := B3.size
        have h14 := refIsExpr_any n₀ e W3 (by omega) hE
        have h60 := empty_any n₀ e W3 hE
        obtain ⟨eo, heo⟩ : ∃ eo, e.ok = eo := ⟨_, rfl⟩
        obtain ⟨ez, hez⟩ : ∃ ez, e.none = ez := ⟨_, rfl⟩
        rw [heo] at HP h14
        rw [hez] at HP h60
        clear heo hez hE
        rw [hee] at HP HO h14 h60 HX HY
        simp only [Ex.val, Ex.cells] at h14 h60
        obtain ⟨-, ⟨g0, g1, g2, g3, g4, g5⟩, b10, -⟩ := (hBx.keep B3).cells
        obtain ⟨-, -, -, f3⟩ := four_cells (four_keep hFx B3)
        have HX := HX.out
        cases T
        · cases fe
          · cases ez
            · go_wp2_with (go_at_call 71; refine h60.mono ?_; rintro r w4 ⟨rfl, bb4⟩)
              go_ret
              exact ⟨ret_bool (HX (by rw [HO.out, HP.out]; rfl)).symm, hB2.tr le_rfl' (B3.tr le_rfl' bb4)⟩
            · go_wp2_with (go_at_call 71; refine h60.mono ?_; rintro r w4 ⟨rfl, bb4⟩)
              have BE := B3.tr le_rfl' bb4
              go_loopw [9] (fun i wr => ∃ m : Nat, m ≤ blocks.length ∧ i = .int .i64 m ∧ Hid ((blocks.take m).all Bl.ok = true) ∧ Below W2.heap.size W2 wr)
                (fun i _ => blocks.length - (intOf i).toNat)
              case atStart => exact ⟨0, by omega, rfl, rfl, BE⟩
              case round =>
                obtain ⟨m, hm, rfl, HM, hbm⟩ := hrel
                obtain ⟨-, -, b10, -⟩ := (hBx.keep hbm).cells
                have hzm := hbm.size
                by_cases hlt2 : m < blocks.length
                · rcases hIs.2.2.1.2.2 with h | ⟨b3, off3, rfl, hbn3, hrow3⟩
                  · subst h; simp at hlt2
                  have hB3 : Below n₀ wo wr := (hBn.mono (by omega)).trans (hbm.mono (by omega))
                  have hr3 := hrow3.below hB3 hbn3
                  have hb3l : b3 < wr.heap.size := by omega
                  have hq := hih blocks[m] (by exact List.getElem_mem hlt2) wr (by omega) ((hIs.2.2.2 _ (List.getElem_mem hlt2)).below hB3)
                  have HS2 := hid (allL_snoc Bl.ok blocks m hlt2)
                  have HC2 := hid (fun h => allL_cut Bl.ok blocks m hlt2 h)
                  obtain ⟨okb, hokb⟩ : ∃ okb, blocks[m].ok = okb := ⟨_, rfl⟩
                  rw [hokb] at hq HS2
                  have HB2 := hid hokb
                  clear hokb
                  rcases he2 : blocks[m] with ⟨bad, bcap, bbody⟩
                  have d0 := row1 hr3 m hlt2 (by rw [he2]; rfl)
                  simp only [he2, Bl.slice] at hq d0
                  clear he2
                  cases okb
                  · go_wp2_with (go_at_call 42; refine hq.mono ?_; rintro r w5 ⟨rfl, bb5⟩)
                    go_ret
                    exact ⟨ret_bool (HX (by rw [HO.out, HC2.out HB2.out, Bool.and_false])).symm, hB2.tr le_rfl' (hbm.tr le_rfl' bb5)⟩
                  · go_wp2_with (go_at_call 42; refine hq.mono ?_; rintro r w5 ⟨rfl, bb5⟩)
                    go_roundw
                    case rel => exact ⟨m + 1, by omega, by go_num, by show _ = _; rw [HS2.out, HM.out]; rfl, hbm.tr le_rfl' bb5⟩
                    case measure => simp [intOf]; omega
                · have hmb : m = blocks.length := by omega
                  have hmd : decide ((m : Int) < (blocks.length : Int)) = false := by simp; omega
                  go_wp2
                  go_roundw
                  case rel =>
                    refine ⟨j + 1, by omega, by go_num, HY.out ?_, hB2.tr le_rfl' hbm⟩
                    have h1 := HM.out
                    rw [hmb, List.take_length] at h1
                    rw [HO.out, h1, Bool.and_true, HP.out]
                    rfl
                  case measure => simp [intOf]; omega
          · cases eo
            · go_wp2_with (go_at_call 70; refine h14.mono ?_; rintro r w4 ⟨rfl, bb4⟩)
              go_ret
              exact ⟨ret_bool (HX (by rw [HO.out, HP.out]; rfl)).symm, hB2.tr le_rfl' (B3.tr le_rfl' bb4)⟩
            · go_wp2_with (go_at_call 70; refine h14.mono ?_; rintro r w4 ⟨rfl, bb4⟩; have BE := B3.tr le_rfl' bb4; obtain ⟨-, -, -, f3⟩ := four_cells (four_keep hFx BE))
              go_loopw [9] (fun i wr => ∃ m : Nat, m ≤ blocks.length ∧ i = .int .i64 m ∧ Hid ((blocks.take m).all Bl.ok = true) ∧ Below W2.heap.size W2 wr)
                (fun i _ => blocks.length - (intOf i).toNat)
              case atStart => exact ⟨0, by omega, rfl, rfl, BE⟩
              case round =>
                obtain ⟨m, hm, rfl, HM, hbm⟩ := hrel
                obtain ⟨-, -, b10, -⟩ := (hBx.keep hbm).cells
                have hzm := hbm.size
                by_cases hlt2 : m < blocks.length
                · rcases hIs.2.2.1.2.2 with h | ⟨b3, off3, rfl, hbn3, hrow3⟩
                  · subst h; simp at hlt2
                  have hB3 : Below n₀ wo wr := (hBn.mono (by omega)).trans (hbm.mono (by omega))
                  have hr3 := hrow3.below hB3 hbn3
                  have hb3l : b3 < wr.heap.size := by omega
                  have hq := hih blocks[m] (by exact List.getElem_mem hlt2) wr (by omega) ((hIs.2.2.2 _ (List.getElem_mem hlt2)).below hB3)
                  have HS2 := hid (allL_snoc Bl.ok blocks m hlt2)
                  have HC2 := hid (fun h => allL_cut Bl.ok blocks m hlt2 h)
                  obtain ⟨okb, hokb⟩ : ∃ okb, blocks[m].ok = okb := ⟨_, rfl⟩
                  rw [hokb] at hq HS2
                  have HB2 := hid hokb
                  clear hokb
                  rcases he2 : blocks[m] with ⟨bad, bcap, bbody⟩
                  have d0 := row1 hr3 m hlt2 (by rw [he2]; rfl)
                  simp only [he2, Bl.slice] at hq d0
                  clear he2
                  cases okb
                  · go_wp2_with (go_at_call 42; refine hq.mono ?_; rintro r w5 ⟨rfl, bb5⟩)
                    go_ret
                    exact ⟨ret_bool (HX (by rw [HO.out, HC2.out HB2.out, Bool.and_false])).symm, hB2.tr le_rfl' (hbm.tr le_rfl' bb5)⟩
                  · go_wp2_with (go_at_call 42; refine hq.mono ?_; rintro r w5 ⟨rfl, bb5⟩)
                    go_roundw
                    case rel => exact ⟨m + 1, by omega, by go_num, by show _ = _; rw [HS2.out, HM.out]; rfl, hbm.tr le_rfl' bb5⟩
                    case measure => simp [intOf]; omega
                · have hmb : m = blocks.length := by omega
                  have hmd : decide ((m : Int) < (blocks.length : Int)) = false := by simp; omega
                  go_wp2
                  go_roundw
                  case rel =>
                    refine ⟨j + 1, by omega, by go_num, HY.out ?_, hB2.tr le_rfl' hbm⟩
                    have h1 := HM.out
                    rw [hmb, List.take_length] at h1
                    rw [HO.out, h1, Bool.and_true, HP.out]
                    rfl
                  case measure => simp [intOf]; omega
        · go_wp2
          go_ret
          exact ⟨ret_bool (HX (by rw [HO.out, HP.out]; rfl)).symm, hB2.tr le_rfl' B3⟩
      · have HN := hid (stok_no kind mon name n e ad' cap' blocks pos hkr)
        have HO := hid (St.sok_mk kind mon name n e ad' cap' blocks pos)
        have hform := fun W => form_no kind W hkr
        go_upto_region 6 with (go_at_call 69; refine (hform _).mono ?_; rintro r w' ⟨rfl, hw'⟩; subst hw')
        refine reg6n _ _ _ _ _ _ _ _ _ _ _ _ _ _ _ _ _ _ _ _ _ _ _ _ _ _ _ _ _ _ _ _ _ _ _ _ _ _ _ _ _ _ _ _ _ _ _ _ _ _ _ _ _ _ _ _ _ _ _ _ _ _ _ _ _ _ _ _ _ _ _ _ _ _ _ _ _ _ _ _ _ _ _ _ _ _ _ _ _ _ _ _ _ _ _ _ _ _ _ _ _ _ _ _ _ _ _ _ _ _ _ _ _ _ _ _ _ _ _ _ _ _ _ _ _ _ _ _ _ _ _ _ _ _ _ (fun _ _ d _ _ h => by cases d <;> exact h) ?_
        intro v28 v29 v30 v31 v32 v33 v34 v35 v36 v37 v38 v39 v40 v41 v42 v43 v44 v45 v46 v47 v48 v49 v50 v51 v52 v53 v54 v55 v56 v57 v58 v59 v60 v61 v62 v63 v64 v65 v66 v67 v68 v69 v70 v71 v72 v73 v74 v75 v76 v77 v78 v79 v80 v81 v82 v83 v84 v85 v86 v87 v88 v89 v90 v91 v92 v93 v94 v95 v96 v97 v98
        go_wp2
        go_ret
        exact ⟨ret_bool (HX.out (by rw [HO.out, HN.out]; rfl)).symm, below_drew' (hbw.al le_rfl' _)⟩
    · have hjd : decide ((j : Int) < (body.length : Int)) = false := by simp; omega
      go_wp2
      go_ret
      refine ⟨ret_bool ?_, hbw⟩
      have h1 := HA.out
      rw [List.take_of_length_le (by omega)] at h1
      rw [HR.out, h1]
theorem refIsStmts_any (n₀ : Nat) (b : Bl) : ∀ w : World, n₀ ≤ w.heap.size → b.Is n₀ w → Calls Tryz.prog 42 #[b.slice] w fun r w' => r = .returned (.bool b.ok) ∧ Below w.heap.size w w' :=
  Bl.ind (P := fun s => ∀ b ∈ s.blocks, ∀ w : World, n₀ ≤ w.heap.size → b.Is n₀ w → Calls Tryz.prog 42 #[b.slice] w fun r w' => r = .returned (.bool b.ok) ∧ Below w.heap.size w w')
    (Q := fun b => ∀ w : World, n₀ ≤ w.heap.size → b.Is n₀ w → Calls Tryz.prog 42 #[b.slice] w fun r w' => r = .returned (.bool b.ok) ∧ Below w.heap.size w w')
    (fun _ _ _ _ _ _ _ _ _ ih b hb => ih b hb) (fun ad cap body ih w h1 h2 => isStmts_step n₀ ad cap body ih w h1 h2) b
end Go.Proofs.YtnljhlmopjgogaaGreatDoor
namespace Go.Proofs.YtnljhlmopjgogaaGreatDoor
open Go.RowKit
def Me.okd (x : Me) : Bool := Lx.name x.name && x.body.ok
def Mo.okd (m : Mo) : Bool := Lx.name m.name && decide (m.vars.length ≤ 16) && decide (m.meths.length ≤ 16) && m.vars.all Va.ok && m.meths.all Me.okd
def Ro.okd (r : Ro) : Bool := Lx.name r.name && !decide (r.count < 0) && !(r.star && (r.count != 0)) && r.body.ok
theorem all_and {α : Type} (f g : α → Bool) (l : List α) : (l.all f && l.all g) = l.all fun x => f x && g x := by
  induction l with
  | nil => rfl
  | cons a r ih => simp only [List.all_cons, ← ih]; cases f a <;> cases g a <;> simp
theorem pr_ok (p : Pr) : p.ok = (decide (p.mons.length ≤ 8) && decide (p.roles.length ≤ 8) && p.mons.all Mo.okd && p.roles.all Ro.okd) := by
  have h1 : ∀ m : Mo, (m.ok && (m.meths.flatMap fun x => x.body.subs).all St.ok1) = m.okd := fun m => by
    have h : (m.meths.all (fun x => Lx.name x.name) && (m.meths.flatMap fun x => x.body.subs).all St.ok1) = m.meths.all Me.okd := by
      rw [List.all_flatMap, all_and]; rfl
    rw [Mo.ok, Mo.okd, ← h]
    simp only [Bool.and_assoc]
  have h2 : ∀ r : Ro, (r.ok && r.body.subs.all St.ok1) = r.okd := fun r => by
    rw [Ro.ok, Ro.okd, fitsNum_doc, Bool.not_not]
    simp only [Bool.and_assoc]
    rfl
  have e1 : (p.mons.all Mo.ok && p.mons.all fun m => (m.meths.flatMap fun x => x.body.subs).all St.ok1) = p.mons.all Mo.okd := by
    rw [all_and]; congr 1; funext m; exact h1 m
  have e2 : (p.roles.all Ro.ok && p.roles.all fun r => r.body.subs.all St.ok1) = p.roles.all Ro.okd := by
    rw [all_and]; congr 1; funext r; exact h2 r
  rw [Pr.ok, Pr.decl, Pr.stmts, List.all_append, List.all_flatMap, List.all_flatMap, ← e1, ← e2]
  simp only [Bool.and_assoc, Bool.and_left_comm]
theorem four4 {W : World} {b : Nat} {c0 c1 c2 c3 : Value} {t : TypeId} {z : Nat × Nat} (h : W.heap[b]? = some (.cells #[c0, c1, c2, c3] t z)) : W.cell? ⟨b, 0, none⟩ = some c0 ∧ W.cell? ⟨b, 1, none⟩ = some c1 ∧ W.cell? ⟨b, 2, none⟩ = some c2 ∧ W.cell? ⟨b, 3, none⟩ = some c3 :=
  ⟨cell_of' h 0, cell_of' h 1, cell_of' h 2, cell_of' h 3⟩
theorem five5 {W : World} {b : Nat} {c0 c1 c2 c3 c4 : Value} {t : TypeId} {z : Nat × Nat} (h : W.heap[b]? = some (.cells #[c0, c1, c2, c3, c4] t z)) : W.cell? ⟨b, 0, none⟩ = some c0 ∧ W.cell? ⟨b, 1, none⟩ = some c1 ∧ W.cell? ⟨b, 2, none⟩ = some c2 ∧ W.cell? ⟨b, 3, none⟩ = some c3 ∧ W.cell? ⟨b, 4, none⟩ = some c4 :=
  ⟨cell_of' h 0, cell_of' h 1, cell_of' h 2, cell_of' h 3, cell_of' h 4⟩
set_option maxRecDepth 100000 in
set_option maxHeartbeats 16000000 in
theorem refIs_any (n₀ : Nat) (p : Pr) (w : World) (hn : n₀ ≤ w.heap.size) (hp : p.Is n₀ w) :
    Calls Tryz.prog 20 #[p.val] w fun r w' => r = .returned (.bool p.ok) ∧ Below w.heap.size w w' := by
  have HR0 := hid (pr_ok p)
  obtain ⟨res, hres⟩ : ∃ res, p.ok = res := ⟨_, rfl⟩
  rw [hres] at HR0 ⊢
  clear hres
  rcases p with ⟨mad, mcap, mons, rad, rcap, roles⟩
  obtain ⟨⟨hM1, hM2⟩, hR1, hR2⟩ := hp
  simp only at hM1 hM2 hR1 hR2
  have HR : Hid (res = (decide (mons.length ≤ 8) && decide (roles.length ≤ 8) && mons.all Mo.okd && roles.all Ro.okd)) := HR0
  clear HR0
  have hl1 := hM1.1; have hl2 := hM1.2.1; have hl3 := hR1.1; have hl4 := hR1.2.1
  unfold maxLen at hl2 hl4
  simp only [Pr.val]
  by_cases x1 : 8 < mons.length
  · have x1' : (8 : Int) < (mons.length : Int) := by omega
    have HF : Hid (res = false) := by
      show _ = _
      rw [HR.out, decide_eq_false (by omega), Bool.false_and, Bool.false_and, Bool.false_and]
    go_enter Tryz.func20, Tryz.ntmps20
    go_wp2
    go_ret
    exact ⟨ret_bool HF.out.symm, (Below.refl _ _).al le_rfl' _⟩
  by_cases x2 : 8 < roles.length
  · have x1' : decide ((8 : Int) < (mons.length : Int)) = false := by simp; omega
    have x2' : (8 : Int) < (roles.length : Int) := by omega
    have HF : Hid (res = false) := by
      show _ = _
      rw [HR.out, decide_eq_false (show ¬ roles.length ≤ 8 by omega), Bool.and_false, Bool.false_and, Bool.false_and]
    go_enter Tryz.func20, Tryz.ntmps20
    go_wp2
    go_ret
    exact ⟨ret_bool HF.out.symm, (Below.refl _ _).al le_rfl' _⟩
  have x1' : decide ((8 : Int) < (mons.length : Int)) = false := by simp; omega
  have x2' : decide ((8 : Int) < (roles.length : Int)) = false := by simp; omega
  have HR : Hid (res = (mons.all Mo.okd && roles.all Ro.okd)) := by
    show _ = _
    rw [HR.out, decide_eq_true (by omega), decide_eq_true (by omega), Bool.true_and, Bool.true_and]
  go_enter Tryz.func20, Tryz.ntmps20
  go_wp2
  go_loopw [3] (fun i wr => ∃ j : Nat, j ≤ mons.length ∧ i = .int .i64 j ∧ Hid ((mons.take j).all Mo.okd = true) ∧ Below (w.heap.size + 1) (w.alloc (.cells #[.slice mad mons.length mcap, .slice rad roles.length rcap] 25)) wr)
    (fun i _ => mons.length - (intOf i).toNat)
  case atStart => exact ⟨0, by omega, rfl, rfl, Below.refl _ _⟩
  case round =>
    obtain ⟨wo, hwo⟩ : ∃ wo : World, wo = wr := ⟨_, rfl⟩
    subst hwo
    obtain ⟨j, hj, rfl, HA, hbw⟩ := hrel
    have hz := hbw.size
    simp at hz
    have hbF : Below w.heap.size w wo := ((Below.refl _ w).al le_rfl' _).trans (hbw.mono (by omega))
    have hb0 : Below n₀ w wo := hbF.mono hn
    have p0 : wo.cell? ⟨w.heap.size, 0, none⟩ = some (.slice mad mons.length mcap) := (hbw.cell (p := ⟨w.heap.size, 0, none⟩) (by simp)).trans (cell_of' (World.alloc_heap_new w _) 0)
    have p1 : wo.cell? ⟨w.heap.size, 1, none⟩ = some (.slice rad roles.length rcap) := (hbw.cell (p := ⟨w.heap.size, 1, none⟩) (by simp)).trans (cell_of' (World.alloc_heap_new w _) 1)
    have lw : w.heap.size < wo.heap.size := by omega
    by_cases hlt : j < mons.length
    · rcases hM1.2.2 with h | ⟨b, off, rfl, hbn, hrow⟩
      · subst h; simp at hlt
      have hbn2 : b < wo.heap.size := by omega
      have hr := hrow.below hb0 hbn
      have hIj := (hM2 _ (List.getElem_mem hlt)).below hb0
      have HX : Hid (mons[j].okd = false → res = false) := fun h => by
        rw [HR.out, allL_cut Mo.okd mons j hlt h, Bool.false_and]
      have HY : Hid (mons[j].okd = true → (mons.take (j + 1)).all Mo.okd = true) := fun h => by
        rw [allL_snoc Mo.okd mons j hlt, HA.out, h]; rfl
      rcases he : mons[j] with ⟨mname, vad, vcap, vars, xad, xcap, meths, mpos⟩
      obtain ⟨c0, c1, c2, c3⟩ := row4 hr j hlt (by rw [he]; rfl)
      rw [he] at hIj HX HY
      clear he
      have HO : Hid (Mo.okd ⟨mname, vad, vcap, vars, xad, xcap, meths, mpos⟩ = (Lx.name mname && decide (vars.length ≤ 16) && decide (meths.length ≤ 16) && vars.all Va.ok && meths.all Me.okd)) := rfl
      obtain ⟨⟨hI1, hI2⟩, ⟨hI3, hI4⟩, hI5, hI6⟩ := hIj
      simp only at hI1 hI2 hI3 hI4 hI5 hI6
      have hv1 := hI3.1; have hv2 := hI3.2.1; have hm1 := hI5.1; have hm2 := hI5.2.1
      unfold maxLen at hv2 hm2
      unfold Len at hI1
      have hMB : (wo.alloc (.cells #[.string mname, .slice vad vars.length vcap, .slice xad meths.length xcap, .int .i64 mpos] 39)).heap[wo.heap.size]? = some (.cells #[.string mname, .slice vad vars.length vcap, .slice xad meths.length xcap, .int .i64 mpos] 39 (0, 0)) := World.alloc_heap_new wo _
      have hC := refName_any mname (wo.alloc (.cells #[.string mname, .slice vad vars.length vcap, .slice xad meths.length xcap, .int .i64 mpos] 39)) hI1
      cases hnm : Lx.name mname
      · rw [hnm] at hC
        go_wp2_with (go_at_call 40; refine hC.mono ?_; rintro r w1 ⟨rfl, bb1⟩)
        go_ret
        exact ⟨ret_bool (HX.out (by rw [HO.out, hnm]; rfl)).symm, (hbF.al le_rfl' _).tr le_rfl' bb1⟩
      rw [hnm] at hC
      by_cases y1 : 16 < vars.length
      · have y1' : (16 : Int) < (vars.length : Int) := by omega
        go_wp2_with (go_at_call 40; refine hC.mono ?_; rintro r w1 ⟨rfl, bb1⟩; obtain ⟨a0, a1, a2, a3⟩ := four4 ((bb1.block wo.heap.size (by simp)).trans hMB))
        go_ret
        exact ⟨ret_bool (HX.out (by rw [HO.out, hnm, decide_eq_false (by omega)]; rfl)).symm, (hbF.al le_rfl' _).tr le_rfl' bb1⟩
      have y1' : decide ((16 : Int) < (vars.length : Int)) = false := by simp; omega
      by_cases y2 : 16 < meths.length
      · have y2' : (16 : Int) < (meths.length : Int) := by omega
        go_wp2_with (go_at_call 40; refine hC.mono ?_; rintro r w1 ⟨rfl, bb1⟩; obtain ⟨a0, a1, a2, a3⟩ := four4 ((bb1.block wo.heap.size (by simp)).trans hMB))
        go_ret
        exact ⟨ret_bool (HX.out (by rw [HO.out, hnm, decide_eq_false (show ¬ meths.length ≤ 16 by omega)]; simp)).symm, (hbF.al le_rfl' _).tr le_rfl' bb1⟩
      have y2' : decide ((16 : Int) < (meths.length : Int)) = false := by simp; omega
      have HO : Hid (Mo.okd ⟨mname, vad, vcap, vars, xad, xcap, meths, mpos⟩ = (vars.all Va.ok && meths.all Me.okd)) := by
        show _ = _
        rw [HO.out, hnm, decide_eq_true (by omega), decide_eq_true (by omega)]; rfl
      go_wp2_with (go_at_call 40; refine hC.mono ?_; rintro r w1 ⟨rfl, bb1⟩; obtain ⟨a0, a1, a2, a3⟩ := four4 ((bb1.block wo.heap.size (by simp)).trans hMB))
      clear c0 c1 c2 c3 a0 a1 a2 a3 hC
      go_loopw [5] (fun i wr => ∃ k : Nat, k ≤ vars.length ∧ i = .int .i64 k ∧ Hid ((vars.take k).all Va.ok = true) ∧ Below (wo.heap.size + 1) (wo.alloc (.cells #[.string mname, .slice vad vars.length vcap, .slice xad meths.length xcap, .int .i64 mpos] 39)) wr)
        (fun i _ => vars.length - (intOf i).toNat)
      case atStart => exact ⟨0, by omega, rfl, rfl, bb1.mono (by simp)⟩
      case round =>
        obtain ⟨wv, hwv⟩ : ∃ wv : World, wv = wr := ⟨_, rfl⟩
        subst hwv
        obtain ⟨k, hk, rfl, HV, hbv⟩ := hrel
        have hzv := hbv.size
        simp at hzv
        have hbG : Below wo.heap.size wo wv := ((Below.refl _ wo).al le_rfl' _).trans (hbv.mono (by omega))
        have lv : wo.heap.size < wv.heap.size := by omega
        have hMv := (hbv.block wo.heap.size (by omega)).trans hMB
        obtain ⟨m0, m1, m2, m3⟩ := four4 hMv
        by_cases hltv : k < vars.length
        · rcases hI3.2.2 with h | ⟨b2, off2, rfl, hbn3, hrow2⟩
          · subst h; simp at hltv
          have hb2 : b2 < wv.heap.size := by omega
          have hr2 := hrow2.below (hbG.mono (by omega)) hbn3
          have HVS := hid (allL_snoc Va.ok vars k hltv)
          have HVC := hid (fun h => allL_cut Va.ok vars k hltv h)
          have hq := refIsVar_any vars[k] wv (hI4 _ (List.getElem_mem hltv))
          obtain ⟨vo, hvo⟩ : ∃ vo, vars[k].ok = vo := ⟨_, rfl⟩
          rw [hvo] at hq HVS
          have HVO := hid hvo
          clear hvo
          rcases he : vars[k] with ⟨vn, vt, vlo, vhi, vi, vp⟩
          obtain ⟨d0, d1, d2, d3, d4, d5⟩ := row6 hr2 k hltv (by rw [he]; rfl)
          simp only [he, Va.val, Va.cells] at hq
          clear he
          cases vo
          · go_wp2_with (go_at_call 41; refine hq.mono ?_; rintro r w2 ⟨rfl, bb2⟩)
            go_ret
            exact ⟨ret_bool (HX.out (by rw [HO.out, HVC.out HVO.out, Bool.false_and])).symm, hbF.tr le_rfl' (hbG.tr le_rfl' bb2)⟩
          · go_wp2_with (go_at_call 41; refine hq.mono ?_; rintro r w2 ⟨rfl, bb2⟩)
            go_roundw
            case rel => exact ⟨k + 1, by omega, by go_num, by show _ = _; rw [HVS.out, HV.out]; rfl, hbv.tr (by simp) bb2⟩
            case measure => simp [intOf]; omega
        · have hkd : decide ((k : Int) < (vars.length : Int)) = false := by simp; omega
          have HO : Hid (Mo.okd ⟨mname, vad, vcap, vars, xad, xcap, meths, mpos⟩ = meths.all Me.okd) := by
            show _ = _
            have h1 := HV.out
            rw [List.take_of_length_le (by omega)] at h1
            rw [HO.out, h1, Bool.true_and]
          go_wp2
          go_loopw [6] (fun i wr => ∃ k2 : Nat, k2 ≤ meths.length ∧ i = .int .i64 k2 ∧ Hid ((meths.take k2).all Me.okd = true) ∧ Below wv.heap.size wv wr)
            (fun i _ => meths.length - (intOf i).toNat)
          case atStart => exact ⟨0, by omega, rfl, rfl, Below.refl _ _⟩
          case round =>
            obtain ⟨wm, hwm⟩ : ∃ wm : World, wm = wr := ⟨_, rfl⟩
            subst hwm
            obtain ⟨k2, hk2, rfl, HM, hbm⟩ := hrel
            have hzm := hbm.size
            have hMm := (hbm.block wo.heap.size lv).trans hMv
            obtain ⟨n0, n1, n2, n3⟩ := four4 hMm
            have lv2 : wo.heap.size < wm.heap.size := by omega
            have hbH := hbG.tr le_rfl' hbm
            by_cases hltm : k2 < meths.length
            · rcases hI5.2.2 with h | ⟨b2, off2, rfl, hbn3, hrow2⟩
              · subst h; simp at hltm
              have hb2 : b2 < wm.heap.size := by omega
              have hr2 := hrow2.below (hbH.mono (by omega)) hbn3
              have hMI := (hI6 _ (List.getElem_mem hltm)).below (hbH.mono (by omega : n₀ ≤ wo.heap.size))
              have HMS := hid (allL_snoc Me.okd meths k2 hltm)
              have HMC := hid (fun h => allL_cut Me.okd meths k2 hltm h)
              rcases he : meths[k2] with ⟨xn, xb, xp⟩
              rw [he] at HMS HMC hMI
              have HQ : Hid (Me.okd ⟨xn, xb, xp⟩ = (Lx.name xn && xb.ok)) := rfl
              have hq := fun W (hW : Below wm.heap.size wm W) => refIsStmts_any n₀ xb W (by have := hW.size; omega) (hMI.2.2.below (hW.mono (by omega)))
              have hL := hMI.1
              simp only at hL
              unfold Len at hL
              obtain ⟨d0, d1, d2⟩ := row3 hr2 k2 hltm (by rw [he]; rfl)
              clear he hMI
              have hrm := hr2
              obtain ⟨bo, hbo⟩ : ∃ bo, xb.ok = bo := ⟨_, rfl⟩
              rw [hbo] at HQ
              simp only [hbo] at hq
              clear hbo
              rcases xb with ⟨bad, bcap, bbody⟩
              simp only [Bl.slice] at hq d1
              have hC := refName_any xn wm hL
              cases hnx : Lx.name xn
              · rw [hnx] at hC
                go_wp2_with (go_at_call 40; refine hC.mono ?_; rintro r w2 ⟨rfl, bb2⟩)
                go_ret
                exact ⟨ret_bool (HX.out (by rw [HO.out, HMC.out (by rw [HQ.out, hnx]; rfl)])).symm, hbF.tr le_rfl' (hbH.tr le_rfl' bb2)⟩
              · rw [hnx] at hC
                cases bo
                · go_wp2_with (first | (go_at_call 40; refine hC.mono ?_; rintro r w2 ⟨rfl, bb2⟩; obtain ⟨s0, s1, s2, s3⟩ := four4 ((bb2.block wo.heap.size lv2).trans hMm); have e1 : w2.cell? ⟨b2, off2 + k2 * 3 + 1, none⟩ = some (.slice bad bbody.length bcap) := (bb2.cell (p := ⟨b2, off2 + k2 * 3 + 1, none⟩) hb2).trans d1; have hb3 : b2 < w2.heap.size := Nat.lt_of_lt_of_le hb2 bb2.size) | (go_at_call 42; refine (hq _ bb2).mono ?_; rintro r w3 ⟨rfl, bb3⟩))
                  go_ret
                  exact ⟨ret_bool (HX.out (by rw [HO.out, HMC.out (by rw [HQ.out, hnx]; rfl)])).symm, hbF.tr le_rfl' (hbH.tr le_rfl' (bb2.tr le_rfl' bb3))⟩
                · go_wp2_with (first | (go_at_call 40; refine hC.mono ?_; rintro r w2 ⟨rfl, bb2⟩; obtain ⟨s0, s1, s2, s3⟩ := four4 ((bb2.block wo.heap.size lv2).trans hMm); have e1 : w2.cell? ⟨b2, off2 + k2 * 3 + 1, none⟩ = some (.slice bad bbody.length bcap) := (bb2.cell (p := ⟨b2, off2 + k2 * 3 + 1, none⟩) hb2).trans d1; have hb3 : b2 < w2.heap.size := Nat.lt_of_lt_of_le hb2 bb2.size) | (go_at_call 42; refine (hq _ bb2).mono ?_; rintro r w3 ⟨rfl, bb3⟩))
                  go_roundw
                  case rel => exact ⟨k2 + 1, by omega, by go_num, by show _ = _; rw [HMS.out, HM.out, HQ.out, hnx]; rfl, hbm.tr le_rfl' (bb2.tr le_rfl' bb3)⟩
                  case measure => simp [intOf]; omega
            · have hkd2 : decide ((k2 : Int) < (meths.length : Int)) = false := by simp; omega
              go_wp2
              go_roundw
              case rel =>
                refine ⟨j + 1, by omega, by go_num, HY.out ?_, hbw.tr (by simp) hbH⟩
                have h1 := HM.out
                rw [List.take_of_length_le (by omega)] at h1
                rw [HO.out, h1]
              case measure => simp [intOf]; omega
    · have hjd : decide ((j : Int) < (mons.length : Int)) = false := by simp; omega
      have HR : Hid (res = roles.all Ro.okd) := by
        show _ = _
        have h1 := HA.out
        rw [List.take_of_length_le (by omega)] at h1
        rw [HR.out, h1, Bool.true_and]
      go_wp2
      go_loopw [7] (fun i wr => ∃ k2 : Nat, k2 ≤ roles.length ∧ i = .int .i64 k2 ∧ Hid ((roles.take k2).all Ro.okd = true) ∧ Below wo.heap.size wo wr)
        (fun i _ => roles.length - (intOf i).toNat)
      case atStart => exact ⟨0, by omega, rfl, rfl, Below.refl _ _⟩
      case round =>
        obtain ⟨wm, hwm⟩ : ∃ wm : World, wm = wr := ⟨_, rfl⟩
        subst hwm
        obtain ⟨k2, hk2, rfl, HM, hbm⟩ := hrel
        have hzm := hbm.size
        have p1' : wm.cell? ⟨w.heap.size, 1, none⟩ = some (.slice rad roles.length rcap) := (hbm.cell (p := ⟨w.heap.size, 1, none⟩) lw).trans p1
        have lw2 : w.heap.size < wm.heap.size := by omega
        have hbH := hbF.tr le_rfl' hbm
        by_cases hltm : k2 < roles.length
        · rcases hR1.2.2 with h | ⟨b2, off2, rfl, hbn3, hrow2⟩
          · subst h; simp at hltm
          have hb2 : b2 < wm.heap.size := by omega
          have hr2 := hrow2.below (hbH.mono hn) hbn3
          have hMI := (hR2 _ (List.getElem_mem hltm)).below (hbH.mono hn)
          have HMS := hid (allL_snoc Ro.okd roles k2 hltm)
          have HMC : Hid (roles[k2].okd = false → res = false) := fun h => by rw [HR.out]; exact allL_cut Ro.okd roles k2 hltm h
          rcases he : roles[k2] with ⟨xn, xs, xc, xb, xp⟩
          rw [he] at HMS HMC hMI
          have HQ : Hid (Ro.okd ⟨xn, xs, xc, xb, xp⟩ = (Lx.name xn && !decide (xc < 0) && !(xs && (xc != 0)) && xb.ok)) := rfl
          have hL := hMI.1
          have hbI := hMI.2.2.2
          simp only at hL hbI
          unfold Len at hL
          have hq := fun W (hW : Below (wm.heap.size + 1) (wm.alloc (.cells #[.string xn, .bool xs, .int .i64 xc, xb.slice, .int .i64 xp] 47)) W) => refIsStmts_any n₀ xb W (by have := hW.size; simp at this; omega) (hbI.below (((Below.refl n₀ wm).al (by omega) _).trans (hW.mono (by omega))))
          obtain ⟨d0, d1, d2, d3, d4⟩ := row5 hr2 k2 hltm (by rw [he]; rfl)
          clear he hMI hbI
          obtain ⟨bo, hbo⟩ : ∃ bo, xb.ok = bo := ⟨_, rfl⟩
          rw [hbo] at HQ
          simp only [hbo] at hq
          clear hbo
          rcases xb with ⟨bad, bcap, bbody⟩
          simp only [Bl.slice] at hq d3
          have hRB : (wm.alloc (.cells #[.string xn, .bool xs, .int .i64 xc, .slice bad bbody.length bcap, .int .i64 xp] 47)).heap[wm.heap.size]? = some (.cells #[.string xn, .bool xs, .int .i64 xc, .slice bad bbody.length bcap, .int .i64 xp] 47 (0, 0)) := World.alloc_heap_new wm _
          have hC := refName_any xn (wm.alloc (.cells #[.string xn, .bool xs, .int .i64 xc, .slice bad bbody.length bcap, .int .i64 xp] 47)) hL
          have hBR : Below w.heap.size w (wm.alloc (.cells #[.string xn, .bool xs, .int .i64 xc, .slice bad bbody.length bcap, .int .i64 xp] 47)) := hbH.al le_rfl' _
          have hBM := hbm.al le_rfl' (.cells #[.string xn, .bool xs, .int .i64 xc, .slice bad bbody.length bcap, .int .i64 xp] 47)
          cases hnx : Lx.name xn
          · rw [hnx] at hC
            go_wp2_with (go_at_call 40; refine hC.mono ?_; rintro r w2 ⟨rfl, bb2⟩)
            go_ret
            exact ⟨ret_bool (HMC.out (by rw [HQ.out, hnx]; rfl)).symm, hBR.tr le_rfl' bb2⟩
          rw [hnx] at hC
          by_cases z1 : xc < 0
          · go_wp2_with (go_at_call 40; refine hC.mono ?_; rintro r w2 ⟨rfl, bb2⟩; obtain ⟨s0, s1, s2, s3, s4⟩ := five5 ((bb2.block wm.heap.size (by simp)).trans hRB))
            go_ret
            exact ⟨ret_bool (HMC.out (by rw [HQ.out, hnx, decide_eq_true z1]; rfl)).symm, hBR.tr le_rfl' bb2⟩
          have z1' : decide (xc < 0) = false := by simpa using z1
          cases xs
          · cases bo
            · go_wp2_with (first | (go_at_call 40; refine hC.mono ?_; rintro r w2 ⟨rfl, bb2⟩; obtain ⟨s0, s1, s2, s3, s4⟩ := five5 ((bb2.block wm.heap.size (by simp)).trans hRB)) | (go_at_call 42; refine (hq _ (bb2.mono (by simp))).mono ?_; rintro r w3 ⟨rfl, bb3⟩))
              go_ret
              exact ⟨ret_bool (HMC.out (by rw [HQ.out, Bool.and_false])).symm, hBR.tr le_rfl' (bb2.tr le_rfl' bb3)⟩
            · go_wp2_with (first | (go_at_call 40; refine hC.mono ?_; rintro r w2 ⟨rfl, bb2⟩; obtain ⟨s0, s1, s2, s3, s4⟩ := five5 ((bb2.block wm.heap.size (by simp)).trans hRB)) | (go_at_call 42; refine (hq _ (bb2.mono (by simp))).mono ?_; rintro r w3 ⟨rfl, bb3⟩))
              go_roundw
              case rel => exact ⟨k2 + 1, by omega, by go_num, by show _ = _; rw [HMS.out, HM.out, HQ.out, hnx, z1']; rfl, hBM.tr le_rfl' (bb2.tr le_rfl' bb3)⟩
              case measure => simp [intOf]; omega
          · cases hne : (xc != 0)
            · cases bo
              · go_wp2_with (first | (go_at_call 40; refine hC.mono ?_; rintro r w2 ⟨rfl, bb2⟩; obtain ⟨s0, s1, s2, s3, s4⟩ := five5 ((bb2.block wm.heap.size (by simp)).trans hRB)) | (go_at_call 42; refine (hq _ (bb2.mono (by simp))).mono ?_; rintro r w3 ⟨rfl, bb3⟩))
                go_ret
                exact ⟨ret_bool (HMC.out (by rw [HQ.out, Bool.and_false])).symm, hBR.tr le_rfl' (bb2.tr le_rfl' bb3)⟩
              · go_wp2_with (first | (go_at_call 40; refine hC.mono ?_; rintro r w2 ⟨rfl, bb2⟩; obtain ⟨s0, s1, s2, s3, s4⟩ := five5 ((bb2.block wm.heap.size (by simp)).trans hRB)) | (go_at_call 42; refine (hq _ (bb2.mono (by simp))).mono ?_; rintro r w3 ⟨rfl, bb3⟩))
                go_roundw
                case rel => exact ⟨k2 + 1, by omega, by go_num, by show _ = _; rw [HMS.out, HM.out, HQ.out, hnx, z1', hne]; rfl, hBM.tr le_rfl' (bb2.tr le_rfl' bb3)⟩
                case measure => simp [intOf]; omega
            · go_wp2_with (go_at_call 40; refine hC.mono ?_; rintro r w2 ⟨rfl, bb2⟩; obtain ⟨s0, s1, s2, s3, s4⟩ := five5 ((bb2.block wm.heap.size (by simp)).trans hRB))
              go_ret
              exact ⟨ret_bool (HMC.out (by rw [HQ.out, hne]; simp)).symm, hBR.tr le_rfl' bb2⟩
        · have hkd2 : decide ((k2 : Int) < (roles.length : Int)) = false := by simp; omega
          go_wp2
          go_ret
          refine ⟨ret_bool ?_, hbH⟩
          have h1 := HM.out
          rw [List.take_of_length_le (by omega)] at h1
          rw [HR.out, h1]
end Go.Proofs.YtnljhlmopjgogaaGreatDoor
