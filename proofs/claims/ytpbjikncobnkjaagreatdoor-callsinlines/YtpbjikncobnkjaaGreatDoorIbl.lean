/-
  Own texts joined by program: R6B.
-/
import Derived.Test.YtpbjikncobnkjaaGreatDoorIbk
namespace Go.Proofs.YtpbjikncobnkjaaGreatDoor
open Go.RowKit
set_option maxRecDepth 100000 in
set_option maxHeartbeats 64000000 in
theorem reg6n {Q:Exit→Act→World→Prop} (t0 t1 t2 t3 t4 t5 t6 t7 t9 t10 t11 t12 t13 t14 t15 t16 t17 t18 t19 t20 t21 t22 t23 t24 t25 t26 t27 t28 t29 t30 t31 t32 t33 t34 t35 t36 t37 t38 t39 t40 t41 t42 t43 t44 t45 t46 t47 t48 t49 t50 t51 t52 t53 t54 t55 t56 t57 t58 t59 t60 t61 t62 t63 t64 t65 t66 t67 t68 t69 t70 t71 t72 t73 t74 t75 t76 t77 t78 t79 t80 t81 t82 t83 t84 t85 t86 t87 t88 t89 t90 t91 t92 t93 t94 t95 t96 t97 t98 t99 t100 t101 t102 t103 t104 t105 t106 t107 t108 t109 t110 t111 t112 t113 t114 t115 t116 t117 t118 t119 t120 t121 t122 t123 t124 t125 t126 t127 t128 t129 t130 t131 t132 t133 t134:Value) (W:World)
  (hQP:∀ c a d v w,Q (.panic c) (Act.put a d v) w→Q (.panic c) a w)
  (hQ:∀ u28 u29 u30 u31 u32 u33 u34 u35 u36 u37 u38 u39 u40 u41 u42 u43 u44 u45 u46 u47 u48 u49 u50 u51 u52 u53 u54 u55 u56 u57 u58 u59 u60 u61 u62 u63 u64 u65 u66 u67 u68 u69 u70 u71 u72 u73 u74 u75 u76 u77 u78 u79 u80 u81 u82 u83 u84 u85 u86 u87 u88 u89 u90 u91 u92 u93 u94 u95 u96 u97 u98,Q .normal { tmps:=#[t0,t1,t2,t3,t4,t5,t6,t7,.bool false,t9,t10,t11,t12,t13,t14,t15,t16,t17,t18,t19,t20,t21,t22,t23,t24,t25,t26,t27,u28,u29,u30,u31,u32,u33,u34,u35,u36,u37,u38,u39,u40,u41,u42,u43,u44,u45,u46,u47,u48,u49,u50,u51,u52,u53,u54,u55,u56,u57,u58,u59,u60,u61,u62,u63,u64,u65,u66,u67,u68,u69,u70,u71,u72,u73,u74,u75,u76,u77,u78,u79,u80,u81,u82,u83,u84,u85,u86,u87,u88,u89,u90,u91,u92,u93,u94,u95,u96,u97,u98,.bool true,t100,t101,t102,t103,t104,t105,t106,t107,t108,t109,t110,t111,t112,t113,t114,t115,t116,t117,t118,t119,t120,t121,t122,t123,t124,t125,t126,t127,t128,t129,t130,t131,t132,t133,t134],defers:=[] } W.drew) :
  (Code.region 6 r6Ops true).wp Tryz.prog Q { tmps:=#[t0,t1,t2,t3,t4,t5,t6,t7,.bool false,t9,t10,t11,t12,t13,t14,t15,t16,t17,t18,t19,t20,t21,t22,t23,t24,t25,t26,t27,t28,t29,t30,t31,t32,t33,t34,t35,t36,t37,t38,t39,t40,t41,t42,t43,t44,t45,t46,t47,t48,t49,t50,t51,t52,t53,t54,t55,t56,t57,t58,t59,t60,t61,t62,t63,t64,t65,t66,t67,t68,t69,t70,t71,t72,t73,t74,t75,t76,t77,t78,t79,t80,t81,t82,t83,t84,t85,t86,t87,t88,t89,t90,t91,t92,t93,t94,t95,t96,t97,t98,t99,t100,t101,t102,t103,t104,t105,t106,t107,t108,t109,t110,t111,t112,t113,t114,t115,t116,t117,t118,t119,t120,t121,t122,t123,t124,t125,t126,t127,t128,t129,t130,t131,t132,t133,t134],defers:=[] } W:=by
 dsimp only at hQ ⊢
 refine wp_region_held_drew (S:=fun _=>True) mixedQ trivial (fun hS=>?_)
 show wpAnyH Tryz.prog .any r6Ops Q _ 72 #[false,false,false,false,false,false,false,false,false,false,false,false,false,false,false,false,false,false,false,false,false,false,false,false,false,false,false,false,false,false,false,false,false,false,false,false,false,false,false,false,false,false,false,false,false,false,false,false,false,false,false,false,false,false,false,false,false,false,false,false,false,false,false,false,false,false,false,false,false,false,false,false] _ _
 refine wpAnyH_take (i:=0) (oi:=rq0) (v:=.bool false) rfl (by kernel_rfl) (by kernel_rfl) (by kernel_rfl) (fun c _ w h=>hQP c _ _ _ w h) (Or.inl ⟨by rfl,?_⟩) hS ?_
 ·rintro w -
  unfold rq0
  go_simp
 simp only[rq0d,Act.put,List.setIfInBounds_toArray,List.set_cons_zero,List.set_cons_succ]
 refine wpAnyH_take (i:=1) (oi:=rq1) (v:=.bool true) rfl (by kernel_rfl) (by kernel_rfl) (by kernel_rfl) (fun c _ w h=>hQP c _ _ _ w h) (Or.inl ⟨by rfl,?_⟩) hS ?_
 ·rintro w -
  unfold rq1
  go_simp
 simp only[rq1d,Act.put,List.setIfInBounds_toArray,List.set_cons_zero,List.set_cons_succ]
 refine wpAnyH_take (i:=2) (oi:=rq2) (v:=.bool true) rfl (by kernel_rfl) (by kernel_rfl) (by kernel_rfl) (fun c _ w h=>hQP c _ _ _ w h) (Or.inl ⟨by rfl,?_⟩) hS ?_
 ·rintro w -
  unfold rq2
  go_simp
 simp only[rq2d,Act.put,List.setIfInBounds_toArray,List.set_cons_zero,List.set_cons_succ]
 refine wpAnyH_take (i:=3) (oi:=rq3) (v:=undef) rfl (by kernel_rfl) (by kernel_rfl) (by kernel_rfl) (fun c _ w h=>hQP c _ _ _ w h) (Or.inr ⟨by rfl,rfl⟩) hS ?_
 simp only[rq3d,Act.put,List.setIfInBounds_toArray,List.set_cons_zero,List.set_cons_succ]
 refine wpAnyH_take (i:=4) (oi:=rq4) (v:=undef) rfl (by kernel_rfl) (by kernel_rfl) (by kernel_rfl) (fun c _ w h=>hQP c _ _ _ w h) (Or.inr ⟨by rfl,rfl⟩) hS ?_
 simp only[rq4d,Act.put,List.setIfInBounds_toArray,List.set_cons_zero,List.set_cons_succ]
 refine wpAnyH_take (i:=5) (oi:=rq5) (v:=undef) rfl (by kernel_rfl) (by kernel_rfl) (by kernel_rfl) (fun c _ w h=>hQP c _ _ _ w h) (Or.inr ⟨by rfl,rfl⟩) hS ?_
 simp only[rq5d,Act.put,List.setIfInBounds_toArray,List.set_cons_zero,List.set_cons_succ]
 refine wpAnyH_take (i:=6) (oi:=rq6) (v:=undef) rfl (by kernel_rfl) (by kernel_rfl) (by kernel_rfl) (fun c _ w h=>hQP c _ _ _ w h) (Or.inr ⟨by rfl,rfl⟩) hS ?_
 simp only[rq6d,Act.put,List.setIfInBounds_toArray,List.set_cons_zero,List.set_cons_succ]
 refine wpAnyH_take (i:=7) (oi:=rq7) (v:=undef) rfl (by kernel_rfl) (by kernel_rfl) (by kernel_rfl) (fun c _ w h=>hQP c _ _ _ w h) (Or.inr ⟨by rfl,rfl⟩) hS ?_
 simp only[rq7d,Act.put,List.setIfInBounds_toArray,List.set_cons_zero,List.set_cons_succ]
 refine wpAnyH_take (i:=8) (oi:=rq8) (v:=.bool true) rfl (by kernel_rfl) (by kernel_rfl) (by kernel_rfl) (fun c _ w h=>hQP c _ _ _ w h) (Or.inl ⟨by rfl,?_⟩) hS ?_
 ·rintro w -
  unfold rq8
  go_simp
 simp only[rq8d,Act.put,List.setIfInBounds_toArray,List.set_cons_zero,List.set_cons_succ]
 refine wpAnyH_take (i:=9) (oi:=rq9) (v:=.bool true) rfl (by kernel_rfl) (by kernel_rfl) (by kernel_rfl) (fun c _ w h=>hQP c _ _ _ w h) (Or.inl ⟨by rfl,?_⟩) hS ?_
 ·rintro w -
  unfold rq9
  go_simp
 simp only[rq9d,Act.put,List.setIfInBounds_toArray,List.set_cons_zero,List.set_cons_succ]
 refine wpAnyH_take (i:=10) (oi:=rq10) (v:=undef) rfl (by kernel_rfl) (by kernel_rfl) (by kernel_rfl) (fun c _ w h=>hQP c _ _ _ w h) (Or.inr ⟨by rfl,rfl⟩) hS ?_
 simp only[rq10d,Act.put,List.setIfInBounds_toArray,List.set_cons_zero,List.set_cons_succ]
 refine wpAnyH_take (i:=11) (oi:=rq11) (v:=undef) rfl (by kernel_rfl) (by kernel_rfl) (by kernel_rfl) (fun c _ w h=>hQP c _ _ _ w h) (Or.inr ⟨by rfl,rfl⟩) hS ?_
 simp only[rq11d,Act.put,List.setIfInBounds_toArray,List.set_cons_zero,List.set_cons_succ]
 refine wpAnyH_take (i:=12) (oi:=rq12) (v:=undef) rfl (by kernel_rfl) (by kernel_rfl) (by kernel_rfl) (fun c _ w h=>hQP c _ _ _ w h) (Or.inr ⟨by rfl,rfl⟩) hS ?_
 simp only[rq12d,Act.put,List.setIfInBounds_toArray,List.set_cons_zero,List.set_cons_succ]
 refine wpAnyH_take (i:=13) (oi:=rq13) (v:=undef) rfl (by kernel_rfl) (by kernel_rfl) (by kernel_rfl) (fun c _ w h=>hQP c _ _ _ w h) (Or.inr ⟨by rfl,rfl⟩) hS ?_
 simp only[rq13d,Act.put,List.setIfInBounds_toArray,List.set_cons_zero,List.set_cons_succ]
 refine wpAnyH_take (i:=14) (oi:=rq14) (v:=undef) rfl (by kernel_rfl) (by kernel_rfl) (by kernel_rfl) (fun c _ w h=>hQP c _ _ _ w h) (Or.inr ⟨by rfl,rfl⟩) hS ?_
 simp only[rq14d,Act.put,List.setIfInBounds_toArray,List.set_cons_zero,List.set_cons_succ]
 refine wpAnyH_take (i:=15) (oi:=rq15) (v:=.bool true) rfl (by kernel_rfl) (by kernel_rfl) (by kernel_rfl) (fun c _ w h=>hQP c _ _ _ w h) (Or.inl ⟨by rfl,?_⟩) hS ?_
 ·rintro w -
  unfold rq15
  go_simp
 simp only[rq15d,Act.put,List.setIfInBounds_toArray,List.set_cons_zero,List.set_cons_succ]
 refine wpAnyH_take (i:=16) (oi:=rq16) (v:=.bool true) rfl (by kernel_rfl) (by kernel_rfl) (by kernel_rfl) (fun c _ w h=>hQP c _ _ _ w h) (Or.inl ⟨by rfl,?_⟩) hS ?_
 ·rintro w -
  unfold rq16
  go_simp
 simp only[rq16d,Act.put,List.setIfInBounds_toArray,List.set_cons_zero,List.set_cons_succ]
 refine wpAnyH_take (i:=17) (oi:=rq17) (v:=undef) rfl (by kernel_rfl) (by kernel_rfl) (by kernel_rfl) (fun c _ w h=>hQP c _ _ _ w h) (Or.inr ⟨by rfl,rfl⟩) hS ?_
 simp only[rq17d,Act.put,List.setIfInBounds_toArray,List.set_cons_zero,List.set_cons_succ]
 refine wpAnyH_take (i:=18) (oi:=rq18) (v:=undef) rfl (by kernel_rfl) (by kernel_rfl) (by kernel_rfl) (fun c _ w h=>hQP c _ _ _ w h) (Or.inr ⟨by rfl,rfl⟩) hS ?_
 simp only[rq18d,Act.put,List.setIfInBounds_toArray,List.set_cons_zero,List.set_cons_succ]
 refine wpAnyH_take (i:=19) (oi:=rq19) (v:=undef) rfl (by kernel_rfl) (by kernel_rfl) (by kernel_rfl) (fun c _ w h=>hQP c _ _ _ w h) (Or.inr ⟨by rfl,rfl⟩) hS ?_
 simp only[rq19d,Act.put,List.setIfInBounds_toArray,List.set_cons_zero,List.set_cons_succ]
 refine wpAnyH_take (i:=20) (oi:=rq20) (v:=undef) rfl (by kernel_rfl) (by kernel_rfl) (by kernel_rfl) (fun c _ w h=>hQP c _ _ _ w h) (Or.inr ⟨by rfl,rfl⟩) hS ?_
 simp only[rq20d,Act.put,List.setIfInBounds_toArray,List.set_cons_zero,List.set_cons_succ]
 refine wpAnyH_take (i:=21) (oi:=rq21) (v:=undef) rfl (by kernel_rfl) (by kernel_rfl) (by kernel_rfl) (fun c _ w h=>hQP c _ _ _ w h) (Or.inr ⟨by rfl,rfl⟩) hS ?_
 simp only[rq21d,Act.put,List.setIfInBounds_toArray,List.set_cons_zero,List.set_cons_succ]
 refine wpAnyH_take (i:=22) (oi:=rq22) (v:=undef) rfl (by kernel_rfl) (by kernel_rfl) (by kernel_rfl) (fun c _ w h=>hQP c _ _ _ w h) (Or.inr ⟨by rfl,rfl⟩) hS ?_
 simp only[rq22d,Act.put,List.setIfInBounds_toArray,List.set_cons_zero,List.set_cons_succ]
 refine wpAnyH_take (i:=23) (oi:=rq23) (v:=undef) rfl (by kernel_rfl) (by kernel_rfl) (by kernel_rfl) (fun c _ w h=>hQP c _ _ _ w h) (Or.inr ⟨by rfl,rfl⟩) hS ?_
 simp only[rq23d,Act.put,List.setIfInBounds_toArray,List.set_cons_zero,List.set_cons_succ]
 refine wpAnyH_take (i:=24) (oi:=rq24) (v:=.bool true) rfl (by kernel_rfl) (by kernel_rfl) (by kernel_rfl) (fun c _ w h=>hQP c _ _ _ w h) (Or.inl ⟨by rfl,?_⟩) hS ?_
 ·rintro w -
  unfold rq24
  go_simp
 simp only[rq24d,Act.put,List.setIfInBounds_toArray,List.set_cons_zero,List.set_cons_succ]
 refine wpAnyH_take (i:=25) (oi:=rq25) (v:=.bool true) rfl (by kernel_rfl) (by kernel_rfl) (by kernel_rfl) (fun c _ w h=>hQP c _ _ _ w h) (Or.inl ⟨by rfl,?_⟩) hS ?_
 ·rintro w -
  unfold rq25
  go_simp
 simp only[rq25d,Act.put,List.setIfInBounds_toArray,List.set_cons_zero,List.set_cons_succ]
 refine wpAnyH_take (i:=26) (oi:=rq26) (v:=undef) rfl (by kernel_rfl) (by kernel_rfl) (by kernel_rfl) (fun c _ w h=>hQP c _ _ _ w h) (Or.inr ⟨by rfl,rfl⟩) hS ?_
 simp only[rq26d,Act.put,List.setIfInBounds_toArray,List.set_cons_zero,List.set_cons_succ]
 refine wpAnyH_take (i:=27) (oi:=rq27) (v:=undef) rfl (by kernel_rfl) (by kernel_rfl) (by kernel_rfl) (fun c _ w h=>hQP c _ _ _ w h) (Or.inr ⟨by rfl,rfl⟩) hS ?_
 simp only[rq27d,Act.put,List.setIfInBounds_toArray,List.set_cons_zero,List.set_cons_succ]
 refine wpAnyH_take (i:=28) (oi:=rq28) (v:=undef) rfl (by kernel_rfl) (by kernel_rfl) (by kernel_rfl) (fun c _ w h=>hQP c _ _ _ w h) (Or.inr ⟨by rfl,rfl⟩) hS ?_
 simp only[rq28d,Act.put,List.setIfInBounds_toArray,List.set_cons_zero,List.set_cons_succ]
 refine wpAnyH_take (i:=29) (oi:=rq29) (v:=undef) rfl (by kernel_rfl) (by kernel_rfl) (by kernel_rfl) (fun c _ w h=>hQP c _ _ _ w h) (Or.inr ⟨by rfl,rfl⟩) hS ?_
 simp only[rq29d,Act.put,List.setIfInBounds_toArray,List.set_cons_zero,List.set_cons_succ]
 refine wpAnyH_take (i:=30) (oi:=rq30) (v:=undef) rfl (by kernel_rfl) (by kernel_rfl) (by kernel_rfl) (fun c _ w h=>hQP c _ _ _ w h) (Or.inr ⟨by rfl,rfl⟩) hS ?_
 simp only[rq30d,Act.put,List.setIfInBounds_toArray,List.set_cons_zero,List.set_cons_succ]
 refine wpAnyH_take (i:=31) (oi:=rq31) (v:=undef) rfl (by kernel_rfl) (by kernel_rfl) (by kernel_rfl) (fun c _ w h=>hQP c _ _ _ w h) (Or.inr ⟨by rfl,rfl⟩) hS ?_
 simp only[rq31d,Act.put,List.setIfInBounds_toArray,List.set_cons_zero,List.set_cons_succ]
 refine wpAnyH_take (i:=32) (oi:=rq32) (v:=undef) rfl (by kernel_rfl) (by kernel_rfl) (by kernel_rfl) (fun c _ w h=>hQP c _ _ _ w h) (Or.inr ⟨by rfl,rfl⟩) hS ?_
 simp only[rq32d,Act.put,List.setIfInBounds_toArray,List.set_cons_zero,List.set_cons_succ]
 refine wpAnyH_take (i:=33) (oi:=rq33) (v:=.bool true) rfl (by kernel_rfl) (by kernel_rfl) (by kernel_rfl) (fun c _ w h=>hQP c _ _ _ w h) (Or.inl ⟨by rfl,?_⟩) hS ?_
 ·rintro w -
  unfold rq33
  go_simp
 simp only[rq33d,Act.put,List.setIfInBounds_toArray,List.set_cons_zero,List.set_cons_succ]
 refine wpAnyH_take (i:=34) (oi:=rq34) (v:=.bool true) rfl (by kernel_rfl) (by kernel_rfl) (by kernel_rfl) (fun c _ w h=>hQP c _ _ _ w h) (Or.inl ⟨by rfl,?_⟩) hS ?_
 ·rintro w -
  unfold rq34
  go_simp
 simp only[rq34d,Act.put,List.setIfInBounds_toArray,List.set_cons_zero,List.set_cons_succ]
 refine wpAnyH_take (i:=35) (oi:=rq35) (v:=undef) rfl (by kernel_rfl) (by kernel_rfl) (by kernel_rfl) (fun c _ w h=>hQP c _ _ _ w h) (Or.inr ⟨by rfl,rfl⟩) hS ?_
 simp only[rq35d,Act.put,List.setIfInBounds_toArray,List.set_cons_zero,List.set_cons_succ]
 refine wpAnyH_take (i:=36) (oi:=rq36) (v:=undef) rfl (by kernel_rfl) (by kernel_rfl) (by kernel_rfl) (fun c _ w h=>hQP c _ _ _ w h) (Or.inr ⟨by rfl,rfl⟩) hS ?_
 simp only[rq36d,Act.put,List.setIfInBounds_toArray,List.set_cons_zero,List.set_cons_succ]
 refine wpAnyH_take (i:=37) (oi:=rq37) (v:=undef) rfl (by kernel_rfl) (by kernel_rfl) (by kernel_rfl) (fun c _ w h=>hQP c _ _ _ w h) (Or.inr ⟨by rfl,rfl⟩) hS ?_
 simp only[rq37d,Act.put,List.setIfInBounds_toArray,List.set_cons_zero,List.set_cons_succ]
 refine wpAnyH_take (i:=38) (oi:=rq38) (v:=undef) rfl (by kernel_rfl) (by kernel_rfl) (by kernel_rfl) (fun c _ w h=>hQP c _ _ _ w h) (Or.inr ⟨by rfl,rfl⟩) hS ?_
 simp only[rq38d,Act.put,List.setIfInBounds_toArray,List.set_cons_zero,List.set_cons_succ]
 refine wpAnyH_take (i:=39) (oi:=rq39) (v:=undef) rfl (by kernel_rfl) (by kernel_rfl) (by kernel_rfl) (fun c _ w h=>hQP c _ _ _ w h) (Or.inr ⟨by rfl,rfl⟩) hS ?_
 simp only[rq39d,Act.put,List.setIfInBounds_toArray,List.set_cons_zero,List.set_cons_succ]
 refine wpAnyH_take (i:=40) (oi:=rq40) (v:=undef) rfl (by kernel_rfl) (by kernel_rfl) (by kernel_rfl) (fun c _ w h=>hQP c _ _ _ w h) (Or.inr ⟨by rfl,rfl⟩) hS ?_
 simp only[rq40d,Act.put,List.setIfInBounds_toArray,List.set_cons_zero,List.set_cons_succ]
 refine wpAnyH_take (i:=41) (oi:=rq41) (v:=undef) rfl (by kernel_rfl) (by kernel_rfl) (by kernel_rfl) (fun c _ w h=>hQP c _ _ _ w h) (Or.inr ⟨by rfl,rfl⟩) hS ?_
 simp only[rq41d,Act.put,List.setIfInBounds_toArray,List.set_cons_zero,List.set_cons_succ]
 refine wpAnyH_take (i:=42) (oi:=rq42) (v:=undef) rfl (by kernel_rfl) (by kernel_rfl) (by kernel_rfl) (fun c _ w h=>hQP c _ _ _ w h) (Or.inr ⟨by rfl,rfl⟩) hS ?_
 simp only[rq42d,Act.put,List.setIfInBounds_toArray,List.set_cons_zero,List.set_cons_succ]
 refine wpAnyH_take (i:=43) (oi:=rq43) (v:=undef) rfl (by kernel_rfl) (by kernel_rfl) (by kernel_rfl) (fun c _ w h=>hQP c _ _ _ w h) (Or.inr ⟨by rfl,rfl⟩) hS ?_
 simp only[rq43d,Act.put,List.setIfInBounds_toArray,List.set_cons_zero,List.set_cons_succ]
 refine wpAnyH_take (i:=44) (oi:=rq44) (v:=.bool true) rfl (by kernel_rfl) (by kernel_rfl) (by kernel_rfl) (fun c _ w h=>hQP c _ _ _ w h) (Or.inl ⟨by rfl,?_⟩) hS ?_
 ·rintro w -
  unfold rq44
  go_simp
 simp only[rq44d,Act.put,List.setIfInBounds_toArray,List.set_cons_zero,List.set_cons_succ]
 refine wpAnyH_take (i:=45) (oi:=rq45) (v:=.bool true) rfl (by kernel_rfl) (by kernel_rfl) (by kernel_rfl) (fun c _ w h=>hQP c _ _ _ w h) (Or.inl ⟨by rfl,?_⟩) hS ?_
 ·rintro w -
  unfold rq45
  go_simp
 simp only[rq45d,Act.put,List.setIfInBounds_toArray,List.set_cons_zero,List.set_cons_succ]
 refine wpAnyH_take (i:=46) (oi:=rq46) (v:=undef) rfl (by kernel_rfl) (by kernel_rfl) (by kernel_rfl) (fun c _ w h=>hQP c _ _ _ w h) (Or.inr ⟨by rfl,rfl⟩) hS ?_
 simp only[rq46d,Act.put,List.setIfInBounds_toArray,List.set_cons_zero,List.set_cons_succ]
 refine wpAnyH_take (i:=47) (oi:=rq47) (v:=undef) rfl (by kernel_rfl) (by kernel_rfl) (by kernel_rfl) (fun c _ w h=>hQP c _ _ _ w h) (Or.inr ⟨by rfl,rfl⟩) hS ?_
 simp only[rq47d,Act.put,List.setIfInBounds_toArray,List.set_cons_zero,List.set_cons_succ]
 refine wpAnyH_take (i:=48) (oi:=rq48) (v:=undef) rfl (by kernel_rfl) (by kernel_rfl) (by kernel_rfl) (fun c _ w h=>hQP c _ _ _ w h) (Or.inr ⟨by rfl,rfl⟩) hS ?_
 simp only[rq48d,Act.put,List.setIfInBounds_toArray,List.set_cons_zero,List.set_cons_succ]
 refine wpAnyH_take (i:=49) (oi:=rq49) (v:=undef) rfl (by kernel_rfl) (by kernel_rfl) (by kernel_rfl) (fun c _ w h=>hQP c _ _ _ w h) (Or.inr ⟨by rfl,rfl⟩) hS ?_
 simp only[rq49d,Act.put,List.setIfInBounds_toArray,List.set_cons_zero,List.set_cons_succ]
 refine wpAnyH_take (i:=50) (oi:=rq50) (v:=undef) rfl (by kernel_rfl) (by kernel_rfl) (by kernel_rfl) (fun c _ w h=>hQP c _ _ _ w h) (Or.inr ⟨by rfl,rfl⟩) hS ?_
 simp only[rq50d,Act.put,List.setIfInBounds_toArray,List.set_cons_zero,List.set_cons_succ]
 refine wpAnyH_take (i:=51) (oi:=rq51) (v:=undef) rfl (by kernel_rfl) (by kernel_rfl) (by kernel_rfl) (fun c _ w h=>hQP c _ _ _ w h) (Or.inr ⟨by rfl,rfl⟩) hS ?_
 simp only[rq51d,Act.put,List.setIfInBounds_toArray,List.set_cons_zero,List.set_cons_succ]
 refine wpAnyH_take (i:=52) (oi:=rq52) (v:=undef) rfl (by kernel_rfl) (by kernel_rfl) (by kernel_rfl) (fun c _ w h=>hQP c _ _ _ w h) (Or.inr ⟨by rfl,rfl⟩) hS ?_
 simp only[rq52d,Act.put,List.setIfInBounds_toArray,List.set_cons_zero,List.set_cons_succ]
 refine wpAnyH_take (i:=53) (oi:=rq53) (v:=undef) rfl (by kernel_rfl) (by kernel_rfl) (by kernel_rfl) (fun c _ w h=>hQP c _ _ _ w h) (Or.inr ⟨by rfl,rfl⟩) hS ?_
 simp only[rq53d,Act.put,List.setIfInBounds_toArray,List.set_cons_zero,List.set_cons_succ]
 refine wpAnyH_take (i:=54) (oi:=rq54) (v:=undef) rfl (by kernel_rfl) (by kernel_rfl) (by kernel_rfl) (fun c _ w h=>hQP c _ _ _ w h) (Or.inr ⟨by rfl,rfl⟩) hS ?_
 simp only[rq54d,Act.put,List.setIfInBounds_toArray,List.set_cons_zero,List.set_cons_succ]
 refine wpAnyH_take (i:=55) (oi:=rq55) (v:=.bool true) rfl (by kernel_rfl) (by kernel_rfl) (by kernel_rfl) (fun c _ w h=>hQP c _ _ _ w h) (Or.inl ⟨by rfl,?_⟩) hS ?_
 ·rintro w -
  unfold rq55
  go_simp
 simp only[rq55d,Act.put,List.setIfInBounds_toArray,List.set_cons_zero,List.set_cons_succ]
 refine wpAnyH_take (i:=56) (oi:=rq56) (v:=.bool true) rfl (by kernel_rfl) (by kernel_rfl) (by kernel_rfl) (fun c _ w h=>hQP c _ _ _ w h) (Or.inl ⟨by rfl,?_⟩) hS ?_
 ·rintro w -
  unfold rq56
  go_simp
 simp only[rq56d,Act.put,List.setIfInBounds_toArray,List.set_cons_zero,List.set_cons_succ]
 refine wpAnyH_take (i:=57) (oi:=rq57) (v:=undef) rfl (by kernel_rfl) (by kernel_rfl) (by kernel_rfl) (fun c _ w h=>hQP c _ _ _ w h) (Or.inr ⟨by rfl,rfl⟩) hS ?_
 simp only[rq57d,Act.put,List.setIfInBounds_toArray,List.set_cons_zero,List.set_cons_succ]
 refine wpAnyH_take (i:=58) (oi:=rq58) (v:=undef) rfl (by kernel_rfl) (by kernel_rfl) (by kernel_rfl) (fun c _ w h=>hQP c _ _ _ w h) (Or.inr ⟨by rfl,rfl⟩) hS ?_
 simp only[rq58d,Act.put,List.setIfInBounds_toArray,List.set_cons_zero,List.set_cons_succ]
 refine wpAnyH_take (i:=59) (oi:=rq59) (v:=undef) rfl (by kernel_rfl) (by kernel_rfl) (by kernel_rfl) (fun c _ w h=>hQP c _ _ _ w h) (Or.inr ⟨by rfl,rfl⟩) hS ?_
 simp only[rq59d,Act.put,List.setIfInBounds_toArray,List.set_cons_zero,List.set_cons_succ]
 refine wpAnyH_take (i:=60) (oi:=rq60) (v:=.bool true) rfl (by kernel_rfl) (by kernel_rfl) (by kernel_rfl) (fun c _ w h=>hQP c _ _ _ w h) (Or.inl ⟨by rfl,?_⟩) hS ?_
 ·rintro w -
  unfold rq60
  go_simp
 simp only[rq60d,Act.put,List.setIfInBounds_toArray,List.set_cons_zero,List.set_cons_succ]
 refine wpAnyH_take (i:=61) (oi:=rq61) (v:=.bool true) rfl (by kernel_rfl) (by kernel_rfl) (by kernel_rfl) (fun c _ w h=>hQP c _ _ _ w h) (Or.inl ⟨by rfl,?_⟩) hS ?_
 ·rintro w -
  unfold rq61
  go_simp
 simp only[rq61d,Act.put,List.setIfInBounds_toArray,List.set_cons_zero,List.set_cons_succ]
 refine wpAnyH_take (i:=62) (oi:=rq62) (v:=undef) rfl (by kernel_rfl) (by kernel_rfl) (by kernel_rfl) (fun c _ w h=>hQP c _ _ _ w h) (Or.inr ⟨by rfl,rfl⟩) hS ?_
 simp only[rq62d,Act.put,List.setIfInBounds_toArray,List.set_cons_zero,List.set_cons_succ]
 refine wpAnyH_take (i:=63) (oi:=rq63) (v:=undef) rfl (by kernel_rfl) (by kernel_rfl) (by kernel_rfl) (fun c _ w h=>hQP c _ _ _ w h) (Or.inr ⟨by rfl,rfl⟩) hS ?_
 simp only[rq63d,Act.put,List.setIfInBounds_toArray,List.set_cons_zero,List.set_cons_succ]
 refine wpAnyH_take (i:=64) (oi:=rq64) (v:=undef) rfl (by kernel_rfl) (by kernel_rfl) (by kernel_rfl) (fun c _ w h=>hQP c _ _ _ w h) (Or.inr ⟨by rfl,rfl⟩) hS ?_
 simp only[rq64d,Act.put,List.setIfInBounds_toArray,List.set_cons_zero,List.set_cons_succ]
 refine wpAnyH_take (i:=65) (oi:=rq65) (v:=undef) rfl (by kernel_rfl) (by kernel_rfl) (by kernel_rfl) (fun c _ w h=>hQP c _ _ _ w h) (Or.inr ⟨by rfl,rfl⟩) hS ?_
 simp only[rq65d,Act.put,List.setIfInBounds_toArray,List.set_cons_zero,List.set_cons_succ]
 refine wpAnyH_take (i:=66) (oi:=rq66) (v:=undef) rfl (by kernel_rfl) (by kernel_rfl) (by kernel_rfl) (fun c _ w h=>hQP c _ _ _ w h) (Or.inr ⟨by rfl,rfl⟩) hS ?_
 simp only[rq66d,Act.put,List.setIfInBounds_toArray,List.set_cons_zero,List.set_cons_succ]
 refine wpAnyH_take (i:=67) (oi:=rq67) (v:=undef) rfl (by kernel_rfl) (by kernel_rfl) (by kernel_rfl) (fun c _ w h=>hQP c _ _ _ w h) (Or.inr ⟨by rfl,rfl⟩) hS ?_
 simp only[rq67d,Act.put,List.setIfInBounds_toArray,List.set_cons_zero,List.set_cons_succ]
 refine wpAnyH_take (i:=68) (oi:=rq68) (v:=undef) rfl (by kernel_rfl) (by kernel_rfl) (by kernel_rfl) (fun c _ w h=>hQP c _ _ _ w h) (Or.inr ⟨by rfl,rfl⟩) hS ?_
 simp only[rq68d,Act.put,List.setIfInBounds_toArray,List.set_cons_zero,List.set_cons_succ]
 refine wpAnyH_take (i:=69) (oi:=rq69) (v:=undef) rfl (by kernel_rfl) (by kernel_rfl) (by kernel_rfl) (fun c _ w h=>hQP c _ _ _ w h) (Or.inr ⟨by rfl,rfl⟩) hS ?_
 simp only[rq69d,Act.put,List.setIfInBounds_toArray,List.set_cons_zero,List.set_cons_succ]
 refine wpAnyH_take (i:=70) (oi:=rq70) (v:=undef) rfl (by kernel_rfl) (by kernel_rfl) (by kernel_rfl) (fun c _ w h=>hQP c _ _ _ w h) (Or.inr ⟨by rfl,rfl⟩) hS ?_
 simp only[rq70d,Act.put,List.setIfInBounds_toArray,List.set_cons_zero,List.set_cons_succ]
 refine wpAnyH_take (i:=71) (oi:=rq71) (v:=.bool true) rfl (by kernel_rfl) (by kernel_rfl) (by kernel_rfl) (fun c _ w h=>hQP c _ _ _ w h) (Or.inl ⟨by rfl,?_⟩) hS ?_
 ·rintro w -
  unfold rq71
  go_simp
 simp only[rq71d,Act.put,List.setIfInBounds_toArray,List.set_cons_zero,List.set_cons_succ]
 exact wpAnyH_done (by kernel_rfl) (hQ _ _ _ _ _ _ _ _ _ _ _ _ _ _ _ _ _ _ _ _ _ _ _ _ _ _ _ _ _ _ _ _ _ _ _ _ _ _ _ _ _ _ _ _ _ _ _ _ _ _ _ _ _ _ _ _ _ _ _ _ _ _ _ _ _ _ _ _ _ _ _) _
end Go.Proofs.YtpbjikncobnkjaaGreatDoor
