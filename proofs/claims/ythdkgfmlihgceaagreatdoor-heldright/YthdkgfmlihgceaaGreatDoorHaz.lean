import Derived.Test.YthdkgfmlihgceaaGreatDoorHay
import Derived.Test.YthdkgfmlihgceaaGreatDoorRows
import Derived.ProofKit
import Derived.OpenShut
import Derived.LaidLaws
import Derived.Deep.Strs
import Derived.Lib.LaidTab
import Derived.Stop.LaidErr
namespace Go.Proofs.YthdkgfmlihgceaaGreatDoor
set_option maxRecDepth 100000
open Go.ChangeShapes Go.WideShapes Go.ChangeAt Go.RowKit
theorem qBo (k:Nat) (hk:k<18) (l:List (DataW Unit)) (h:(Rows.laid_vigil_tree_exprShapes:DataW Unit)=.agg l):l[k]?=some (.agg [.lit (.bool (qcg k)),.lit (.bool (qcv k)),.lit (.int .i64 ((qda k:Nat):Int))]):=by
 have h':=h
 unfold Rows.laid_vigil_tree_exprShapes at h'
 injection h' with h'
 subst h'
 have hc:k=0\/k=1\/k=2\/k=3\/k=4\/k=5\/k=6\/k=7\/k=8\/k=9\/k=10\/k=11\/k=12\/k=13\/k=14\/k=15\/k=16\/k=17:=by omega
 rcases hc with rfl|rfl|rfl|rfl|rfl|rfl|rfl|rfl|rfl|rfl|rfl|rfl|rfl|rfl|rfl|rfl|rfl|rfl <;> rfl
theorem qsl {W:World}{cs:Array Value}{fuel:Nat}{p:List MemPlace}(hv:W.var? Tryz.prog "vigil/tree.exprShapes"=some cs) (hd:DataW.trod (λ_=>()) Tryz.prog W 0 (λ_=>true) false fuel 232 cs.toList=some (Rows.laid_vigil_tree_exprShapes,p)) (k:Nat) (hk:k<18) :
  W.cell? ⟨5,k*3,none⟩=some (.bool (qcg k))/\W.cell? ⟨5,k*3+1,none⟩=some (.bool (qcv k))/\W.cell? ⟨5,k*3+2,none⟩=some (.int .i64 (qda k:Nat)):=by
 obtain⟨xs,m,rfl,hx,hlen,hxl,hE⟩:=DataW.trod_array Tryz.underlying232 hd
 have hx1:(Rows.laid_vigil_tree_exprShapes:DataW Unit)=.agg (xs.map (·.1)):=congrArg Prod.fst hx
 have hat:=qBo k hk _ hx1
 have hE:=hE k hk
 rw[show Tryz.prog.cellsOf 231=3 from by kernel_rfl] at hE
 obtain⟨y,hy⟩:∃y,xs[k]?=some y:=⟨xs[k],List.getElem?_eq_getElem (by omega)⟩
 rw[hy] at hE
 have hy1:y.1=.agg [.lit (.bool (qcg k)),.lit (.bool (qcv k)),.lit (.int .i64 ((qda k:Nat):Int))]:=by
  rw[List.getElem?_map,hy] at hat
  simpa using hat
 obtain⟨zs,m2,_,rfl,hl2,hzl,hf⟩:=DataW.trod_struct Tryz.underlying231 hE
 rw[show Tryz.prog.cellsOf 231=3 from by kernel_rfl] at hl2
 have hzl:zs.length=3:=hzl
 have hz1:zs.map (·.1)=[.lit (.bool (qcg k)),.lit (.bool (qcv k)),.lit (.int .i64 ((qda k:Nat):Int))]:=by simpa using hy1
 have gc:∀i,i<3->W.cell? ⟨5,k*3+i,none⟩=((cs.toList.drop (k*3)).take 3)[i]?:=by
  intro i hi
  rw[World.var?_cell (g:=5) (by kernel_rfl) hv,List.getElem?_take,if_pos hi,List.getElem?_drop,Array.getElem?_toList]
 generalize (cs.toList.drop (k*3)).take 3=seg at hl2 hf gc
 obtain⟨s0,s1,s2,rfl⟩:∃s0 s1 s2,seg=[s0,s1,s2]:=by
  match seg,hl2 with
  | [s0,s1,s2],_=>exact⟨s0,s1,s2,rfl⟩
 obtain⟨z0,z1,z2,rfl⟩:∃z0 z1 z2,zs=[z0,z1,z2]:=by
  match zs,hzl with
  | [z0,z1,z2],_=>exact⟨z0,z1,z2,rfl⟩
 simp only[List.map_cons,List.map_nil,List.cons.injEq,and_true] at hz1
 obtain⟨e0,e1,e2⟩:=hz1
 have g0:DataW.trod (λ_=>()) Tryz.prog W 0 (λ_=>true) false m2 4 [s0]=some z0:=by
  have q:DataW.trod (λ_=>()) Tryz.prog W 0 (λ_=>true) false m2 4 (([s0,s1,s2].drop 0).take (Tryz.prog.cellsOf 4))=some z0:=hf 0 _ rfl
  rw[show Tryz.prog.cellsOf 4=1 from by kernel_rfl] at q
  exact q
 have g1:DataW.trod (λ_=>()) Tryz.prog W 0 (λ_=>true) false m2 4 [s1]=some z1:=by
  have q:DataW.trod (λ_=>()) Tryz.prog W 0 (λ_=>true) false m2 4 (([s0,s1,s2].drop 1).take (Tryz.prog.cellsOf 4))=some z1:=hf 1 _ rfl
  rw[show Tryz.prog.cellsOf 4=1 from by kernel_rfl] at q
  exact q
 have g2:DataW.trod (λ_=>()) Tryz.prog W 0 (λ_=>true) false m2 3 [s2]=some z2:=by
  have q:DataW.trod (λ_=>()) Tryz.prog W 0 (λ_=>true) false m2 3 (([s0,s1,s2].drop 2).take (Tryz.prog.cellsOf 3))=some z2:=hf 2 _ rfl
  rw[show Tryz.prog.cellsOf 3=1 from by kernel_rfl] at q
  exact q
 obtain⟨b0,q0,r0⟩:=DataW.trod_bool Tryz.underlying4 g0
 rw[r0] at e0
 simp at q0 e0
 subst q0 e0
 obtain⟨b1,q1,r1⟩:=DataW.trod_bool Tryz.underlying4 g1
 rw[r1] at e1
 simp at q1 e1
 subst q1 e1
 obtain⟨b2,q2,r2,_⟩:=DataW.trod_int Tryz.underlying3 g2
 rw[r2] at e2
 simp at q2 e2
 subst q2 e2
 exact⟨gc 0 (by omega),gc 1 (by omega),gc 2 (by omega)⟩
theorem qCl (k:Nat) (hk:k<12) (l:List (DataW Unit)) (h:(Rows.laid_vigil_tree_stmtShapes:DataW Unit)=.agg l):l[k]?=some (.agg [.lit (.bool (qkm k)),.lit (.bool (stName k)),.lit (.bool (qcy k)),.lit (.bool (qeq k)),.lit (.int .i64 ((qcr k:Nat):Int)),.lit (.int .i64 ((qdv k:Nat):Int))]):=by
 have h':=h
 unfold Rows.laid_vigil_tree_stmtShapes at h'
 injection h' with h'
 subst h'
 have hc:k=0\/k=1\/k=2\/k=3\/k=4\/k=5\/k=6\/k=7\/k=8\/k=9\/k=10\/k=11:=by omega
 rcases hc with rfl|rfl|rfl|rfl|rfl|rfl|rfl|rfl|rfl|rfl|rfl|rfl <;> rfl
theorem qu7 {W:World}{cs:Array Value}{fuel:Nat}{p:List MemPlace}(hv:W.var? Tryz.prog "vigil/tree.stmtShapes"=some cs) (hd:DataW.trod (λ_=>()) Tryz.prog W 0 (λ_=>true) false fuel 205 cs.toList=some (Rows.laid_vigil_tree_stmtShapes,p)) (k:Nat) (hk:k<12) :
  W.cell? ⟨1,k*6,none⟩=some (.bool (qkm k))/\W.cell? ⟨1,k*6+1,none⟩=some (.bool (stName k))/\W.cell? ⟨1,k*6+2,none⟩=some (.bool (qcy k))/\W.cell? ⟨1,k*6+3,none⟩=some (.bool (qeq k))/\W.cell? ⟨1,k*6+4,none⟩=some (.int .i64 (qcr k:Nat))/\W.cell? ⟨1,k*6+5,none⟩=some (.int .i64 (qdv k:Nat)):=by
 obtain⟨xs,m,rfl,hx,hlen,hxl,hE⟩:=DataW.trod_array Tryz.underlying205 hd
 have hx1:(Rows.laid_vigil_tree_stmtShapes:DataW Unit)=.agg (xs.map (·.1)):=congrArg Prod.fst hx
 have hat:=qCl k hk _ hx1
 have hE:=hE k hk
 rw[show Tryz.prog.cellsOf 204=6 from by kernel_rfl] at hE
 obtain⟨y,hy⟩:∃y,xs[k]?=some y:=⟨xs[k],List.getElem?_eq_getElem (by omega)⟩
 rw[hy] at hE
 have hy1:y.1=.agg [.lit (.bool (qkm k)),.lit (.bool (stName k)),.lit (.bool (qcy k)),.lit (.bool (qeq k)),.lit (.int .i64 ((qcr k:Nat):Int)),.lit (.int .i64 ((qdv k:Nat):Int))]:=by
  rw[List.getElem?_map,hy] at hat
  simpa using hat
 obtain⟨zs,m2,_,rfl,hl2,hzl,hf⟩:=DataW.trod_struct Tryz.underlying204 hE
 rw[show Tryz.prog.cellsOf 204=6 from by kernel_rfl] at hl2
 have hzl:zs.length=6:=hzl
 have hz1:zs.map (·.1)=[.lit (.bool (qkm k)),.lit (.bool (stName k)),.lit (.bool (qcy k)),.lit (.bool (qeq k)),.lit (.int .i64 ((qcr k:Nat):Int)),.lit (.int .i64 ((qdv k:Nat):Int))]:=by simpa using hy1
 have gc:∀i,i<6->W.cell? ⟨1,k*6+i,none⟩=((cs.toList.drop (k*6)).take 6)[i]?:=by
  intro i hi
  rw[World.var?_cell (g:=1) (by kernel_rfl) hv,List.getElem?_take,if_pos hi,List.getElem?_drop,Array.getElem?_toList]
 generalize (cs.toList.drop (k*6)).take 6=seg at hl2 hf gc
 obtain⟨s0,s1,s2,s3,s4,s5,rfl⟩:∃s0 s1 s2 s3 s4 s5,seg=[s0,s1,s2,s3,s4,s5]:=by
  match seg,hl2 with
  | [s0,s1,s2,s3,s4,s5],_=>exact⟨s0,s1,s2,s3,s4,s5,rfl⟩
 obtain⟨z0,z1,z2,z3,z4,z5,rfl⟩:∃z0 z1 z2 z3 z4 z5,zs=[z0,z1,z2,z3,z4,z5]:=by
  match zs,hzl with
  | [z0,z1,z2,z3,z4,z5],_=>exact⟨z0,z1,z2,z3,z4,z5,rfl⟩
 simp only[List.map_cons,List.map_nil,List.cons.injEq,and_true] at hz1
 obtain⟨e0,e1,e2,e3,e4,e5⟩:=hz1
 have g0:DataW.trod (λ_=>()) Tryz.prog W 0 (λ_=>true) false m2 4 [s0]=some z0:=by
  have q:DataW.trod (λ_=>()) Tryz.prog W 0 (λ_=>true) false m2 4 (([s0,s1,s2,s3,s4,s5].drop 0).take (Tryz.prog.cellsOf 4))=some z0:=hf 0 _ rfl
  rw[show Tryz.prog.cellsOf 4=1 from by kernel_rfl] at q
  exact q
 have g1:DataW.trod (λ_=>()) Tryz.prog W 0 (λ_=>true) false m2 4 [s1]=some z1:=by
  have q:DataW.trod (λ_=>()) Tryz.prog W 0 (λ_=>true) false m2 4 (([s0,s1,s2,s3,s4,s5].drop 1).take (Tryz.prog.cellsOf 4))=some z1:=hf 1 _ rfl
  rw[show Tryz.prog.cellsOf 4=1 from by kernel_rfl] at q
  exact q
 have g2:DataW.trod (λ_=>()) Tryz.prog W 0 (λ_=>true) false m2 4 [s2]=some z2:=by
  have q:DataW.trod (λ_=>()) Tryz.prog W 0 (λ_=>true) false m2 4 (([s0,s1,s2,s3,s4,s5].drop 2).take (Tryz.prog.cellsOf 4))=some z2:=hf 2 _ rfl
  rw[show Tryz.prog.cellsOf 4=1 from by kernel_rfl] at q
  exact q
 have g3:DataW.trod (λ_=>()) Tryz.prog W 0 (λ_=>true) false m2 4 [s3]=some z3:=by
  have q:DataW.trod (λ_=>()) Tryz.prog W 0 (λ_=>true) false m2 4 (([s0,s1,s2,s3,s4,s5].drop 3).take (Tryz.prog.cellsOf 4))=some z3:=hf 3 _ rfl
  rw[show Tryz.prog.cellsOf 4=1 from by kernel_rfl] at q
  exact q
 have g4:DataW.trod (λ_=>()) Tryz.prog W 0 (λ_=>true) false m2 3 [s4]=some z4:=by
  have q:DataW.trod (λ_=>()) Tryz.prog W 0 (λ_=>true) false m2 3 (([s0,s1,s2,s3,s4,s5].drop 4).take (Tryz.prog.cellsOf 3))=some z4:=hf 4 _ rfl
  rw[show Tryz.prog.cellsOf 3=1 from by kernel_rfl] at q
  exact q
 have g5:DataW.trod (λ_=>()) Tryz.prog W 0 (λ_=>true) false m2 3 [s5]=some z5:=by
  have q:DataW.trod (λ_=>()) Tryz.prog W 0 (λ_=>true) false m2 3 (([s0,s1,s2,s3,s4,s5].drop 5).take (Tryz.prog.cellsOf 3))=some z5:=hf 5 _ rfl
  rw[show Tryz.prog.cellsOf 3=1 from by kernel_rfl] at q
  exact q
 obtain⟨b0,q0,r0⟩:=DataW.trod_bool Tryz.underlying4 g0
 rw[r0] at e0
 simp at q0 e0
 subst q0 e0
 obtain⟨b1,q1,r1⟩:=DataW.trod_bool Tryz.underlying4 g1
 rw[r1] at e1
 simp at q1 e1
 subst q1 e1
 obtain⟨b2,q2,r2⟩:=DataW.trod_bool Tryz.underlying4 g2
 rw[r2] at e2
 simp at q2 e2
 subst q2 e2
 obtain⟨b3,q3,r3⟩:=DataW.trod_bool Tryz.underlying4 g3
 rw[r3] at e3
 simp at q3 e3
 subst q3 e3
 obtain⟨b4,q4,r4,_⟩:=DataW.trod_int Tryz.underlying3 g4
 rw[r4] at e4
 simp at q4 e4
 subst q4 e4
 obtain⟨b5,q5,r5,_⟩:=DataW.trod_int Tryz.underlying3 g5
 rw[r5] at e5
 simp at q5 e5
 subst q5 e5
 exact⟨gc 0 (by omega),gc 1 (by omega),gc 2 (by omega),gc 3 (by omega),gc 4 (by omega),gc 5 (by omega)⟩
theorem qCd (k:Nat) (hk:k<18) (l:List (DataW Unit)) (h:(Rows.laid_vigil_types_rules:DataW Unit)=.agg l):l[k]?=some (.agg [.lit (.int .i64 (qv2 k)),.lit (.int .i64 (qcd k))]):=by
 have h':=h
 unfold Rows.laid_vigil_types_rules at h'
 injection h' with h'
 subst h'
 have hc:k=0\/k=1\/k=2\/k=3\/k=4\/k=5\/k=6\/k=7\/k=8\/k=9\/k=10\/k=11\/k=12\/k=13\/k=14\/k=15\/k=16\/k=17:=by omega
 rcases hc with rfl|rfl|rfl|rfl|rfl|rfl|rfl|rfl|rfl|rfl|rfl|rfl|rfl|rfl|rfl|rfl|rfl|rfl <;> rfl
theorem quq {W:World}{cs:Array Value}{fuel:Nat}{p:List MemPlace}(hv:W.var? Tryz.prog "vigil/types.rules"=some cs) (hd:DataW.trod (λ_=>()) Tryz.prog W 0 (λ_=>true) false fuel 225 cs.toList=some (Rows.laid_vigil_types_rules,p)) (k:Nat) (hk:k<18) :
  W.cell? ⟨4,k*2,none⟩=some (.int .i64 (qv2 k))/\W.cell? ⟨4,k*2+1,none⟩=some (.int .i64 (qcd k)):=by
 obtain⟨xs,m,rfl,hx,hlen,hxl,hE⟩:=DataW.trod_array Tryz.underlying225 hd
 have hx1:(Rows.laid_vigil_types_rules:DataW Unit)=.agg (xs.map (·.1)):=congrArg Prod.fst hx
 have hat:=qCd k hk _ hx1
 have hE:=hE k hk
 rw[show Tryz.prog.cellsOf 224=2 from by kernel_rfl] at hE
 obtain⟨y,hy⟩:∃y,xs[k]?=some y:=⟨xs[k],List.getElem?_eq_getElem (by omega)⟩
 rw[hy] at hE
 have hy1:y.1=.agg [.lit (.int .i64 (qv2 k)),.lit (.int .i64 (qcd k))]:=by
  rw[List.getElem?_map,hy] at hat
  simpa using hat
 obtain⟨zs,m2,_,rfl,hl2,hzl,hf⟩:=DataW.trod_struct Tryz.underlying224 hE
 rw[show Tryz.prog.cellsOf 224=2 from by kernel_rfl] at hl2
 have hzl:zs.length=2:=hzl
 have hz1:zs.map (·.1)=[.lit (.int .i64 (qv2 k)),.lit (.int .i64 (qcd k))]:=by simpa using hy1
 have gc:∀i,i<2->W.cell? ⟨4,k*2+i,none⟩=((cs.toList.drop (k*2)).take 2)[i]?:=by
  intro i hi
  rw[World.var?_cell (g:=4) (by kernel_rfl) hv,List.getElem?_take,if_pos hi,List.getElem?_drop,Array.getElem?_toList]
 generalize (cs.toList.drop (k*2)).take 2=seg at hl2 hf gc
 obtain⟨s0,s1,rfl⟩:∃s0 s1,seg=[s0,s1]:=by
  match seg,hl2 with
  | [s0,s1],_=>exact⟨s0,s1,rfl⟩
 obtain⟨z0,z1,rfl⟩:∃z0 z1,zs=[z0,z1]:=by
  match zs,hzl with
  | [z0,z1],_=>exact⟨z0,z1,rfl⟩
 simp only[List.map_cons,List.map_nil,List.cons.injEq,and_true] at hz1
 obtain⟨e0,e1⟩:=hz1
 have g0:DataW.trod (λ_=>()) Tryz.prog W 0 (λ_=>true) false m2 3 [s0]=some z0:=by
  have q:DataW.trod (λ_=>()) Tryz.prog W 0 (λ_=>true) false m2 3 (([s0,s1].drop 0).take (Tryz.prog.cellsOf 3))=some z0:=hf 0 _ rfl
  rw[show Tryz.prog.cellsOf 3=1 from by kernel_rfl] at q
  exact q
 have g1:DataW.trod (λ_=>()) Tryz.prog W 0 (λ_=>true) false m2 3 [s1]=some z1:=by
  have q:DataW.trod (λ_=>()) Tryz.prog W 0 (λ_=>true) false m2 3 (([s0,s1].drop 1).take (Tryz.prog.cellsOf 3))=some z1:=hf 1 _ rfl
  rw[show Tryz.prog.cellsOf 3=1 from by kernel_rfl] at q
  exact q
 obtain⟨b0,q0,r0,_⟩:=DataW.trod_int Tryz.underlying3 g0
 rw[r0] at e0
 simp at q0 e0
 subst q0 e0
 obtain⟨b1,q1,r1,_⟩:=DataW.trod_int Tryz.underlying3 g1
 rw[r1] at e1
 simp at q1 e1
 subst q1 e1
 exact⟨gc 0 (by omega),gc 1 (by omega)⟩
theorem qnv {w:World}{b o:Nat}{v:Value}(h:w.cell? ⟨b,o,none⟩=some v):b<w.heap.size:=by
 rcases Nat.lt_or_ge b w.heap.size with h1|h1
 ·exact h1
 ·exfalso
  have h2:w.heap[b]?=none:=by rw[Array.getElem?_eq_none_iff];exact h1
  simp[World.cell?,h2] at h
theorem qu0 {W:World}(h:laidMet Tryz.prog (Rows.heldRightRow.laid.drop 3) W):Shapes W:=by
 obtain⟨ps,⟨g,t,cs,fuel,p,q,hg,ht,hv,hd,⟨g',t',cs',fuel',p',q',hg',ht',hv',hd',⟨g2,t2,cs2,fuel2,p2,q2,hg2,ht2,hv2,hd2,_,_⟩,_⟩,_⟩,_⟩:=h
 obtain rfl:g=5:=Option.some.inj (hg.symm.trans (show Tryz.prog.globalNamed "vigil/tree.exprShapes"=some 5 by kernel_rfl))
 obtain rfl:g'=1:=Option.some.inj (hg'.symm.trans (show Tryz.prog.globalNamed "vigil/tree.stmtShapes"=some 1 by kernel_rfl))
 obtain rfl:g2=4:=Option.some.inj (hg2.symm.trans (show Tryz.prog.globalNamed "vigil/types.rules"=some 4 by kernel_rfl))
 obtain rfl:t=232:=Option.some.inj (ht.symm.trans (show (Tryz.prog.globals[5]?).map (·.type)=some 232 by kernel_rfl))
 obtain rfl:t'=205:=Option.some.inj (ht'.symm.trans (show (Tryz.prog.globals[1]?).map (·.type)=some 205 by kernel_rfl))
 obtain rfl:t2=225:=Option.some.inj (ht2.symm.trans (show (Tryz.prog.globals[4]?).map (·.type)=some 225 by kernel_rfl))
 have h0:=qsl hv hd
 have h1:=qu7 hv' hd'
 have h2:=quq hv2 hd2
 refine⟨?_,h2,h0,h1⟩
 have:=qnv (h0 0 (by omega)).1
 omega
theorem qCm {W:World}(h:laidMet Tryz.prog (Rows.heldRightRow.laid.drop 2) W):Tab W:=
 Lib.tabIs_of_head (g:=0) (t:=188) (e:=158) (n:=20) (by kernel_rfl) (by kernel_rfl) Tryz.underlying188 Tryz.underlying158 (by kernel_rfl) (by kernel_rfl) (show laidMet Tryz.prog (("internal/strconv.uint64pow10",Lib.tabData .u64 Lib.pow10Tab)::Rows.heldRightRow.laid.drop 3) W from h)
theorem qzy {W:World}(h:laidMet Tryz.prog Rows.heldRightRow.laid W):Shapes W/\Tab W:=by
 have h2:laidMet Tryz.prog (Rows.heldRightRow.laid.drop 2) W:=h.tail.tail
 exact⟨qu0 h2.tail,qCm h2⟩
