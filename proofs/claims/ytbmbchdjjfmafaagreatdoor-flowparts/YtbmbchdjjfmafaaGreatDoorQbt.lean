/-
  Own texts joined by program: ShL.
-/
import Derived.Test.YtbmbchdjjfmafaaGreatDoorQbk
import Derived.Test.YtbmbchdjjfmafaaGreatDoorRows
import Derived.ProofKit
import Derived.OpenShut
import Derived.LaidLaws
import Derived.Deep.Strs
import Derived.Lib.LaidTab
import Derived.Stop.LaidErr
namespace Go.Proofs.YtbmbchdjjfmafaaGreatDoor
open Go.ChangeShapes Go.WideShapes Go.ChangeAt Go.RowKit
theorem exs_at (k:Nat) (hk:k<18) (l:List (DataW Unit)) (h:(Rows.laid_vigil_tree_exprShapes:DataW Unit)=.agg l):l[k]?=some (.agg [.lit (.bool (exNames k)),.lit (.bool (exNumber k)),.lit (.int .i64 ((exKids k:Nat):Int))]):=by
 have h':=h
 unfold Rows.laid_vigil_tree_exprShapes at h'
 injection h' with h'
 subst h'
 have hc:k=0∨k=1∨k=2∨k=3∨k=4∨k=5∨k=6∨k=7∨k=8∨k=9∨k=10∨k=11∨k=12∨k=13∨k=14∨k=15∨k=16∨k=17:=by omega
 rcases hc with rfl|rfl|rfl|rfl|rfl|rfl|rfl|rfl|rfl|rfl|rfl|rfl|rfl|rfl|rfl|rfl|rfl|rfl <;> rfl
set_option maxRecDepth 100000 in
theorem exs_cells {W:World} {cs:Array Value} {fuel:Nat} {p:List MemPlace} (hv:W.var? Tryz.prog "vigil/tree.exprShapes"=some cs) (hd:DataW.trod (fun _=>()) Tryz.prog W 0 (fun _=>true) false fuel 234 cs.toList=some (Rows.laid_vigil_tree_exprShapes,p)) (k:Nat) (hk:k<18) :
  W.cell? ⟨4,k*3,none⟩=some (.bool (exNames k))∧W.cell? ⟨4,k*3+1,none⟩=some (.bool (exNumber k))∧W.cell? ⟨4,k*3+2,none⟩=some (.int .i64 (exKids k:Nat)):=by
 obtain⟨xs,m,rfl,hx,hlen,hxl,hE⟩:=DataW.trod_array Tryz.underlying234 hd
 have hx1:(Rows.laid_vigil_tree_exprShapes:DataW Unit)=.agg (xs.map (·.1)):=congrArg Prod.fst hx
 have hat:=exs_at k hk _ hx1
 have hE:=hE k hk
 rw[show Tryz.prog.cellsOf 233=3 from by kernel_rfl] at hE
 obtain⟨y,hy⟩:∃ y,xs[k]?=some y:=⟨xs[k],List.getElem?_eq_getElem (by omega)⟩
 rw[hy] at hE
 have hy1:y.1=.agg [.lit (.bool (exNames k)),.lit (.bool (exNumber k)),.lit (.int .i64 ((exKids k:Nat):Int))]:=by
  rw[List.getElem?_map,hy] at hat
  simpa using hat
 obtain⟨zs,m2,_,rfl,hl2,hzl,hf⟩:=DataW.trod_struct Tryz.underlying233 hE
 rw[show Tryz.prog.cellsOf 233=3 from by kernel_rfl] at hl2
 have hzl:zs.length=3:=hzl
 have hz1:zs.map (·.1)=[.lit (.bool (exNames k)),.lit (.bool (exNumber k)),.lit (.int .i64 ((exKids k:Nat):Int))]:=by simpa using hy1
 have gc:∀ i,i<3→W.cell? ⟨4,k*3+i,none⟩=((cs.toList.drop (k*3)).take 3)[i]?:=by
  intro i hi
  rw[World.var?_cell (g:=4) (by kernel_rfl) hv,List.getElem?_take,if_pos hi,List.getElem?_drop,Array.getElem?_toList]
 generalize (cs.toList.drop (k*3)).take 3=seg at hl2 hf gc
 obtain⟨s0,s1,s2,rfl⟩:∃ s0 s1 s2,seg=[s0,s1,s2]:=by
  match seg,hl2 with
  | [s0,s1,s2],_=>exact⟨s0,s1,s2,rfl⟩
 obtain⟨z0,z1,z2,rfl⟩:∃ z0 z1 z2,zs=[z0,z1,z2]:=by
  match zs,hzl with
  | [z0,z1,z2],_=>exact⟨z0,z1,z2,rfl⟩
 simp only[List.map_cons,List.map_nil,List.cons.injEq,and_true] at hz1
 obtain⟨e0,e1,e2⟩:=hz1
 have g0:DataW.trod (fun _=>()) Tryz.prog W 0 (fun _=>true) false m2 4 [s0]=some z0:=by
  have q:DataW.trod (fun _=>()) Tryz.prog W 0 (fun _=>true) false m2 4 (([s0,s1,s2].drop 0).take (Tryz.prog.cellsOf 4))=some z0:=hf 0 _ rfl
  rw[show Tryz.prog.cellsOf 4=1 from by kernel_rfl] at q
  exact q
 have g1:DataW.trod (fun _=>()) Tryz.prog W 0 (fun _=>true) false m2 4 [s1]=some z1:=by
  have q:DataW.trod (fun _=>()) Tryz.prog W 0 (fun _=>true) false m2 4 (([s0,s1,s2].drop 1).take (Tryz.prog.cellsOf 4))=some z1:=hf 1 _ rfl
  rw[show Tryz.prog.cellsOf 4=1 from by kernel_rfl] at q
  exact q
 have g2:DataW.trod (fun _=>()) Tryz.prog W 0 (fun _=>true) false m2 3 [s2]=some z2:=by
  have q:DataW.trod (fun _=>()) Tryz.prog W 0 (fun _=>true) false m2 3 (([s0,s1,s2].drop 2).take (Tryz.prog.cellsOf 3))=some z2:=hf 2 _ rfl
  rw[show Tryz.prog.cellsOf 3=1 from by kernel_rfl] at q
  exact q
 obtain⟨b0,q0,r0⟩:=DataW.trod_bool Tryz.underlying4 g0
 rw[r0] at e0
 simp at q0 e0
 subst q0 e0
 obtain⟨b1,q1,r1⟩:=DataW.trod_bool Tryz.underlying4 g1
 rw[r1] at e1
 simp at q1 e1
 subst q1 e1
 obtain⟨b2,q2,r2,_⟩:=DataW.trod_int Tryz.underlying3 g2
 rw[r2] at e2
 simp at q2 e2
 subst q2 e2
 exact⟨gc 0 (by omega),gc 1 (by omega),gc 2 (by omega)⟩
theorem sts_at (k:Nat) (hk:k<12) (l:List (DataW Unit)) (h:(Rows.laid_vigil_tree_stmtShapes:DataW Unit)=.agg l):l[k]?=some (.agg [.lit (.bool (stMon k)),.lit (.bool (stName k)),.lit (.bool (stNumber k)),.lit (.bool (stExpr k)),.lit (.int .i64 ((stLeast k:Nat):Int)),.lit (.int .i64 ((stMost k:Nat):Int))]):=by
 have h':=h
 unfold Rows.laid_vigil_tree_stmtShapes at h'
 injection h' with h'
 subst h'
 have hc:k=0∨k=1∨k=2∨k=3∨k=4∨k=5∨k=6∨k=7∨k=8∨k=9∨k=10∨k=11:=by omega
 rcases hc with rfl|rfl|rfl|rfl|rfl|rfl|rfl|rfl|rfl|rfl|rfl|rfl <;> rfl
set_option maxRecDepth 100000 in
theorem sts_cells {W:World} {cs:Array Value} {fuel:Nat} {p:List MemPlace} (hv:W.var? Tryz.prog "vigil/tree.stmtShapes"=some cs) (hd:DataW.trod (fun _=>()) Tryz.prog W 0 (fun _=>true) false fuel 191 cs.toList=some (Rows.laid_vigil_tree_stmtShapes,p)) (k:Nat) (hk:k<12) :
  W.cell? ⟨0,k*6,none⟩=some (.bool (stMon k))∧W.cell? ⟨0,k*6+1,none⟩=some (.bool (stName k))∧W.cell? ⟨0,k*6+2,none⟩=some (.bool (stNumber k))∧W.cell? ⟨0,k*6+3,none⟩=some (.bool (stExpr k))∧W.cell? ⟨0,k*6+4,none⟩=some (.int .i64 (stLeast k:Nat))∧W.cell? ⟨0,k*6+5,none⟩=some (.int .i64 (stMost k:Nat)):=by
 obtain⟨xs,m,rfl,hx,hlen,hxl,hE⟩:=DataW.trod_array Tryz.underlying191 hd
 have hx1:(Rows.laid_vigil_tree_stmtShapes:DataW Unit)=.agg (xs.map (·.1)):=congrArg Prod.fst hx
 have hat:=sts_at k hk _ hx1
 have hE:=hE k hk
 rw[show Tryz.prog.cellsOf 190=6 from by kernel_rfl] at hE
 obtain⟨y,hy⟩:∃ y,xs[k]?=some y:=⟨xs[k],List.getElem?_eq_getElem (by omega)⟩
 rw[hy] at hE
 have hy1:y.1=.agg [.lit (.bool (stMon k)),.lit (.bool (stName k)),.lit (.bool (stNumber k)),.lit (.bool (stExpr k)),.lit (.int .i64 ((stLeast k:Nat):Int)),.lit (.int .i64 ((stMost k:Nat):Int))]:=by
  rw[List.getElem?_map,hy] at hat
  simpa using hat
 obtain⟨zs,m2,_,rfl,hl2,hzl,hf⟩:=DataW.trod_struct Tryz.underlying190 hE
 rw[show Tryz.prog.cellsOf 190=6 from by kernel_rfl] at hl2
 have hzl:zs.length=6:=hzl
 have hz1:zs.map (·.1)=[.lit (.bool (stMon k)),.lit (.bool (stName k)),.lit (.bool (stNumber k)),.lit (.bool (stExpr k)),.lit (.int .i64 ((stLeast k:Nat):Int)),.lit (.int .i64 ((stMost k:Nat):Int))]:=by simpa using hy1
 have gc:∀ i,i<6→W.cell? ⟨0,k*6+i,none⟩=((cs.toList.drop (k*6)).take 6)[i]?:=by
  intro i hi
  rw[World.var?_cell (g:=0) (by kernel_rfl) hv,List.getElem?_take,if_pos hi,List.getElem?_drop,Array.getElem?_toList]
 generalize (cs.toList.drop (k*6)).take 6=seg at hl2 hf gc
 obtain⟨s0,s1,s2,s3,s4,s5,rfl⟩:∃ s0 s1 s2 s3 s4 s5,seg=[s0,s1,s2,s3,s4,s5]:=by
  match seg,hl2 with
  | [s0,s1,s2,s3,s4,s5],_=>exact⟨s0,s1,s2,s3,s4,s5,rfl⟩
 obtain⟨z0,z1,z2,z3,z4,z5,rfl⟩:∃ z0 z1 z2 z3 z4 z5,zs=[z0,z1,z2,z3,z4,z5]:=by
  match zs,hzl with
  | [z0,z1,z2,z3,z4,z5],_=>exact⟨z0,z1,z2,z3,z4,z5,rfl⟩
 simp only[List.map_cons,List.map_nil,List.cons.injEq,and_true] at hz1
 obtain⟨e0,e1,e2,e3,e4,e5⟩:=hz1
 have g0:DataW.trod (fun _=>()) Tryz.prog W 0 (fun _=>true) false m2 4 [s0]=some z0:=by
  have q:DataW.trod (fun _=>()) Tryz.prog W 0 (fun _=>true) false m2 4 (([s0,s1,s2,s3,s4,s5].drop 0).take (Tryz.prog.cellsOf 4))=some z0:=hf 0 _ rfl
  rw[show Tryz.prog.cellsOf 4=1 from by kernel_rfl] at q
  exact q
 have g1:DataW.trod (fun _=>()) Tryz.prog W 0 (fun _=>true) false m2 4 [s1]=some z1:=by
  have q:DataW.trod (fun _=>()) Tryz.prog W 0 (fun _=>true) false m2 4 (([s0,s1,s2,s3,s4,s5].drop 1).take (Tryz.prog.cellsOf 4))=some z1:=hf 1 _ rfl
  rw[show Tryz.prog.cellsOf 4=1 from by kernel_rfl] at q
  exact q
 have g2:DataW.trod (fun _=>()) Tryz.prog W 0 (fun _=>true) false m2 4 [s2]=some z2:=by
  have q:DataW.trod (fun _=>()) Tryz.prog W 0 (fun _=>true) false m2 4 (([s0,s1,s2,s3,s4,s5].drop 2).take (Tryz.prog.cellsOf 4))=some z2:=hf 2 _ rfl
  rw[show Tryz.prog.cellsOf 4=1 from by kernel_rfl] at q
  exact q
 have g3:DataW.trod (fun _=>()) Tryz.prog W 0 (fun _=>true) false m2 4 [s3]=some z3:=by
  have q:DataW.trod (fun _=>()) Tryz.prog W 0 (fun _=>true) false m2 4 (([s0,s1,s2,s3,s4,s5].drop 3).take (Tryz.prog.cellsOf 4))=some z3:=hf 3 _ rfl
  rw[show Tryz.prog.cellsOf 4=1 from by kernel_rfl] at q
  exact q
 have g4:DataW.trod (fun _=>()) Tryz.prog W 0 (fun _=>true) false m2 3 [s4]=some z4:=by
  have q:DataW.trod (fun _=>()) Tryz.prog W 0 (fun _=>true) false m2 3 (([s0,s1,s2,s3,s4,s5].drop 4).take (Tryz.prog.cellsOf 3))=some z4:=hf 4 _ rfl
  rw[show Tryz.prog.cellsOf 3=1 from by kernel_rfl] at q
  exact q
 have g5:DataW.trod (fun _=>()) Tryz.prog W 0 (fun _=>true) false m2 3 [s5]=some z5:=by
  have q:DataW.trod (fun _=>()) Tryz.prog W 0 (fun _=>true) false m2 3 (([s0,s1,s2,s3,s4,s5].drop 5).take (Tryz.prog.cellsOf 3))=some z5:=hf 5 _ rfl
  rw[show Tryz.prog.cellsOf 3=1 from by kernel_rfl] at q
  exact q
 obtain⟨b0,q0,r0⟩:=DataW.trod_bool Tryz.underlying4 g0
 rw[r0] at e0
 simp at q0 e0
 subst q0 e0
 obtain⟨b1,q1,r1⟩:=DataW.trod_bool Tryz.underlying4 g1
 rw[r1] at e1
 simp at q1 e1
 subst q1 e1
 obtain⟨b2,q2,r2⟩:=DataW.trod_bool Tryz.underlying4 g2
 rw[r2] at e2
 simp at q2 e2
 subst q2 e2
 obtain⟨b3,q3,r3⟩:=DataW.trod_bool Tryz.underlying4 g3
 rw[r3] at e3
 simp at q3 e3
 subst q3 e3
 obtain⟨b4,q4,r4,_⟩:=DataW.trod_int Tryz.underlying3 g4
 rw[r4] at e4
 simp at q4 e4
 subst q4 e4
 obtain⟨b5,q5,r5,_⟩:=DataW.trod_int Tryz.underlying3 g5
 rw[r5] at e5
 simp at q5 e5
 subst q5 e5
 exact⟨gc 0 (by omega),gc 1 (by omega),gc 2 (by omega),gc 3 (by omega),gc 4 (by omega),gc 5 (by omega)⟩
theorem rus_at (k:Nat) (hk:k<18) (l:List (DataW Unit)) (h:(Rows.laid_vigil_types_rules:DataW Unit)=.agg l):l[k]?=some (.agg [.lit (.int .i64 (ruIs k)),.lit (.int .i64 (ruParts k))]):=by
 have h':=h
 unfold Rows.laid_vigil_types_rules at h'
 injection h' with h'
 subst h'
 have hc:k=0∨k=1∨k=2∨k=3∨k=4∨k=5∨k=6∨k=7∨k=8∨k=9∨k=10∨k=11∨k=12∨k=13∨k=14∨k=15∨k=16∨k=17:=by omega
 rcases hc with rfl|rfl|rfl|rfl|rfl|rfl|rfl|rfl|rfl|rfl|rfl|rfl|rfl|rfl|rfl|rfl|rfl|rfl <;> rfl
set_option maxRecDepth 100000 in
theorem rus_cells {W:World} {cs:Array Value} {fuel:Nat} {p:List MemPlace} (hv:W.var? Tryz.prog "vigil/types.rules"=some cs) (hd:DataW.trod (fun _=>()) Tryz.prog W 0 (fun _=>true) false fuel 240 cs.toList=some (Rows.laid_vigil_types_rules,p)) (k:Nat) (hk:k<18) :
  W.cell? ⟨5,k*2,none⟩=some (.int .i64 (ruIs k))∧W.cell? ⟨5,k*2+1,none⟩=some (.int .i64 (ruParts k)):=by
 obtain⟨xs,m,rfl,hx,hlen,hxl,hE⟩:=DataW.trod_array Tryz.underlying240 hd
 have hx1:(Rows.laid_vigil_types_rules:DataW Unit)=.agg (xs.map (·.1)):=congrArg Prod.fst hx
 have hat:=rus_at k hk _ hx1
 have hE:=hE k hk
 rw[show Tryz.prog.cellsOf 239=2 from by kernel_rfl] at hE
 obtain⟨y,hy⟩:∃ y,xs[k]?=some y:=⟨xs[k],List.getElem?_eq_getElem (by omega)⟩
 rw[hy] at hE
 have hy1:y.1=.agg [.lit (.int .i64 (ruIs k)),.lit (.int .i64 (ruParts k))]:=by
  rw[List.getElem?_map,hy] at hat
  simpa using hat
 obtain⟨zs,m2,_,rfl,hl2,hzl,hf⟩:=DataW.trod_struct Tryz.underlying239 hE
 rw[show Tryz.prog.cellsOf 239=2 from by kernel_rfl] at hl2
 have hzl:zs.length=2:=hzl
 have hz1:zs.map (·.1)=[.lit (.int .i64 (ruIs k)),.lit (.int .i64 (ruParts k))]:=by simpa using hy1
 have gc:∀ i,i<2→W.cell? ⟨5,k*2+i,none⟩=((cs.toList.drop (k*2)).take 2)[i]?:=by
  intro i hi
  rw[World.var?_cell (g:=5) (by kernel_rfl) hv,List.getElem?_take,if_pos hi,List.getElem?_drop,Array.getElem?_toList]
 generalize (cs.toList.drop (k*2)).take 2=seg at hl2 hf gc
 obtain⟨s0,s1,rfl⟩:∃ s0 s1,seg=[s0,s1]:=by
  match seg,hl2 with
  | [s0,s1],_=>exact⟨s0,s1,rfl⟩
 obtain⟨z0,z1,rfl⟩:∃ z0 z1,zs=[z0,z1]:=by
  match zs,hzl with
  | [z0,z1],_=>exact⟨z0,z1,rfl⟩
 simp only[List.map_cons,List.map_nil,List.cons.injEq,and_true] at hz1
 obtain⟨e0,e1⟩:=hz1
 have g0:DataW.trod (fun _=>()) Tryz.prog W 0 (fun _=>true) false m2 3 [s0]=some z0:=by
  have q:DataW.trod (fun _=>()) Tryz.prog W 0 (fun _=>true) false m2 3 (([s0,s1].drop 0).take (Tryz.prog.cellsOf 3))=some z0:=hf 0 _ rfl
  rw[show Tryz.prog.cellsOf 3=1 from by kernel_rfl] at q
  exact q
 have g1:DataW.trod (fun _=>()) Tryz.prog W 0 (fun _=>true) false m2 3 [s1]=some z1:=by
  have q:DataW.trod (fun _=>()) Tryz.prog W 0 (fun _=>true) false m2 3 (([s0,s1].drop 1).take (Tryz.prog.cellsOf 3))=some z1:=hf 1 _ rfl
  rw[show Tryz.prog.cellsOf 3=1 from by kernel_rfl] at q
  exact q
 obtain⟨b0,q0,r0,_⟩:=DataW.trod_int Tryz.underlying3 g0
 rw[r0] at e0
 simp at q0 e0
 subst q0 e0
 obtain⟨b1,q1,r1,_⟩:=DataW.trod_int Tryz.underlying3 g1
 rw[r1] at e1
 simp at q1 e1
 subst q1 e1
 exact⟨gc 0 (by omega),gc 1 (by omega)⟩
theorem lt_of_cell2 {w:World} {b o:Nat} {v:Value} (h:w.cell? ⟨b,o,none⟩=some v):b<w.heap.size:=by
 rcases Nat.lt_or_ge b w.heap.size with h1|h1
 ·exact h1
 ·exfalso
  have h2:w.heap[b]?=none:=by rw[Array.getElem?_eq_none_iff];exact h1
  simp[World.cell?,h2] at h
theorem shapes_of {W:World} (h:laidMet Tryz.prog (Rows.flowPartsRow.laid.drop 3) W):Shapes W:=by
 obtain⟨ps,⟨g,t,cs,fuel,p,q,hg,ht,hv,hd,⟨g',t',cs',fuel',p',q',hg',ht',hv',hd',⟨g2,t2,cs2,fuel2,p2,q2,hg2,ht2,hv2,hd2,_,_⟩,_⟩,_⟩,_⟩:=h
 obtain rfl:g=4:=Option.some.inj (hg.symm.trans (show Tryz.prog.globalNamed "vigil/tree.exprShapes"=some 4 by kernel_rfl))
 obtain rfl:g'=0:=Option.some.inj (hg'.symm.trans (show Tryz.prog.globalNamed "vigil/tree.stmtShapes"=some 0 by kernel_rfl))
 obtain rfl:g2=5:=Option.some.inj (hg2.symm.trans (show Tryz.prog.globalNamed "vigil/types.rules"=some 5 by kernel_rfl))
 obtain rfl:t=234:=Option.some.inj (ht.symm.trans (show (Tryz.prog.globals[4]?).map (·.type)=some 234 by kernel_rfl))
 obtain rfl:t'=191:=Option.some.inj (ht'.symm.trans (show (Tryz.prog.globals[0]?).map (·.type)=some 191 by kernel_rfl))
 obtain rfl:t2=240:=Option.some.inj (ht2.symm.trans (show (Tryz.prog.globals[5]?).map (·.type)=some 240 by kernel_rfl))
 have h0:=exs_cells hv hd
 have h1:=sts_cells hv' hd'
 have h2:=rus_cells hv2 hd2
 refine⟨?_,h2,h0,h1⟩
 have:=lt_of_cell2 (h2 0 (by omega)).1
 omega
theorem tab_of {W:World} (h:laidMet Tryz.prog (Rows.flowPartsRow.laid.drop 2) W):Tab W:=
 Lib.tabIs_of_head (g:=1) (t:=207) (e:=177) (n:=20) (by kernel_rfl) (by kernel_rfl) Tryz.underlying207 Tryz.underlying177 (by kernel_rfl) (by kernel_rfl) (show laidMet Tryz.prog (("internal/strconv.uint64pow10",Lib.tabData .u64 Lib.pow10Tab)::Rows.flowPartsRow.laid.drop 3) W from h)
theorem laid_of {W:World} (h:laidMet Tryz.prog Rows.flowPartsRow.laid W):Shapes W∧Tab W:=by
 have h2:laidMet Tryz.prog (Rows.flowPartsRow.laid.drop 2) W:=h.tail.tail
 exact⟨shapes_of h2.tail,tab_of h2⟩
end Go.Proofs.YtbmbchdjjfmafaaGreatDoor
