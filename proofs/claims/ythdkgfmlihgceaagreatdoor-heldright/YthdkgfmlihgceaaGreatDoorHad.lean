import Derived.Test.YthdkgfmlihgceaaGreatDoorHac
import Derived.Test.YthdkgfmlihgceaaGreatDoorRows
import Derived.ProofKit
import Derived.OpenShut
import Derived.SizedLaws
import Derived.Deep.Slices
import Derived.Lib.SmallJoins
namespace Go.Proofs.YthdkgfmlihgceaaGreatDoor
set_option maxRecDepth 100000
open Go.ChangeShapes Go.WideShapes Go.ChangeAt Go.RowKit Go.Deep
theorem qDh:Tryz.prog.cellsOf 48=6:=by kernel_rfl
theorem qEi:Tryz.prog.cellsOf 46=1:=by kernel_rfl
theorem oc3:Tryz.prog.cellsOf 3=1:=by kernel_rfl
theorem oc2:Tryz.prog.cellsOf 2=1:=by kernel_rfl
theorem oc9:Tryz.prog.cellsOf 9=1:=by kernel_rfl
theorem qa6 {k:Int}(h:(Lit.int .i64 k).wf=true):I64 k:=by
 have h':(decide (IntKind.i64.min<=k)&&decide (k<=IntKind.i64.max))=true:=h
 simp only[Bool.and_eq_true,decide_eq_true_eq] at h'
 have e1:IntKind.i64.min=-9223372036854775808:=by decide
 have e2:IntKind.i64.max=9223372036854775807:=by decide
 rw[e1,e2] at h'
 exact h'
theorem qw4 {α:Type}{l:List α}(h:l.length=6):∃a b c d e f,l=[a,b,c,d,e,f]:=by
 match l,h with
 | [a,b,c,d,e,f],_=>exact⟨a,b,c,d,e,f,rfl⟩
theorem qe1 {H:Type}{P:Program}{e:TypeId}{l:List (DataW H)}{d:DataW H}(hd:d∈l) {z:Nat}(hz:z∈d.weights P e):z∈DataW.weightsAll P e l:=by
 induction l with
 | nil=>cases hd
 | cons x r ih =>
  rw[DataW.weightsAll]
  rcases List.mem_cons.1 hd with rfl|hd
  ·exact List.mem_append.2 (.inl hz)
  ·exact List.mem_append.2 (.inr (ih hd))
theorem qAf {H:Type}{enc:TypeId × Value->H}{W:World}(fuel:Nat):∀(cs:List Value) (x:DataW H × List MemPlace),DataW.trod enc Tryz.prog W 0 (λ_=>true) true fuel 48 cs=some x->(∀k∈x.1.weights Tryz.prog 48,k<=reachBytes) ->
  ∃e:Ex,cs=e.cells/\e.Is W.heap.size W:=by
 induction fuel using Nat.strongRecOn with
 | _ fuel ih =>
  intro cs x h hw
  obtain⟨xs,n,rfl,rfl,hlen,hxl,hf⟩:=DataW.trod_struct Tryz.underlying48 h
  rw[qDh] at hlen
  obtain⟨v0,v1,v2,v3,v4,v5,rfl⟩:=qw4 hlen
  obtain⟨y0,y1,y2,y3,y4,y5,rfl⟩:=qw4 (show xs.length=6 from hxl)
  have g0:DataW.trod enc Tryz.prog W 0 (λ_=>true) true n 3 [v0]=some y0:=by
   have g:DataW.trod enc Tryz.prog W 0 (λ_=>true) true n 3 (([v0,v1,v2,v3,v4,v5].drop 0).take (Tryz.prog.cellsOf 3))=some y0:=hf 0 _ rfl
   rw[oc3] at g
   exact g
  have g1:DataW.trod enc Tryz.prog W 0 (λ_=>true) true n 9 [v1]=some y1:=by
   have g:DataW.trod enc Tryz.prog W 0 (λ_=>true) true n 9 (([v0,v1,v2,v3,v4,v5].drop 1).take (Tryz.prog.cellsOf 9))=some y1:=hf 1 _ rfl
   rw[oc9] at g
   exact g
  have g2:DataW.trod enc Tryz.prog W 0 (λ_=>true) true n 9 [v2]=some y2:=by
   have g:DataW.trod enc Tryz.prog W 0 (λ_=>true) true n 9 (([v0,v1,v2,v3,v4,v5].drop 2).take (Tryz.prog.cellsOf 9))=some y2:=hf 2 _ rfl
   rw[oc9] at g
   exact g
  have g3:DataW.trod enc Tryz.prog W 0 (λ_=>true) true n 2 [v3]=some y3:=by
   have g:DataW.trod enc Tryz.prog W 0 (λ_=>true) true n 2 (([v0,v1,v2,v3,v4,v5].drop 3).take (Tryz.prog.cellsOf 2))=some y3:=hf 3 _ rfl
   rw[oc2] at g
   exact g
  have g4:DataW.trod enc Tryz.prog W 0 (λ_=>true) true n 46 [v4]=some y4:=by
   have g:DataW.trod enc Tryz.prog W 0 (λ_=>true) true n 46 (([v0,v1,v2,v3,v4,v5].drop 4).take (Tryz.prog.cellsOf 46))=some y4:=hf 4 _ rfl
   rw[qEi] at g
   exact g
  have g5:DataW.trod enc Tryz.prog W 0 (λ_=>true) true n 3 [v5]=some y5:=by
   have g:DataW.trod enc Tryz.prog W 0 (λ_=>true) true n 3 (([v0,v1,v2,v3,v4,v5].drop 5).take (Tryz.prog.cellsOf 3))=some y5:=hf 5 _ rfl
   rw[oc3] at g
   exact g
  obtain⟨op,e0,w0,q0⟩:=DataW.trod_int Tryz.underlying3 g0
  obtain⟨mon,e1,w1,d1⟩:=DataW.trod_string Tryz.underlying9 g1
  obtain⟨name,e2,w2,d2⟩:=DataW.trod_string Tryz.underlying9 g2
  obtain⟨k,e3,w3,q3⟩:=DataW.trod_int Tryz.underlying2 g3
  obtain⟨pos,e5,w5,q5⟩:=DataW.trod_int Tryz.underlying3 g5
  simp at e0 e1 e2 e3 e5
  subst e0 e1 e2 e3 e5
  clear hf h hlen hxl g0 g1 g2 g3 g5
  subst w0 w1 w2 w3 w5
  have hw1:∀z,z∈DataW.weightsEach Tryz.prog [3,9,9,2,46,3] [(DataW.lit (Lit.int IntKind.i64 op):DataW H),.lit (.string mon.data.toList),.lit (.string name.data.toList),.lit (.int .i64 k),y4.1,.lit (.int .i64 pos)]->z<=reachBytes:=by
   intro z hz
   refine hw z ?_
   show z∈DataW.weights Tryz.prog 48 (DataW.agg _)
   rw[DataW.weights,Tryz.underlying48]
   exact hz
  clear hw
  simp only[DataW.weightsEach,DataW.weights,List.nil_append,List.cons_append,List.append_nil,List.mem_cons,forall_eq_or_imp] at hw1
  obtain⟨m1,m2,m4⟩:=hw1
  have e3:reachBytes=140737488351232:=by decide
  rw[e3] at m1 m2
  have hl1:Len mon:=by unfold Len;simpa using m1
  have hl2:Len name:=by unfold Len;simpa using m2
  have base:I64 op/\I64 k/\I64 pos/\Len mon/\Len name:=⟨qa6 q0,qa6 q3,qa6 q5,hl1,hl2⟩
  rcases DataW.trod_slice Tryz.underlying46 g4 with ⟨hv,_⟩|⟨a,len,cap,elems,rest,n',rfl,hv,rfl,_,hlc,hcm,hel,hE,_,_⟩
  ·simp at hv
   subst hv
   exact⟨.mk op mon name k none 0 [] pos,rfl,Ex.Is.up ⟨base,⟨Nat.le_refl _,by unfold maxLen;omega,.inl rfl⟩,λx hx=>by cases hx⟩⟩
  ·simp at hv
   subst hv
   have hwe:∀z,z∈DataW.weightsAll Tryz.prog 48 (elems.map (·.1))->z<=reachBytes:=by
    intro z hz
    refine m4 z ?_
    show z∈DataW.weights Tryz.prog 46 (DataW.slice _ _)
    rw[DataW.weights,Tryz.underlying46]
    exact List.mem_cons_of_mem _ (List.mem_append.2 (.inl hz))
   have hwi:∀(i:Nat) (y:DataW H × List MemPlace),elems[i]?=some y->∀z∈y.1.weights Tryz.prog 48,z<=reachBytes:=by
    intro i y hy z hz
    exact hwe z (qe1 (List.mem_map.2 ⟨y,List.mem_of_getElem? hy,rfl⟩) hz)
   have each:∀i,i<len->∃e:Ex,W.cells? 0 (a.add (i*6)) 6=some e.cells/\e.Is W.heap.size W:=by
    intro i hi
    have hb:=hE i hi
    rw[qDh] at hb
    obtain⟨y,hy⟩:∃y,elems[i]?=some y:=⟨elems[i],List.getElem?_eq_getElem (by omega)⟩
    rw[hy] at hb
    obtain⟨cs',hc1,hc2⟩:=Option.bind_eq_some_iff.1 hb
    obtain⟨e,rfl,he⟩:=ih n' (by omega) cs' y hc2 (hwi i y hy)
    exact⟨e,hc1,he⟩
   haveI:Inhabited Ex:=⟨.mk 0 ⟨#[]⟩ ⟨#[]⟩ 0 none 0 [] 0⟩
   obtain⟨q,hq⟩:=choose_lt each
   refine⟨.mk op mon name k (some a) cap ((List.range len).map q) pos,by simp[Ex.cells],Ex.Is.up ⟨base,⟨by simpa using hlc,hcm,?_⟩,λx hx=>?_⟩⟩
   ·rcases Nat.eq_zero_or_pos len with h0|hpos
    ·subst h0;exact .inl rfl
    ·right
     obtain⟨b,off,spot⟩:=a
     have hc:=λi hi=>World.cells?_some (hq i hi).1
     have hbl:=World.cells?_block (hq 0 hpos).1 (by decide)
     have hspot:spot=none:=by
      have hex:(q 0).cells.length=6:=by cases q 0;rfl
      obtain⟨v,hv⟩:∃v,(q 0).cells[0]?=some v:=⟨_,List.getElem?_eq_getElem (by omega)⟩
      have h0:=(hc 0 hpos).2.2 0 (by decide)
      have h1:=World.cell?_spot (h0.trans hv)
      simpa[Addr.add] using h1
     subst hspot
     refine⟨b,off,rfl,by simpa[Addr.add] using hbl,?_⟩
     intro j hj i hi
     have hj':j<len:=by simpa using hj
     have h1:=(hc j hj').2.2 i hi
     rw[add_plain,add_plain] at h1
     simp only[List.getElem_map,List.getElem_range]
     exact h1
   ·obtain⟨i,hi,rfl⟩:=List.mem_map.1 hx
    exact (hq i (List.mem_range.1 hi)).2
