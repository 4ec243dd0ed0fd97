import Derived.Test.YthdkgfmlihgceaaGreatDoorHad
import Derived.Test.YthdkgfmlihgceaaGreatDoorHah
namespace Go.Proofs.YthdkgfmlihgceaaGreatDoor
set_option maxRecDepth 100000
open Go.ChangeShapes Go.WideShapes Go.ChangeAt Go.RowKit Go.Deep _root_.Go.Proofs.Tryz
theorem qgi {α:Type}(inh:Inhabited α) {H:Type}{enc:TypeId × Value->H}{W:World}{size:Nat}{cells:α->List Value}{Is:α->Prop}{t e:TypeId}{fuel:Nat}{cs:List Value}{x:DataW H × List MemPlace}
  (hu:prog.underlying t=some (.slice e)) (hce:prog.cellsOf e=size) (hlen:∀a,(cells a).length=size) (hpos:0<size)
  (h:DataW.trod enc prog W 0 (λ_=>true) true fuel t cs=some x) (hw:(∀k∈x.1.weights prog t,k<=reachBytes))
  (each:∀n',n'<fuel->∀cs x,DataW.trod enc prog W 0 (λ_=>true) true n' e cs=some x->(∀k∈x.1.weights prog e,k<=reachBytes)->∃a:α,cs=cells a/\Is a) :
  ∃(ad:Option Addr) (cap:Nat) (l:List α),cs=[.slice ad l.length cap]/\SlAt size cells W.heap.size W ad cap l/\∀a∈l,Is a:=by
 haveI:=inh
 rcases DataW.trod_slice hu h with ⟨hv,_⟩|⟨a,len,cap,elems,rest,n',rfl,hv,rfl,_,hlc,hcm,hel,hE,_,_⟩
 ·exact⟨none,0,[],hv,⟨Nat.le_refl _,by unfold maxLen;omega,.inl rfl⟩,λx hx=>by cases hx⟩
 ·have hwe:∀z,z∈DataW.weightsAll prog e (elems.map (·.1))->z<=reachBytes:=by
   intro z hz
   refine hw z ?_
   show z∈DataW.weights prog t (DataW.slice _ _)
   rw[DataW.weights,hu]
   exact List.mem_cons_of_mem _ (List.mem_append.2 (.inl hz))
  have hwi:∀(i:Nat) (y:DataW H × List MemPlace),elems[i]?=some y->∀z∈y.1.weights prog e,z<=reachBytes:=by
   intro i y hy z hz
   exact hwe z (qe1 (List.mem_map.2 ⟨y,List.mem_of_getElem? hy,rfl⟩) hz)
  have each2:∀i,i<len->∃q:α,W.cells? 0 (a.add (i*size)) size=some (cells q)/\Is q:=by
   intro i hi
   have hb:=hE i hi
   rw[hce] at hb
   obtain⟨y,hy⟩:∃y,elems[i]?=some y:=⟨elems[i],List.getElem?_eq_getElem (by omega)⟩
   rw[hy] at hb
   obtain⟨cs',hc1,hc2⟩:=Option.bind_eq_some_iff.1 hb
   obtain⟨q,rfl,hq⟩:=each n' (by omega) cs' y hc2 (hwi i y hy)
   exact⟨q,hc1,hq⟩
  obtain⟨q,hq⟩:=choose_lt each2
  refine⟨some a,cap,(List.range len).map q,by rw[hv];simp,⟨by simpa using hlc,hcm,?_⟩,λx hx=>?_⟩
  ·rcases Nat.eq_zero_or_pos len with h0|hp
   ·subst h0;exact .inl rfl
   ·right
    obtain⟨b,off,spot⟩:=a
    have hc:=λi hi=>World.cells?_some (hq i hi).1
    have hbl:=World.cells?_block (hq 0 hp).1 hpos
    have hspot:spot=none:=by
     obtain⟨v,hv⟩:∃v,(cells (q 0))[0]?=some v:=⟨_,List.getElem?_eq_getElem (by rw[hlen];exact hpos)⟩
     have h0:=(hc 0 hp).2.2 0 hpos
     have h1:=World.cell?_spot (h0.trans hv)
     simpa[Addr.add] using h1
    subst hspot
    refine⟨b,off,rfl,by simpa[Addr.add] using hbl,?_⟩
    intro j hj i hi
    have hj':j<len:=by simpa using hj
    have h1:=(hc j hj').2.2 i hi
    rw[add_plain,add_plain] at h1
    simp only[List.getElem_map,List.getElem_range]
    exact h1
  ·obtain⟨i,hi,rfl⟩:=List.mem_map.1 hx
   exact (hq i (List.mem_range.1 hi)).2
theorem oc4:prog.cellsOf 4=1:=by kernel_rfl
theorem qEf:prog.cellsOf 22=1:=by kernel_rfl
theorem qEg:prog.cellsOf 23=1:=by kernel_rfl
theorem qEh:prog.cellsOf 25=2:=by kernel_rfl
theorem qDi:prog.cellsOf 54=1:=by kernel_rfl
theorem qD1:prog.cellsOf 59=5:=by kernel_rfl
theorem qEj:prog.cellsOf 33=1:=by kernel_rfl
theorem qEk:prog.cellsOf 34=1:=by kernel_rfl
theorem qD2:prog.cellsOf 36=4:=by kernel_rfl
theorem qD3:prog.cellsOf 53=6:=by kernel_rfl
theorem qD4:prog.cellsOf 56=3:=by kernel_rfl
theorem qEl:prog.cellsOf 84=1:=by kernel_rfl
theorem qD5:prog.cellsOf 86=12:=by kernel_rfl
theorem qB2 {α:Type}{l:List α}(h:l.length=2):∃a0 a1,l=[a0,a1]:=by
 match l,h with
 | [a0,a1],_=>exact⟨a0,a1,rfl⟩
theorem qB3 {α:Type}{l:List α}(h:l.length=3):∃a0 a1 a2,l=[a0,a1,a2]:=by
 match l,h with
 | [a0,a1,a2],_=>exact⟨a0,a1,a2,rfl⟩
theorem qB4 {α:Type}{l:List α}(h:l.length=4):∃a0 a1 a2 a3,l=[a0,a1,a2,a3]:=by
 match l,h with
 | [a0,a1,a2,a3],_=>exact⟨a0,a1,a2,a3,rfl⟩
theorem qB5 {α:Type}{l:List α}(h:l.length=5):∃a0 a1 a2 a3 a4,l=[a0,a1,a2,a3,a4]:=by
 match l,h with
 | [a0,a1,a2,a3,a4],_=>exact⟨a0,a1,a2,a3,a4,rfl⟩
theorem qC8 {α:Type}{l:List α}(h:l.length=7):∃a0 a1 a2 a3 a4 a5 a6,l=[a0,a1,a2,a3,a4,a5,a6]:=by
 match l,h with
 | [a0,a1,a2,a3,a4,a5,a6],_=>exact⟨a0,a1,a2,a3,a4,a5,a6,rfl⟩
theorem qB1 {α:Type}{l:List α}(h:l.length=12):∃a0 a1 a2 a3 a4 a5 a6 a7 a8 a9 a10 a11,l=[a0,a1,a2,a3,a4,a5,a6,a7,a8,a9,a10,a11]:=by
 match l,h with
 | [a0,a1,a2,a3,a4,a5,a6,a7,a8,a9,a10,a11],_=>exact⟨a0,a1,a2,a3,a4,a5,a6,a7,a8,a9,a10,a11,rfl⟩
theorem qjf {H:Type}{enc:TypeId × Value->H}{W:World}{fuel:Nat}
  (ih:∀n',n'<fuel->∀cs x,DataW.trod enc prog W 0 (λ_=>true) true n' 86 cs=some x->(∀k∈x.1.weights prog 86,k<=reachBytes)->∃s:St,cs=s.cells/\s.Is W.heap.size W)
  (cs:List Value) (x:DataW H × List MemPlace) (h:DataW.trod enc prog W 0 (λ_=>true) true fuel 54 cs=some x) (hw:(∀k∈x.1.weights prog 54,k<=reachBytes)):∃b:Bl,cs=b.cells/\b.Is W.heap.size W:=by
 obtain⟨ad,cap,l,e,I,J⟩:=qgi ⟨.mk 0 ⟨#[]⟩ ⟨#[]⟩ 0 (.mk 0 ⟨#[]⟩ ⟨#[]⟩ 0 none 0 [] 0) none 0 [] 0⟩ (cells:=St.cells) (Is:=λs=>s.Is W.heap.size W) (size:=12) underlying54 qD5 qoe (by decide) h hw ih
 exact⟨.mk ad cap l,e,Bl.Is.up ⟨I,J⟩⟩
theorem qAk {H:Type}{enc:TypeId × Value->H}{W:World}(fuel:Nat):∀(cs:List Value) (x:DataW H × List MemPlace),DataW.trod enc prog W 0 (λ_=>true) true fuel 86 cs=some x->(∀k∈x.1.weights prog 86,k<=reachBytes)->∃s:St,cs=s.cells/\s.Is W.heap.size W:=by
 induction fuel using Nat.strongRecOn with
 | _ fuel ih =>
  intro cs x h hw
  obtain⟨xs,n,rfl,rfl,hlen,hxl,hf⟩:=DataW.trod_struct underlying86 h
  rw[qD5] at hlen
  obtain⟨v0,v1,v2,v3,v4,v5,v6,v7,v8,v9,v10,v11,rfl⟩:=qB1 hlen
  obtain⟨y0,y1,y2,y3,y4,y5,y6,rfl⟩:=qC8 (show xs.length=7 from hxl)
  have g0:DataW.trod enc prog W 0 (λ_=>true) true n 3 [v0]=some y0:=by
   have g:DataW.trod enc prog W 0 (λ_=>true) true n 3 (([v0,v1,v2,v3,v4,v5,v6,v7,v8,v9,v10,v11].drop 0).take (prog.cellsOf 3))=some y0:=hf 0 _ rfl
   rw[oc3] at g
   exact g
  have g1:DataW.trod enc prog W 0 (λ_=>true) true n 9 [v1]=some y1:=by
   have g:DataW.trod enc prog W 0 (λ_=>true) true n 9 (([v0,v1,v2,v3,v4,v5,v6,v7,v8,v9,v10,v11].drop 1).take (prog.cellsOf 9))=some y1:=hf 1 _ rfl
   rw[oc9] at g
   exact g
  have g2:DataW.trod enc prog W 0 (λ_=>true) true n 9 [v2]=some y2:=by
   have g:DataW.trod enc prog W 0 (λ_=>true) true n 9 (([v0,v1,v2,v3,v4,v5,v6,v7,v8,v9,v10,v11].drop 2).take (prog.cellsOf 9))=some y2:=hf 2 _ rfl
   rw[oc9] at g
   exact g
  have g3:DataW.trod enc prog W 0 (λ_=>true) true n 2 [v3]=some y3:=by
   have g:DataW.trod enc prog W 0 (λ_=>true) true n 2 (([v0,v1,v2,v3,v4,v5,v6,v7,v8,v9,v10,v11].drop 3).take (prog.cellsOf 2))=some y3:=hf 3 _ rfl
   rw[oc2] at g
   exact g
  have g4:DataW.trod enc prog W 0 (λ_=>true) true n 48 [v4,v5,v6,v7,v8,v9]=some y4:=by
   have g:DataW.trod enc prog W 0 (λ_=>true) true n 48 (([v0,v1,v2,v3,v4,v5,v6,v7,v8,v9,v10,v11].drop 4).take (prog.cellsOf 48))=some y4:=hf 4 _ rfl
   rw[qDh] at g
   exact g
  have g5:DataW.trod enc prog W 0 (λ_=>true) true n 84 [v10]=some y5:=by
   have g:DataW.trod enc prog W 0 (λ_=>true) true n 84 (([v0,v1,v2,v3,v4,v5,v6,v7,v8,v9,v10,v11].drop 10).take (prog.cellsOf 84))=some y5:=hf 5 _ rfl
   rw[qEl] at g
   exact g
  have g6:DataW.trod enc prog W 0 (λ_=>true) true n 3 [v11]=some y6:=by
   have g:DataW.trod enc prog W 0 (λ_=>true) true n 3 (([v0,v1,v2,v3,v4,v5,v6,v7,v8,v9,v10,v11].drop 11).take (prog.cellsOf 3))=some y6:=hf 6 _ rfl
   rw[oc3] at g
   exact g
  clear hf h hlen hxl
  have hw1:∀z,z∈DataW.weightsEach prog [3,9,9,2,48,84,3] [y0.1,y1.1,y2.1,y3.1,y4.1,y5.1,y6.1]->z<=reachBytes:=by
   intro z hz
   refine hw z ?_
   show z∈DataW.weights prog 86 (DataW.agg _)
   rw[DataW.weights,underlying86]
   exact hz
  simp only[DataW.weightsEach,List.mem_append] at hw1
  have m1:∀z∈y1.1.weights prog 9,z<=reachBytes:=λz hz=>hw1 z (.inr (.inl hz))
  have m2:∀z∈y2.1.weights prog 9,z<=reachBytes:=λz hz=>hw1 z (.inr (.inr (.inl hz)))
  have m4:∀z∈y4.1.weights prog 48,z<=reachBytes:=λz hz=>hw1 z (.inr (.inr (.inr (.inr (.inl hz)))))
  have m5:∀z∈y5.1.weights prog 84,z<=reachBytes:=λz hz=>hw1 z (.inr (.inr (.inr (.inr (.inr (.inl hz))))))
  clear hw hw1
  obtain⟨kind,e0,w0,q0⟩:=DataW.trod_int underlying3 g0
  simp at e0
  subst e0
  have I0:=qa6 q0
  clear g0
  obtain⟨mon,e1,w1,q1⟩:=DataW.trod_string underlying9 g1
  simp at e1
  subst e1
  have I1:Len mon:=by
   rw[w1] at m1
   have hh:=m1 mon.data.toList.length (by simp[DataW.weights])
   have e3:reachBytes=140737488351232:=by decide
   rw[e3] at hh
   unfold Len
   simpa using hh
  clear g1
  obtain⟨name,e2,w2,q2⟩:=DataW.trod_string underlying9 g2
  simp at e2
  subst e2
  have I2:Len name:=by
   rw[w2] at m2
   have hh:=m2 name.data.toList.length (by simp[DataW.weights])
   have e3:reachBytes=140737488351232:=by decide
   rw[e3] at hh
   unfold Len
   simpa using hh
  clear g2
  obtain⟨k,e3,w3,q3⟩:=DataW.trod_int underlying2 g3
  simp at e3
  subst e3
  have I3:=qa6 q3
  clear g3
  obtain⟨e,e4,I4⟩:=qAf n _ _ g4 m4
  clear g4
  obtain⟨bla,blc,bl,e5,I5,J5⟩:=qgi ⟨.mk none 0 []⟩ (cells:=Bl.cells) (Is:=λb=>b.Is W.heap.size W) (size:=1) underlying84 qDi (λb=>rfl) (by decide) g5 m5 (λn1 h1 cs x h hw=>qjf (λn2 h2=>ih n2 (by omega)) cs x h hw)
  simp at e5
  subst e5
  clear g5
  obtain⟨pos,e6,w6,q6⟩:=DataW.trod_int underlying3 g6
  simp at e6
  subst e6
  have I6:=qa6 q6
  clear g6
  refine⟨.mk kind mon name k e bla blc bl pos,?_,St.Is.up ⟨⟨I0,I3,I6,I1,I2⟩,I4,I5,J5⟩⟩
  simp only[St.cells,<- e4,List.cons_append,List.nil_append]
theorem qt9 {H:Type}{enc:TypeId × Value->H}{W:World}(fuel:Nat) (cs:List Value) (x:DataW H × List MemPlace) (h:DataW.trod enc prog W 0 (λ_=>true) true fuel 54 cs=some x) (hw:(∀k∈x.1.weights prog 54,k<=reachBytes)):∃b:Bl,cs=b.cells/\b.Is W.heap.size W:=
 qjf (λn' _=>qAk n') cs x h hw
theorem qAl {H:Type}{enc:TypeId × Value->H}{W:World}(fuel:Nat):∀(cs:List Value) (x:DataW H × List MemPlace),DataW.trod enc prog W 0 (λ_=>true) true fuel 53 cs=some x->(∀k∈x.1.weights prog 53,k<=reachBytes)->∃s:Va,cs=s.cells/\s.Is:=by
  intro cs x h hw
  obtain⟨xs,n,rfl,rfl,hlen,hxl,hf⟩:=DataW.trod_struct underlying53 h
  rw[qD3] at hlen
  obtain⟨v0,v1,v2,v3,v4,v5,rfl⟩:=qw4 hlen
  obtain⟨y0,y1,y2,y3,y4,y5,rfl⟩:=qw4 (show xs.length=6 from hxl)
  have g0:DataW.trod enc prog W 0 (λ_=>true) true n 9 [v0]=some y0:=by
   have g:DataW.trod enc prog W 0 (λ_=>true) true n 9 (([v0,v1,v2,v3,v4,v5].drop 0).take (prog.cellsOf 9))=some y0:=hf 0 _ rfl
   rw[oc9] at g
   exact g
  have g1:DataW.trod enc prog W 0 (λ_=>true) true n 3 [v1]=some y1:=by
   have g:DataW.trod enc prog W 0 (λ_=>true) true n 3 (([v0,v1,v2,v3,v4,v5].drop 1).take (prog.cellsOf 3))=some y1:=hf 1 _ rfl
   rw[oc3] at g
   exact g
  have g2:DataW.trod enc prog W 0 (λ_=>true) true n 2 [v2]=some y2:=by
   have g:DataW.trod enc prog W 0 (λ_=>true) true n 2 (([v0,v1,v2,v3,v4,v5].drop 2).take (prog.cellsOf 2))=some y2:=hf 2 _ rfl
   rw[oc2] at g
   exact g
  have g3:DataW.trod enc prog W 0 (λ_=>true) true n 2 [v3]=some y3:=by
   have g:DataW.trod enc prog W 0 (λ_=>true) true n 2 (([v0,v1,v2,v3,v4,v5].drop 3).take (prog.cellsOf 2))=some y3:=hf 3 _ rfl
   rw[oc2] at g
   exact g
  have g4:DataW.trod enc prog W 0 (λ_=>true) true n 2 [v4]=some y4:=by
   have g:DataW.trod enc prog W 0 (λ_=>true) true n 2 (([v0,v1,v2,v3,v4,v5].drop 4).take (prog.cellsOf 2))=some y4:=hf 4 _ rfl
   rw[oc2] at g
   exact g
  have g5:DataW.trod enc prog W 0 (λ_=>true) true n 3 [v5]=some y5:=by
   have g:DataW.trod enc prog W 0 (λ_=>true) true n 3 (([v0,v1,v2,v3,v4,v5].drop 5).take (prog.cellsOf 3))=some y5:=hf 5 _ rfl
   rw[oc3] at g
   exact g
  clear hf h hlen hxl
  have hw1:∀z,z∈DataW.weightsEach prog [9,3,2,2,2,3] [y0.1,y1.1,y2.1,y3.1,y4.1,y5.1]->z<=reachBytes:=by
   intro z hz
   refine hw z ?_
   show z∈DataW.weights prog 53 (DataW.agg _)
   rw[DataW.weights,underlying53]
   exact hz
  simp only[DataW.weightsEach,List.mem_append] at hw1
  have m0:∀z∈y0.1.weights prog 9,z<=reachBytes:=λz hz=>hw1 z (.inl hz)
  clear hw hw1
  obtain⟨name,e0,w0,q0⟩:=DataW.trod_string underlying9 g0
  simp at e0
  subst e0
  have I0:Len name:=by
   rw[w0] at m0
   have hh:=m0 name.data.toList.length (by simp[DataW.weights])
   have e3:reachBytes=140737488351232:=by decide
   rw[e3] at hh
   unfold Len
   simpa using hh
  clear g0
  obtain⟨type,e1,w1,q1⟩:=DataW.trod_int underlying3 g1
  simp at e1
  subst e1
  have I1:=qa6 q1
  clear g1
  obtain⟨lo,e2,w2,q2⟩:=DataW.trod_int underlying2 g2
  simp at e2
  subst e2
  have I2:=qa6 q2
  clear g2
  obtain⟨hi,e3,w3,q3⟩:=DataW.trod_int underlying2 g3
  simp at e3
  subst e3
  have I3:=qa6 q3
  clear g3
  obtain⟨init,e4,w4,q4⟩:=DataW.trod_int underlying2 g4
  simp at e4
  subst e4
  have I4:=qa6 q4
  clear g4
  obtain⟨pos,e5,w5,q5⟩:=DataW.trod_int underlying3 g5
  simp at e5
  subst e5
  have I5:=qa6 q5
  clear g5
  exact⟨⟨name,type,lo,hi,init,pos⟩,rfl,I0,I1,I2,I3,I4,I5⟩
theorem qAg {H:Type}{enc:TypeId × Value->H}{W:World}(fuel:Nat):∀(cs:List Value) (x:DataW H × List MemPlace),DataW.trod enc prog W 0 (λ_=>true) true fuel 56 cs=some x->(∀k∈x.1.weights prog 56,k<=reachBytes)->∃s:Me,cs=s.cells/\s.Is W.heap.size W:=by
  intro cs x h hw
  obtain⟨xs,n,rfl,rfl,hlen,hxl,hf⟩:=DataW.trod_struct underlying56 h
  rw[qD4] at hlen
  obtain⟨v0,v1,v2,rfl⟩:=qB3 hlen
  obtain⟨y0,y1,y2,rfl⟩:=qB3 (show xs.length=3 from hxl)
  have g0:DataW.trod enc prog W 0 (λ_=>true) true n 9 [v0]=some y0:=by
   have g:DataW.trod enc prog W 0 (λ_=>true) true n 9 (([v0,v1,v2].drop 0).take (prog.cellsOf 9))=some y0:=hf 0 _ rfl
   rw[oc9] at g
   exact g
  have g1:DataW.trod enc prog W 0 (λ_=>true) true n 54 [v1]=some y1:=by
   have g:DataW.trod enc prog W 0 (λ_=>true) true n 54 (([v0,v1,v2].drop 1).take (prog.cellsOf 54))=some y1:=hf 1 _ rfl
   rw[qDi] at g
   exact g
  have g2:DataW.trod enc prog W 0 (λ_=>true) true n 3 [v2]=some y2:=by
   have g:DataW.trod enc prog W 0 (λ_=>true) true n 3 (([v0,v1,v2].drop 2).take (prog.cellsOf 3))=some y2:=hf 2 _ rfl
   rw[oc3] at g
   exact g
  clear hf h hlen hxl
  have hw1:∀z,z∈DataW.weightsEach prog [9,54,3] [y0.1,y1.1,y2.1]->z<=reachBytes:=by
   intro z hz
   refine hw z ?_
   show z∈DataW.weights prog 56 (DataW.agg _)
   rw[DataW.weights,underlying56]
   exact hz
  simp only[DataW.weightsEach,List.mem_append] at hw1
  have m0:∀z∈y0.1.weights prog 9,z<=reachBytes:=λz hz=>hw1 z (.inl hz)
  have m1:∀z∈y1.1.weights prog 54,z<=reachBytes:=λz hz=>hw1 z (.inr (.inl hz))
  clear hw hw1
  obtain⟨name,e0,w0,q0⟩:=DataW.trod_string underlying9 g0
  simp at e0
  subst e0
  have I0:Len name:=by
   rw[w0] at m0
   have hh:=m0 name.data.toList.length (by simp[DataW.weights])
   have e3:reachBytes=140737488351232:=by decide
   rw[e3] at hh
   unfold Len
   simpa using hh
  clear g0
  obtain⟨body,e1,I1⟩:=qt9 n _ _ g1 m1
  simp only[Bl.cells,List.cons.injEq,and_true] at e1
  subst e1
  clear g1
  obtain⟨pos,e2,w2,q2⟩:=DataW.trod_int underlying3 g2
  simp at e2
  subst e2
  have I2:=qa6 q2
  clear g2
  exact⟨⟨name,body,pos⟩,rfl,I0,I2,I1⟩
theorem qAh {H:Type}{enc:TypeId × Value->H}{W:World}(fuel:Nat):∀(cs:List Value) (x:DataW H × List MemPlace),DataW.trod enc prog W 0 (λ_=>true) true fuel 36 cs=some x->(∀k∈x.1.weights prog 36,k<=reachBytes)->∃s:Mo,cs=s.cells/\s.Is W.heap.size W:=by
  intro cs x h hw
  obtain⟨xs,n,rfl,rfl,hlen,hxl,hf⟩:=DataW.trod_struct underlying36 h
  rw[qD2] at hlen
  obtain⟨v0,v1,v2,v3,rfl⟩:=qB4 hlen
  obtain⟨y0,y1,y2,y3,rfl⟩:=qB4 (show xs.length=4 from hxl)
  have g0:DataW.trod enc prog W 0 (λ_=>true) true n 9 [v0]=some y0:=by
   have g:DataW.trod enc prog W 0 (λ_=>true) true n 9 (([v0,v1,v2,v3].drop 0).take (prog.cellsOf 9))=some y0:=hf 0 _ rfl
   rw[oc9] at g
   exact g
  have g1:DataW.trod enc prog W 0 (λ_=>true) true n 33 [v1]=some y1:=by
   have g:DataW.trod enc prog W 0 (λ_=>true) true n 33 (([v0,v1,v2,v3].drop 1).take (prog.cellsOf 33))=some y1:=hf 1 _ rfl
   rw[qEj] at g
   exact g
  have g2:DataW.trod enc prog W 0 (λ_=>true) true n 34 [v2]=some y2:=by
   have g:DataW.trod enc prog W 0 (λ_=>true) true n 34 (([v0,v1,v2,v3].drop 2).take (prog.cellsOf 34))=some y2:=hf 2 _ rfl
   rw[qEk] at g
   exact g
  have g3:DataW.trod enc prog W 0 (λ_=>true) true n 3 [v3]=some y3:=by
   have g:DataW.trod enc prog W 0 (λ_=>true) true n 3 (([v0,v1,v2,v3].drop 3).take (prog.cellsOf 3))=some y3:=hf 3 _ rfl
   rw[oc3] at g
   exact g
  clear hf h hlen hxl
  have hw1:∀z,z∈DataW.weightsEach prog [9,33,34,3] [y0.1,y1.1,y2.1,y3.1]->z<=reachBytes:=by
   intro z hz
   refine hw z ?_
   show z∈DataW.weights prog 36 (DataW.agg _)
   rw[DataW.weights,underlying36]
   exact hz
  simp only[DataW.weightsEach,List.mem_append] at hw1
  have m0:∀z∈y0.1.weights prog 9,z<=reachBytes:=λz hz=>hw1 z (.inl hz)
  have m1:∀z∈y1.1.weights prog 33,z<=reachBytes:=λz hz=>hw1 z (.inr (.inl hz))
  have m2:∀z∈y2.1.weights prog 34,z<=reachBytes:=λz hz=>hw1 z (.inr (.inr (.inl hz)))
  clear hw hw1
  obtain⟨name,e0,w0,q0⟩:=DataW.trod_string underlying9 g0
  simp at e0
  subst e0
  have I0:Len name:=by
   rw[w0] at m0
   have hh:=m0 name.data.toList.length (by simp[DataW.weights])
   have e3:reachBytes=140737488351232:=by decide
   rw[e3] at hh
   unfold Len
   simpa using hh
  clear g0
  obtain⟨vsa,vsc,vs,e1,I1,J1⟩:=qgi ⟨⟨⟨#[]⟩,0,0,0,0,0⟩⟩ (cells:=Va.cells) (Is:=Va.Is) (size:=6) underlying33 qD3 (λb=>rfl) (by decide) g1 m1 (λn1 _=>qAl n1)
  simp at e1
  subst e1
  clear g1
  obtain⟨msa,msc,ms,e2,I2,J2⟩:=qgi ⟨⟨⟨#[]⟩,.mk none 0 [],0⟩⟩ (cells:=Me.cells) (Is:=λm=>m.Is W.heap.size W) (size:=3) underlying34 qD4 (λb=>rfl) (by decide) g2 m2 (λn1 _=>qAg n1)
  simp at e2
  subst e2
  clear g2
  obtain⟨pos,e3,w3,q3⟩:=DataW.trod_int underlying3 g3
  simp at e3
  subst e3
  have I3:=qa6 q3
  clear g3
  exact⟨⟨name,vsa,vsc,vs,msa,msc,ms,pos⟩,rfl,⟨I0,I3⟩,⟨I1,J1⟩,I2,J2⟩
theorem qAj {H:Type}{enc:TypeId × Value->H}{W:World}(fuel:Nat):∀(cs:List Value) (x:DataW H × List MemPlace),DataW.trod enc prog W 0 (λ_=>true) true fuel 59 cs=some x->(∀k∈x.1.weights prog 59,k<=reachBytes)->∃s:Ro,cs=s.cells/\s.Is W.heap.size W:=by
  intro cs x h hw
  obtain⟨xs,n,rfl,rfl,hlen,hxl,hf⟩:=DataW.trod_struct underlying59 h
  rw[qD1] at hlen
  obtain⟨v0,v1,v2,v3,v4,rfl⟩:=qB5 hlen
  obtain⟨y0,y1,y2,y3,y4,rfl⟩:=qB5 (show xs.length=5 from hxl)
  have g0:DataW.trod enc prog W 0 (λ_=>true) true n 9 [v0]=some y0:=by
   have g:DataW.trod enc prog W 0 (λ_=>true) true n 9 (([v0,v1,v2,v3,v4].drop 0).take (prog.cellsOf 9))=some y0:=hf 0 _ rfl
   rw[oc9] at g
   exact g
  have g1:DataW.trod enc prog W 0 (λ_=>true) true n 4 [v1]=some y1:=by
   have g:DataW.trod enc prog W 0 (λ_=>true) true n 4 (([v0,v1,v2,v3,v4].drop 1).take (prog.cellsOf 4))=some y1:=hf 1 _ rfl
   rw[oc4] at g
   exact g
  have g2:DataW.trod enc prog W 0 (λ_=>true) true n 2 [v2]=some y2:=by
   have g:DataW.trod enc prog W 0 (λ_=>true) true n 2 (([v0,v1,v2,v3,v4].drop 2).take (prog.cellsOf 2))=some y2:=hf 2 _ rfl
   rw[oc2] at g
   exact g
  have g3:DataW.trod enc prog W 0 (λ_=>true) true n 54 [v3]=some y3:=by
   have g:DataW.trod enc prog W 0 (λ_=>true) true n 54 (([v0,v1,v2,v3,v4].drop 3).take (prog.cellsOf 54))=some y3:=hf 3 _ rfl
   rw[qDi] at g
   exact g
  have g4:DataW.trod enc prog W 0 (λ_=>true) true n 3 [v4]=some y4:=by
   have g:DataW.trod enc prog W 0 (λ_=>true) true n 3 (([v0,v1,v2,v3,v4].drop 4).take (prog.cellsOf 3))=some y4:=hf 4 _ rfl
   rw[oc3] at g
   exact g
  clear hf h hlen hxl
  have hw1:∀z,z∈DataW.weightsEach prog [9,4,2,54,3] [y0.1,y1.1,y2.1,y3.1,y4.1]->z<=reachBytes:=by
   intro z hz
   refine hw z ?_
   show z∈DataW.weights prog 59 (DataW.agg _)
   rw[DataW.weights,underlying59]
   exact hz
  simp only[DataW.weightsEach,List.mem_append] at hw1
  have m0:∀z∈y0.1.weights prog 9,z<=reachBytes:=λz hz=>hw1 z (.inl hz)
  have m3:∀z∈y3.1.weights prog 54,z<=reachBytes:=λz hz=>hw1 z (.inr (.inr (.inr (.inl hz))))
  clear hw hw1
  obtain⟨name,e0,w0,q0⟩:=DataW.trod_string underlying9 g0
  simp at e0
  subst e0
  have I0:Len name:=by
   rw[w0] at m0
   have hh:=m0 name.data.toList.length (by simp[DataW.weights])
   have e3:reachBytes=140737488351232:=by decide
   rw[e3] at hh
   unfold Len
   simpa using hh
  clear g0
  obtain⟨star,e1,w1⟩:=DataW.trod_bool underlying4 g1
  simp at e1
  subst e1
  clear g1
  obtain⟨count,e2,w2,q2⟩:=DataW.trod_int underlying2 g2
  simp at e2
  subst e2
  have I2:=qa6 q2
  clear g2
  obtain⟨body,e3,I3⟩:=qt9 n _ _ g3 m3
  simp only[Bl.cells,List.cons.injEq,and_true] at e3
  subst e3
  clear g3
  obtain⟨pos,e4,w4,q4⟩:=DataW.trod_int underlying3 g4
  simp at e4
  subst e4
  have I4:=qa6 q4
  clear g4
  exact⟨⟨name,star,count,body,pos⟩,rfl,I0,I2,I4,I3⟩
theorem qAi {H:Type}{enc:TypeId × Value->H}{W:World}(fuel:Nat):∀(cs:List Value) (x:DataW H × List MemPlace),DataW.trod enc prog W 0 (λ_=>true) true fuel 25 cs=some x->(∀k∈x.1.weights prog 25,k<=reachBytes)->∃p:Pr,cs=[.slice p.mad p.mons.length p.mcap,.slice p.rad p.roles.length p.rcap]/\p.Is W.heap.size W:=by
  intro cs x h hw
  obtain⟨xs,n,rfl,rfl,hlen,hxl,hf⟩:=DataW.trod_struct underlying25 h
  rw[qEh] at hlen
  obtain⟨v0,v1,rfl⟩:=qB2 hlen
  obtain⟨y0,y1,rfl⟩:=qB2 (show xs.length=2 from hxl)
  have g0:DataW.trod enc prog W 0 (λ_=>true) true n 22 [v0]=some y0:=by
   have g:DataW.trod enc prog W 0 (λ_=>true) true n 22 (([v0,v1].drop 0).take (prog.cellsOf 22))=some y0:=hf 0 _ rfl
   rw[qEf] at g
   exact g
  have g1:DataW.trod enc prog W 0 (λ_=>true) true n 23 [v1]=some y1:=by
   have g:DataW.trod enc prog W 0 (λ_=>true) true n 23 (([v0,v1].drop 1).take (prog.cellsOf 23))=some y1:=hf 1 _ rfl
   rw[qEg] at g
   exact g
  clear hf h hlen hxl
  have hw1:∀z,z∈DataW.weightsEach prog [22,23] [y0.1,y1.1]->z<=reachBytes:=by
   intro z hz
   refine hw z ?_
   show z∈DataW.weights prog 25 (DataW.agg _)
   rw[DataW.weights,underlying25]
   exact hz
  simp only[DataW.weightsEach,List.mem_append] at hw1
  have m0:∀z∈y0.1.weights prog 22,z<=reachBytes:=λz hz=>hw1 z (.inl hz)
  have m1:∀z∈y1.1.weights prog 23,z<=reachBytes:=λz hz=>hw1 z (.inr (.inl hz))
  clear hw hw1
  obtain⟨msa,msc,ms,e0,I0,J0⟩:=qgi ⟨⟨⟨#[]⟩,none,0,[],none,0,[],0⟩⟩ (cells:=Mo.cells) (Is:=λm=>m.Is W.heap.size W) (size:=4) underlying22 qD2 (λb=>rfl) (by decide) g0 m0 (λn1 _=>qAh n1)
  simp at e0
  subst e0
  clear g0
  obtain⟨rsa,rsc,rs,e1,I1,J1⟩:=qgi ⟨⟨⟨#[]⟩,false,0,.mk none 0 [],0⟩⟩ (cells:=Ro.cells) (Is:=λm=>m.Is W.heap.size W) (size:=5) underlying23 qD1 (λb=>rfl) (by decide) g1 m1 (λn1 _=>qAj n1)
  simp at e1
  subst e1
  clear g1
  exact⟨⟨msa,msc,ms,rsa,rsc,rs⟩,rfl,⟨I0,J0⟩,I1,J1⟩
theorem qua {H:Type}{enc:TypeId × Value->H}{W:World}{v:Value}{d:DataW H}{ps:List MemPlace}(hv:∃c,v=.agg c/\c.size=prog.cellsOf 25) (h:DataW.Trod enc prog W 0 (λ_=>true) true 25 v d ps) (hw:∀k∈d.weights prog 25,k<=reachBytes) :
  ∃p:Pr,v=p.val/\p.Is W.heap.size W:=by
 obtain⟨c,rfl,_⟩:=hv
 obtain⟨fuel,hf⟩:=h
 obtain⟨p,he,hI⟩:=qAi fuel _ _ hf hw
 refine⟨p,?_,hI⟩
 have hc:c.toList=[.slice p.mad p.mons.length p.mcap,.slice p.rad p.roles.length p.rcap]:=by simpa[Value.cells] using he
 show Value.agg c=Value.agg [.slice p.mad p.mons.length p.mcap,.slice p.rad p.roles.length p.rcap].toArray
 rw[<- hc]
