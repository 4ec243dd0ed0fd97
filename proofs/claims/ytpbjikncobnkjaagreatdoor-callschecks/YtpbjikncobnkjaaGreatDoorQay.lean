/-
  Own texts joined by program: ClV ClN ClO ClP ClQ ClW ClX.
-/
import Derived.Test.YtpbjikncobnkjaaGreatDoorQax
namespace Go.Proofs.YtpbjikncobnkjaaGreatDoor
open Go.RowKit
theorem num_any (x:Int) (w:World):Calls Tryz.prog 9 #[.int .i64 x] w fun r w'=>r=.returned (.int .i64 x)∧w'=w:=by
 go_enter Tryz.func9,Tryz.ntmps9
 go_wp2
 go_ret
 exact⟨rfl,rfl⟩
def lvC:St:=.mk 8 ⟨#[77]⟩ ⟨#[102]⟩ 0 zeroEx none 0 [] 3
def lvS:St:=.mk 1 ⟨#[]⟩ ⟨#[]⟩ 0 zeroEx none 0 [] 0
def lvX (g:Nat):Bl:=.mk (some ⟨g,0,none⟩) 2 [lvC,lvC]
def lvP (g1 g2 g3:Nat) (s:St) (pos:Int):Pr where
 mad:=some ⟨g3,0,none⟩
 mcap:=1
 mons:=[⟨⟨#[77]⟩,none,0,[],some ⟨g2,0,none⟩,1,[⟨⟨#[102]⟩,.mk (some ⟨g1,0,none⟩) 1 [s],pos⟩],0⟩]
 rad:=none
 rcap:=0
 roles:=[]
theorem lv1 (g1 g2 g3 g:Nat):countOf (lvP g1 g2 g3 lvS 0) (lvX g)=(4,0):=by kernel_rfl
theorem lv2 (g:Nat):callsOf (lvX g)=[(⟨#[77]⟩,⟨#[102]⟩)]:=by kernel_rfl
theorem lv3 (g1 g2 g3 g:Nat):(lvX g).inl (inlR (lvP g1 g2 g3 lvS 0) (reachedOf (lvP g1 g2 g3 lvS 0) (callsOf (lvX g))).length)=.mk none 0 [.mk 7 ⟨#[77]⟩ ⟨#[]⟩ 0 zeroEx none 0 [.mk none 0 [lvS]] 3,.mk 7 ⟨#[77]⟩ ⟨#[]⟩ 0 zeroEx none 0 [.mk none 0 [lvS]] 3]:=by kernel_rfl
theorem lv4 (g1 g2 g3:Nat):(lvP g1 g2 g3 lvC 9).cchk=(80,9):=by kernel_rfl
theorem lvC_is (n:Nat) (W:World):lvC.Is n W:=St.Is.up ⟨⟨⟨by decide,by decide⟩,⟨by decide,by decide⟩,⟨by decide,by decide⟩,by unfold Len;decide,by unfold Len;decide⟩,zeroEx_is _ _,⟨by simp,by unfold maxLen;simp,.inl rfl⟩,fun x hx=>by cases hx⟩
theorem lvS_is (n:Nat) (W:World):lvS.Is n W:=St.Is.up ⟨⟨⟨by decide,by decide⟩,⟨by decide,by decide⟩,⟨by decide,by decide⟩,by unfold Len;decide,by unfold Len;decide⟩,zeroEx_is _ _,⟨by simp,by unfold maxLen;simp,.inl rfl⟩,fun x hx=>by cases hx⟩
theorem lvX_is {W:World} {g n:Nat} (hg:W.heap[g]?=some (.cells (lvC.cells++lvC.cells).toArray 64 (0,0))) (hn:g<n):(lvX g).Is n W:=by
 refine Bl.Is.up ⟨⟨by simp,by unfold maxLen;simp,.inr ⟨g,0,rfl,hn,fun j hj i hi=>?_⟩⟩,fun s hs=>?_⟩
 ·rw[Nat.zero_add,cellOf hg]
  have hj2:j<2:=by simpa using hj
  rcases j with _|_|j
  ·rcases i with _|_|_|_|_|_|_|_|_|_|_|_|i <;> first|rfl|omega
  ·rcases i with _|_|_|_|_|_|_|_|_|_|_|_|i <;> first|rfl|omega
  ·omega
 ·have:s=lvC:=by simpa using hs
  rw[this];exact lvC_is _ _
theorem lvP_is {W:World} {g1 g2 g3 n:Nat} {s:St} {pos:Int} (h1:W.heap[g1]?=some (.cells s.cells.toArray 64 (0,0))) (h2:W.heap[g2]?=some (.cells #[.string ⟨#[102]⟩,.slice (some ⟨g1,0,none⟩) 1 1,.int .i64 pos] 56 (0,0))) (h3:W.heap[g3]?=some (.cells #[.string ⟨#[77]⟩,.slice none 0 0,.slice (some ⟨g2,0,none⟩) 1 1,.int .i64 0] 52 (0,0)))
  (hn:g1<n∧g2<n∧g3<n) (hs:s.Is n W) (hp:I64 pos):(lvP g1 g2 g3 s pos).Is n W:=by
 refine⟨⟨⟨by simp[lvP],by unfold maxLen;simp[lvP],.inr ⟨g3,0,rfl,hn.2.2,fun j hj i hi=>?_⟩⟩,fun m hm=>?_⟩,⟨by simp[lvP],by unfold maxLen;simp[lvP],.inl rfl⟩,fun r hr=>by simp[lvP] at hr⟩
 ·rw[Nat.zero_add,cellOf h3]
  have hj2:j=0:=by simp[lvP] at hj;omega
  subst hj2
  rcases i with _|_|_|_|i <;> first|rfl|omega
 ·simp only[lvP,List.mem_cons,List.not_mem_nil,or_false] at hm
  subst hm
  refine⟨⟨by show (ByteArray.mk #[77]).size≤140737488351232;decide,⟨by show (-9223372036854775808:Int)≤0;decide,by show (0:Int)≤9223372036854775807;decide⟩⟩,⟨⟨by simp,by unfold maxLen;simp,.inl rfl⟩,fun v hv=>by simp at hv⟩,⟨by simp,by unfold maxLen;simp,.inr ⟨g2,0,rfl,hn.2.1,fun j hj i hi=>?_⟩⟩,fun x hx=>?_⟩
  ·rw[Nat.zero_add,cellOf h2]
   have hj2:j=0:=by simp at hj;omega
   subst hj2
   rcases i with _|_|_|i <;> first|rfl|omega
  ·have:x=⟨⟨#[102]⟩,.mk (some ⟨g1,0,none⟩) 1 [s],pos⟩:=by simpa using hx
   subst this
   refine⟨by show (ByteArray.mk #[102]).size≤140737488351232;decide,hp,Bl.Is.up ⟨⟨by simp,by unfold maxLen;simp,.inr ⟨g1,0,rfl,hn.1,fun j hj i hi=>?_⟩⟩,fun t ht=>?_⟩⟩
   ·rw[Nat.zero_add,cellOf h1]
    have hj2:j=0:=by simp at hj;omega
    subst hj2
    rw[Nat.zero_mul,Nat.zero_add];simp
   ·have:t=s:=by simpa using ht
    rw[this];exact hs
theorem lv_leads (g1 g2 g3:Nat) (s:St) (pos:Int) (r:Ref):bodyOf (lvP g1 g2 g3 s pos) r=.mk (some ⟨g1,0,none⟩) 1 [s]∨bodyOf (lvP g1 g2 g3 s pos) r=.mk none 0 []:=by
 unfold bodyOf
 cases h:methIx (lvP g1 g2 g3 s pos).mons r.1 r.2 with
 | none=>exact .inr rfl
 | some f =>
  obtain⟨m,hm,hf⟩:=methIx_mem h
  simp only[lvP,List.mem_cons,List.not_mem_nil,or_false] at hm
  subst hm
  have:f=⟨⟨#[102]⟩,.mk (some ⟨g1,0,none⟩) 1 [s],pos⟩:=by simpa using hf
  subst this
  exact .inl rfl
theorem lv_fine (g1 g2 g3:Nat) (s:St) (pos:Int) (hs:s.subs=[s]) (hb:s.blocks=[]):Fine (lvP g1 g2 g3 s pos):=by
 have hsub:(Bl.mk (some ⟨g1,0,none⟩) 1 [s]).subs=[s]:=by rw[Bl.subs_mk];simp[hs]
 have hlen:(callsOf (Bl.mk (some ⟨g1,0,none⟩) 1 [s])).length≤1:=by
  have:=callsA_len (Bl.mk (some ⟨g1,0,none⟩) 1 [s]).subs []
  rw[hsub] at this
  unfold callsOf
  rw[hsub];simpa using this
 have hm:∀ m∈(lvP g1 g2 g3 s pos).mons,∀ f∈m.meths,f.body=.mk (some ⟨g1,0,none⟩) 1 [s]:=by
  intro m hm f hf
  simp only[lvP,List.mem_cons,List.not_mem_nil,or_false] at hm
  subst hm
  have:f=⟨⟨#[102]⟩,.mk (some ⟨g1,0,none⟩) 1 [s],pos⟩:=by simpa using hf
  subst this;rfl
 refine⟨fun m h f h2=>?_,fun m h f h2=>?_,fun m h f h2 t ht=>?_,?_,fun r=>?_⟩
 ·rw[hm m h f h2,hsub];simp
 ·rw[hm m h f h2];simp[Bl.body]
 ·rw[hm m h f h2,hsub] at ht
  have:t=s:=by simpa using ht
  rw[this,hb];simp
 ·simp only[allRefs,lvP,List.flatMap_cons,List.flatMap_nil,List.append_nil]
  omega
 ·unfold leadsOf
  rcases lv_leads g1 g2 g3 s pos r with h|h
  ·rw[h];omega
  ·rw[h,callsOf,Bl.subs_mk];simp[callsA]
theorem lvX_fine (g:Nat):FineB (lvX g):=by
 have h:(lvX g).subs=[lvC,lvC]:=by kernel_rfl
 refine⟨by rw[h];simp,fun s hs=>?_⟩
 rw[h] at hs
 have:s=lvC:=by simpa using hs
 rw[this];simp[lvC,St.blocks]
theorem five_box (w:World) (a b c d e:Array Value) (s t u v x:TypeId):let W:=((((w.alloc (.cells a s)).alloc (.cells b t)).alloc (.cells c u)).alloc (.cells d v)).alloc (.cells e x)
  W.heap[w.heap.size]?=some (.cells a s (0,0))∧W.heap[w.heap.size+1]?=some (.cells b t (0,0))∧W.heap[w.heap.size+1+1]?=some (.cells c u (0,0))∧W.heap[w.heap.size+1+1+1]?=some (.cells d v (0,0))∧W.heap[w.heap.size+1+1+1+1]?=some (.cells e x (0,0))∧Below w.heap.size w W∧W.heap.size=w.heap.size+5:=by
 obtain⟨h1,h2,h3,h4,h5⟩:=three_box w a b c s t u
 have h6:∀ o,(((w.alloc (.cells a s)).alloc (.cells b t)).alloc (.cells c u)).alloc o=(((w.alloc (.cells a s)).alloc (.cells b t)).alloc (.cells c u)).alloc o:=fun _=>rfl
 obtain⟨k1,k2,k3,k4⟩:=two_box (((w.alloc (.cells a s)).alloc (.cells b t)).alloc (.cells c u)) d e v x
 rw[h5] at k1 k2 k3 k4
 exact⟨(k3.block _ (by omega)).trans h1,(k3.block _ (by omega)).trans h2,(k3.block _ (by omega)).trans h3,k1,k2,h4.trans (k3.mono (by omega)),by rw[k4]⟩
theorem clr_two {ad:Option Addr} {cap:Nat} {body:List St} {A B:St} (h:(Bl.mk ad cap body).clr=.mk none 0 [A,B]):∃ s t,body=[s,t]∧s.clr=A∧t.clr=B:=by
 rw[Bl.clr_mk] at h
 have h:body.map St.clr=[A,B]:=by injection h
 match body,h with
 | [s,t],h=>simp at h;exact⟨s,t,rfl,h.1,h.2⟩
theorem clr_st {s:St} {kind:Int} {mon name:ByteArray} {n:Int} {e:Ex} {X:Bl} {pos:Int} (h:s.clr=.mk kind mon name n e none 0 [X] pos):∃ ad cap y,s=.mk kind mon name n e ad cap [y] pos∧y.clr=X:=by
 rcases s with ⟨k,m,nm,nn,ee,ad,cap,blocks,ps⟩
 rw[St.clr_mk] at h
 injection h with h1 h2 h3 h4 h5 _ _ h6 h7
 subst h1 h2 h3 h4 h5 h7
 match blocks,h6 with
 | [y],h6=>simp at h6;exact⟨ad,cap,y,rfl,h6⟩
theorem clr_one {y:Bl} {A:St} (h:y.clr=.mk none 0 [A]):∃ ad cap t,y=.mk ad cap [t]:=by
 rcases y with ⟨ad,cap,body⟩
 rw[Bl.clr_mk] at h
 have h:body.map St.clr=[A]:=by injection h
 match body,h with
 | [t],_=>exact⟨ad,cap,t,rfl⟩
set_option maxRecDepth 100000 in
set_option maxHeartbeats 16000000 in
theorem live_any (w:World) (hS:Shapes w) (hS3:3≤w.heap.size):Calls Tryz.prog 6 #[] w fun r w'=>r=.returned (.bool true)∧Below w.heap.size w w':=by
 go_enter Tryz.func6,Tryz.ntmps6
 go_upto_region 3 with fail
 obtain⟨b0,b1,b2,b3,b4,hB0,hz0⟩:=five_box w #[.int .i64 8,.string ⟨#[77]⟩,.string ⟨#[102]⟩,.int .i64 0,.int .i64 0,.string ⟨#[]⟩,.string ⟨#[]⟩,.int .i64 0,.slice none 0 0,.int .i64 0,.slice none 0 0,.int .i64 3] #[.int .i64 1,.string ⟨#[]⟩,.string ⟨#[]⟩,.int .i64 0,.int .i64 0,.string ⟨#[]⟩,.string ⟨#[]⟩,.int .i64 0,.slice none 0 0,.int .i64 0,.slice none 0 0,.int .i64 0] #[.string ⟨#[102]⟩,.slice (some ⟨w.heap.size+1,0,none⟩) 1 1,.int .i64 0] #[.string ⟨#[77]⟩,.slice none 0 0,.slice (some ⟨w.heap.size+1+1,0,none⟩) 1 1,.int .i64 0] #[.slice (some ⟨w.heap.size+1+1+1,0,none⟩) 1 1,.slice none 0 0] 64 64 56 52 25
 obtain⟨W0,hW0⟩:∃ W0,(((((w.alloc (.cells #[.int .i64 8,.string ⟨#[77]⟩,.string ⟨#[102]⟩,.int .i64 0,.int .i64 0,.string ⟨#[]⟩,.string ⟨#[]⟩,.int .i64 0,.slice none 0 0,.int .i64 0,.slice none 0 0,.int .i64 3] 64)).alloc (.cells #[.int .i64 1,.string ⟨#[]⟩,.string ⟨#[]⟩,.int .i64 0,.int .i64 0,.string ⟨#[]⟩,.string ⟨#[]⟩,.int .i64 0,.slice none 0 0,.int .i64 0,.slice none 0 0,.int .i64 0] 64)).alloc (.cells #[.string ⟨#[102]⟩,.slice (some ⟨w.heap.size+1,0,none⟩) 1 1,.int .i64 0] 56)).alloc (.cells #[.string ⟨#[77]⟩,.slice none 0 0,.slice (some ⟨w.heap.size+1+1,0,none⟩) 1 1,.int .i64 0] 52)).alloc (.cells #[.slice (some ⟨w.heap.size+1+1+1,0,none⟩) 1 1,.slice none 0 0] 25))=W0:=⟨_,rfl⟩
 rw[hW0] at b0 b1 b2 b3 b4 hB0 hz0 ⊢
 obtain⟨g1,hg1⟩:∃ g1,w.heap.size+1=g1:=⟨_,rfl⟩
 obtain⟨g2,hg2⟩:∃ g2,g1+1=g2:=⟨_,rfl⟩
 obtain⟨g3,hg3⟩:∃ g3,g2+1=g3:=⟨_,rfl⟩
 obtain⟨g4,hg4⟩:∃ g4,g3+1=g4:=⟨_,rfl⟩
 obtain⟨q0,hq0⟩:∃ q0,w.heap.size=q0:=⟨_,rfl⟩
 rw[hg1] at b1 b2 b3 b4 ⊢
 rw[hg2] at b2 b3 b4 ⊢
 rw[hg3] at b3 b4 ⊢
 rw[hg4] at b4 ⊢
 rw[hq0] at b0 ⊢
 have HLT:Hid (q0<W0.heap.size∧g1<W0.heap.size∧g2<W0.heap.size∧g3<W0.heap.size∧g4<W0.heap.size):=⟨by omega,by omega,by omega,by omega,by omega⟩
 clear hg1 hg2 hg3 hg4 hq0 hW0 hz0
 have hcells:∀ W,Below W0.heap.size W0 W→(W.cell? ⟨g4,0,none⟩=some (.slice (some ⟨g3,0,none⟩) 1 1)∧W.cell? ⟨g4,1,none⟩=some (.slice none 0 0))∧∀ i,i<12→W.cell? ⟨q0,i,none⟩=(#[.int .i64 8,.string ⟨#[77]⟩,.string ⟨#[102]⟩,.int .i64 0,.int .i64 0,.string ⟨#[]⟩,.string ⟨#[]⟩,.int .i64 0,.slice none 0 0,.int .i64 0,.slice none 0 0,.int .i64 3]:Array Value)[i]?:=by
  intro W hW
  refine⟨⟨(hW.cell (p:=⟨g4,0,none⟩) HLT.out.2.2.2.2).trans (by rw[cellOf b4];rfl),(hW.cell (p:=⟨g4,1,none⟩) HLT.out.2.2.2.2).trans (by rw[cellOf b4];rfl)⟩,fun i hi=>(hW.cell (p:=⟨q0,i,none⟩) HLT.out.1).trans (by rw[cellOf b0])⟩
 have hPi:∀ W,Below W0.heap.size W0 W→(lvP g1 g2 g3 lvS 0).Is W0.heap.size W:=fun W hW=>lvP_is ((hW.block _ HLT.out.2.1).trans b1) ((hW.block _ HLT.out.2.2.1).trans b2) ((hW.block _ HLT.out.2.2.2.1).trans b3) ⟨HLT.out.2.1,HLT.out.2.2.1,HLT.out.2.2.2.1⟩ (lvS_is _ _) ⟨by decide,by decide⟩
 have hFin:=lv_fine g1 g2 g3 lvS 0 (by kernel_rfl) (by simp[lvS,St.blocks])
 have hz0:=hB0.size
 have hcnt:∀ W,Below W0.heap.size W0 W→Calls Tryz.prog 11 #[.agg #[.slice (some ⟨g3,0,none⟩) 1 1,.slice none 0 0],.slice (some ⟨W.heap.size,0,none⟩) 2 2] (W.alloc (.cells #[.int .i64 8,.string ⟨#[77]⟩,.string ⟨#[102]⟩,.int .i64 0,.int .i64 0,.string ⟨#[]⟩,.string ⟨#[]⟩,.int .i64 0,.slice none 0 0,.int .i64 0,.slice none 0 0,.int .i64 3,.int .i64 8,.string ⟨#[77]⟩,.string ⟨#[102]⟩,.int .i64 0,.int .i64 0,.string ⟨#[]⟩,.string ⟨#[]⟩,.int .i64 0,.slice none 0 0,.int .i64 0,.slice none 0 0,.int .i64 3] 64)) fun r w'=>r=.returned (.tuple #[.int .i64 4,.int .i64 0])∧Below (W.alloc (.cells #[.int .i64 8,.string ⟨#[77]⟩,.string ⟨#[102]⟩,.int .i64 0,.int .i64 0,.string ⟨#[]⟩,.string ⟨#[]⟩,.int .i64 0,.slice none 0 0,.int .i64 0,.slice none 0 0,.int .i64 3,.int .i64 8,.string ⟨#[77]⟩,.string ⟨#[102]⟩,.int .i64 0,.int .i64 0,.string ⟨#[]⟩,.string ⟨#[]⟩,.int .i64 0,.slice none 0 0,.int .i64 0,.slice none 0 0,.int .i64 3] 64)).heap.size (W.alloc (.cells #[.int .i64 8,.string ⟨#[77]⟩,.string ⟨#[102]⟩,.int .i64 0,.int .i64 0,.string ⟨#[]⟩,.string ⟨#[]⟩,.int .i64 0,.slice none 0 0,.int .i64 0,.slice none 0 0,.int .i64 3,.int .i64 8,.string ⟨#[77]⟩,.string ⟨#[102]⟩,.int .i64 0,.int .i64 0,.string ⟨#[]⟩,.string ⟨#[]⟩,.int .i64 0,.slice none 0 0,.int .i64 0,.slice none 0 0,.int .i64 3] 64)) w':=by
  intro W hW
  have hWs:=hW.size
  have hWa:=hW.al le_rfl' (.cells #[.int .i64 8,.string ⟨#[77]⟩,.string ⟨#[102]⟩,.int .i64 0,.int .i64 0,.string ⟨#[]⟩,.string ⟨#[]⟩,.int .i64 0,.slice none 0 0,.int .i64 0,.slice none 0 0,.int .i64 3,.int .i64 8,.string ⟨#[77]⟩,.string ⟨#[102]⟩,.int .i64 0,.int .i64 0,.string ⟨#[]⟩,.string ⟨#[]⟩,.int .i64 0,.slice none 0 0,.int .i64 0,.slice none 0 0,.int .i64 3] 64)
  have h:=Count_any (lvP g1 g2 g3 lvS 0) (lvX W.heap.size) (W.heap.size+1) (W.alloc (.cells #[.int .i64 8,.string ⟨#[77]⟩,.string ⟨#[102]⟩,.int .i64 0,.int .i64 0,.string ⟨#[]⟩,.string ⟨#[]⟩,.int .i64 0,.slice none 0 0,.int .i64 0,.slice none 0 0,.int .i64 3,.int .i64 8,.string ⟨#[77]⟩,.string ⟨#[102]⟩,.int .i64 0,.int .i64 0,.string ⟨#[]⟩,.string ⟨#[]⟩,.int .i64 0,.slice none 0 0,.int .i64 0,.slice none 0 0,.int .i64 3] 64)) (by simp) ((hPi _ hWa).mono (by omega)) (lvX_is (heapNew W _) (by omega)) (hS.below (hB0.trans (hWa.mono hz0)) hS3) (by simp;omega) hFin.zero (lvX_fine _).subs
  rw[lv1] at h
  exact h
 have hinl:∀ W,Below W0.heap.size W0 W→Calls Tryz.prog 13 #[.agg #[.slice (some ⟨g3,0,none⟩) 1 1,.slice none 0 0],.slice (some ⟨W.heap.size,0,none⟩) 2 2] (W.alloc (.cells #[.int .i64 8,.string ⟨#[77]⟩,.string ⟨#[102]⟩,.int .i64 0,.int .i64 0,.string ⟨#[]⟩,.string ⟨#[]⟩,.int .i64 0,.slice none 0 0,.int .i64 0,.slice none 0 0,.int .i64 3,.int .i64 8,.string ⟨#[77]⟩,.string ⟨#[102]⟩,.int .i64 0,.int .i64 0,.string ⟨#[]⟩,.string ⟨#[]⟩,.int .i64 0,.slice none 0 0,.int .i64 0,.slice none 0 0,.int .i64 3] 64)) fun r w'=>(∃ kb koff cap bb boff bcap yad ycap,r=.returned (.tuple #[.slice (some ⟨kb,koff,none⟩) 2 cap,.int .i64 0])∧2≤cap∧cap≤maxLen∧1≤bcap∧bcap≤maxLen∧kb<w'.heap.size∧bb<w'.heap.size∧w'.cell? ⟨kb,koff+12,none⟩=some (.int .i64 7)∧w'.cell? ⟨kb,koff+12+1,none⟩=some (.string ⟨#[77]⟩)∧w'.cell? ⟨kb,koff+12+10,none⟩=some (.slice (some ⟨bb,boff,none⟩) 1 bcap)∧w'.cell? ⟨kb,koff+12+11,none⟩=some (.int .i64 3)∧w'.cell? ⟨bb,boff,none⟩=some (.slice yad 1 ycap))∧Below (W.alloc (.cells #[.int .i64 8,.string ⟨#[77]⟩,.string ⟨#[102]⟩,.int .i64 0,.int .i64 0,.string ⟨#[]⟩,.string ⟨#[]⟩,.int .i64 0,.slice none 0 0,.int .i64 0,.slice none 0 0,.int .i64 3,.int .i64 8,.string ⟨#[77]⟩,.string ⟨#[102]⟩,.int .i64 0,.int .i64 0,.string ⟨#[]⟩,.string ⟨#[]⟩,.int .i64 0,.slice none 0 0,.int .i64 0,.slice none 0 0,.int .i64 3] 64)).heap.size (W.alloc (.cells #[.int .i64 8,.string ⟨#[77]⟩,.string ⟨#[102]⟩,.int .i64 0,.int .i64 0,.string ⟨#[]⟩,.string ⟨#[]⟩,.int .i64 0,.slice none 0 0,.int .i64 0,.slice none 0 0,.int .i64 3,.int .i64 8,.string ⟨#[77]⟩,.string ⟨#[102]⟩,.int .i64 0,.int .i64 0,.string ⟨#[]⟩,.string ⟨#[]⟩,.int .i64 0,.slice none 0 0,.int .i64 0,.slice none 0 0,.int .i64 3] 64)) w':=by
  intro W hW
  have hWs:=hW.size
  have hWa:=hW.al le_rfl' (.cells #[.int .i64 8,.string ⟨#[77]⟩,.string ⟨#[102]⟩,.int .i64 0,.int .i64 0,.string ⟨#[]⟩,.string ⟨#[]⟩,.int .i64 0,.slice none 0 0,.int .i64 0,.slice none 0 0,.int .i64 3,.int .i64 8,.string ⟨#[77]⟩,.string ⟨#[102]⟩,.int .i64 0,.int .i64 0,.string ⟨#[]⟩,.string ⟨#[]⟩,.int .i64 0,.slice none 0 0,.int .i64 0,.slice none 0 0,.int .i64 3] 64)
  have h:=Inline_any (lvP g1 g2 g3 lvS 0) (lvX W.heap.size) (W.heap.size+1) (W.alloc (.cells #[.int .i64 8,.string ⟨#[77]⟩,.string ⟨#[102]⟩,.int .i64 0,.int .i64 0,.string ⟨#[]⟩,.string ⟨#[]⟩,.int .i64 0,.slice none 0 0,.int .i64 0,.slice none 0 0,.int .i64 3,.int .i64 8,.string ⟨#[77]⟩,.string ⟨#[102]⟩,.int .i64 0,.int .i64 0,.string ⟨#[]⟩,.string ⟨#[]⟩,.int .i64 0,.slice none 0 0,.int .i64 0,.slice none 0 0,.int .i64 3] 64)) (by simp) ((hPi _ hWa).mono (by omega)) (lvX_is (heapNew W _) (by omega)) (hS.below (hB0.trans (hWa.mono hz0)) hS3) (by simp;omega) hFin.zero (lvX_fine _).subs
  refine h.mono ?_
  rintro r w' ⟨⟨h1,_⟩|⟨_,ad,cap,body,rfl,hI,hc⟩,hb⟩
  ·rw[lv1] at h1;exact absurd rfl h1
  ·rw[lv3] at hc
   obtain⟨s,t,rfl,-,ht⟩:=clr_two hc
   obtain⟨bad,bcap,y,rfl,hy⟩:=clr_st ht
   obtain⟨yad,ycap,t2,rfl⟩:=clr_one hy
   obtain⟨hsl,hIs⟩:=hI.down
   have hIt:=hIs (St.mk 7 ⟨#[77]⟩ ⟨#[]⟩ 0 zeroEx bad bcap [Bl.mk yad ycap [t2]] 3) (by simp)
   have hbs:=hIt.down.2.2.1
   rcases hsl.2.2 with h|⟨kb,koff,rfl,hkb,hrow⟩
   ·simp at h
   rcases hbs.2.2 with h|⟨bb,boff,rfl,hbb,hbrow⟩
   ·simp at h
   have c0:=hrow 1 (by simp) 0 (by omega)
   have c1:=hrow 1 (by simp) 1 (by omega)
   have c10:=hrow 1 (by simp) 10 (by omega)
   have c11:=hrow 1 (by simp) 11 (by omega)
   have d0:=hbrow 0 (by simp) 0 (by omega)
   simp[St.cells,Ex.cells,zeroEx,Bl.cells,Bl.slice] at c0 c1 c10 c11 d0
   exact⟨⟨kb,koff,cap,bb,boff,bcap,yad,ycap,rfl,by simpa using hsl.1,hsl.2.1,by simpa using hbs.1,hbs.2.1,hkb,hbb,c0,c1,c10,c11,d0⟩,hb⟩
 have hcal:∀ W,Below W0.heap.size W0 W→Calls Tryz.prog 16 #[.slice (some ⟨W.heap.size,0,none⟩) 2 2] (W.alloc (.cells #[.int .i64 8,.string ⟨#[77]⟩,.string ⟨#[102]⟩,.int .i64 0,.int .i64 0,.string ⟨#[]⟩,.string ⟨#[]⟩,.int .i64 0,.slice none 0 0,.int .i64 0,.slice none 0 0,.int .i64 3,.int .i64 8,.string ⟨#[77]⟩,.string ⟨#[102]⟩,.int .i64 0,.int .i64 0,.string ⟨#[]⟩,.string ⟨#[]⟩,.int .i64 0,.slice none 0 0,.int .i64 0,.slice none 0 0,.int .i64 3] 64)) fun r w'=>(∃ ad cap,r=.returned (.slice ad 1 cap))∧Below (W.alloc (.cells #[.int .i64 8,.string ⟨#[77]⟩,.string ⟨#[102]⟩,.int .i64 0,.int .i64 0,.string ⟨#[]⟩,.string ⟨#[]⟩,.int .i64 0,.slice none 0 0,.int .i64 0,.slice none 0 0,.int .i64 3,.int .i64 8,.string ⟨#[77]⟩,.string ⟨#[102]⟩,.int .i64 0,.int .i64 0,.string ⟨#[]⟩,.string ⟨#[]⟩,.int .i64 0,.slice none 0 0,.int .i64 0,.slice none 0 0,.int .i64 3] 64)).heap.size (W.alloc (.cells #[.int .i64 8,.string ⟨#[77]⟩,.string ⟨#[102]⟩,.int .i64 0,.int .i64 0,.string ⟨#[]⟩,.string ⟨#[]⟩,.int .i64 0,.slice none 0 0,.int .i64 0,.slice none 0 0,.int .i64 3,.int .i64 8,.string ⟨#[77]⟩,.string ⟨#[102]⟩,.int .i64 0,.int .i64 0,.string ⟨#[]⟩,.string ⟨#[]⟩,.int .i64 0,.slice none 0 0,.int .i64 0,.slice none 0 0,.int .i64 3] 64)) w':=by
  intro W hW
  have h:=calls_any (lvX W.heap.size) (W.heap.size+1) (W.alloc (.cells #[.int .i64 8,.string ⟨#[77]⟩,.string ⟨#[102]⟩,.int .i64 0,.int .i64 0,.string ⟨#[]⟩,.string ⟨#[]⟩,.int .i64 0,.slice none 0 0,.int .i64 0,.slice none 0 0,.int .i64 3,.int .i64 8,.string ⟨#[77]⟩,.string ⟨#[102]⟩,.int .i64 0,.int .i64 0,.string ⟨#[]⟩,.string ⟨#[]⟩,.int .i64 0,.slice none 0 0,.int .i64 0,.slice none 0 0,.int .i64 3] 64)) (by simp) (lvX_is (heapNew W _) (by omega)) (by have:=(lvX_fine W.heap.size).subs;omega)
  rw[lv2] at h
  refine h.mono ?_
  rintro r w' ⟨v,rfl,ho,hb⟩
  obtain⟨ad,cp,rfl,-⟩:=slOwn rcells_len (l:=[(⟨#[77]⟩,⟨#[102]⟩)]) ho
  exact⟨⟨ad,cp,rfl⟩,hb⟩
 have hnum:=num_any
 clear hPi hFin b0 b1 b2 b3 b4
 obtain⟨⟨ap0,ap1⟩,ahc⟩:=hcells W0 (Below.refl _ _)
 have ac0:=ahc 0 (by omega)
 have ac1:=ahc 1 (by omega)
 have ac2:=ahc 2 (by omega)
 have ac3:=ahc 3 (by omega)
 have ac4:=ahc 4 (by omega)
 have ac5:=ahc 5 (by omega)
 have ac6:=ahc 6 (by omega)
 have ac7:=ahc 7 (by omega)
 have ac8:=ahc 8 (by omega)
 have ac9:=ahc 9 (by omega)
 have ac10:=ahc 10 (by omega)
 have ac11:=ahc 11 (by omega)
 simp at ac0 ac1 ac2 ac3 ac4 ac5 ac6 ac7 ac8 ac9 ac10 ac11
 go_upto_region 4 with (go_at_call 11;(with_reducible refine (hcnt _ (Below.refl _ _)).mono ?_);rintro r v1 ⟨rfl,bb1⟩)
 have hb1:Below W0.heap.size W0 v1:=((Below.refl _ W0).al le_rfl' (.cells #[.int .i64 8,.string ⟨#[77]⟩,.string ⟨#[102]⟩,.int .i64 0,.int .i64 0,.string ⟨#[]⟩,.string ⟨#[]⟩,.int .i64 0,.slice none 0 0,.int .i64 0,.slice none 0 0,.int .i64 3,.int .i64 8,.string ⟨#[77]⟩,.string ⟨#[102]⟩,.int .i64 0,.int .i64 0,.string ⟨#[]⟩,.string ⟨#[]⟩,.int .i64 0,.slice none 0 0,.int .i64 0,.slice none 0 0,.int .i64 3] 64)).tr le_rfl' bb1
 clear bb1 hcnt
 clear ap0 ap1 ahc ac0 ac1 ac2 ac3 ac4 ac5 ac6 ac7 ac8 ac9 ac10 ac11
 obtain⟨⟨ap0,ap1⟩,ahc⟩:=hcells v1 hb1
 have ac0:=ahc 0 (by omega)
 have ac1:=ahc 1 (by omega)
 have ac2:=ahc 2 (by omega)
 have ac3:=ahc 3 (by omega)
 have ac4:=ahc 4 (by omega)
 have ac5:=ahc 5 (by omega)
 have ac6:=ahc 6 (by omega)
 have ac7:=ahc 7 (by omega)
 have ac8:=ahc 8 (by omega)
 have ac9:=ahc 9 (by omega)
 have ac10:=ahc 10 (by omega)
 have ac11:=ahc 11 (by omega)
 simp at ac0 ac1 ac2 ac3 ac4 ac5 ac6 ac7 ac8 ac9 ac10 ac11
 go_upto_region 5 with (go_at_call 13;(with_reducible refine (hinl _ hb1).mono ?_);rintro r v2 ⟨⟨kb,koff,cap,bb,boff,bcap,yad,ycap,rfl,k1,k2,k3,k4,k5,k6,y0,y1,y10,y11,z0⟩,bb2⟩)
 have hb2:Below W0.heap.size W0 v2:=(hb1.al le_rfl' (.cells #[.int .i64 8,.string ⟨#[77]⟩,.string ⟨#[102]⟩,.int .i64 0,.int .i64 0,.string ⟨#[]⟩,.string ⟨#[]⟩,.int .i64 0,.slice none 0 0,.int .i64 0,.slice none 0 0,.int .i64 3,.int .i64 8,.string ⟨#[77]⟩,.string ⟨#[102]⟩,.int .i64 0,.int .i64 0,.string ⟨#[]⟩,.string ⟨#[]⟩,.int .i64 0,.slice none 0 0,.int .i64 0,.slice none 0 0,.int .i64 3] 64)).tr le_rfl' bb2
 clear bb2 hinl
 clear ap0 ap1 ahc ac0 ac1 ac2 ac3 ac4 ac5 ac6 ac7 ac8 ac9 ac10 ac11
 obtain⟨⟨ap0,ap1⟩,ahc⟩:=hcells v2 hb2
 have ac0:=ahc 0 (by omega)
 have ac1:=ahc 1 (by omega)
 have ac2:=ahc 2 (by omega)
 have ac3:=ahc 3 (by omega)
 have ac4:=ahc 4 (by omega)
 have ac5:=ahc 5 (by omega)
 have ac6:=ahc 6 (by omega)
 have ac7:=ahc 7 (by omega)
 have ac8:=ahc 8 (by omega)
 have ac9:=ahc 9 (by omega)
 have ac10:=ahc 10 (by omega)
 have ac11:=ahc 11 (by omega)
 simp at ac0 ac1 ac2 ac3 ac4 ac5 ac6 ac7 ac8 ac9 ac10 ac11
 go_upto_region 6 with (go_at_call 16;(with_reducible refine (hcal _ hb2).mono ?_);rintro r v3 ⟨⟨rad,rcap,rfl⟩,bb3⟩)
 have hb23:Below v2.heap.size v2 v3:=((Below.refl _ v2).al le_rfl' (.cells #[.int .i64 8,.string ⟨#[77]⟩,.string ⟨#[102]⟩,.int .i64 0,.int .i64 0,.string ⟨#[]⟩,.string ⟨#[]⟩,.int .i64 0,.slice none 0 0,.int .i64 0,.slice none 0 0,.int .i64 3,.int .i64 8,.string ⟨#[77]⟩,.string ⟨#[102]⟩,.int .i64 0,.int .i64 0,.string ⟨#[]⟩,.string ⟨#[]⟩,.int .i64 0,.slice none 0 0,.int .i64 0,.slice none 0 0,.int .i64 3] 64)).tr le_rfl' bb3
 have hb3:Below W0.heap.size W0 v3:=hb2.tr le_rfl' hb23
 clear bb3 hcal
 clear ap0 ap1 ahc ac0 ac1 ac2 ac3 ac4 ac5 ac6 ac7 ac8 ac9 ac10 ac11
 obtain⟨⟨ap0,ap1⟩,ahc⟩:=hcells v3 hb3
 have ac0:=ahc 0 (by omega)
 have ac1:=ahc 1 (by omega)
 have ac2:=ahc 2 (by omega)
 have ac3:=ahc 3 (by omega)
 have ac4:=ahc 4 (by omega)
 have ac5:=ahc 5 (by omega)
 have ac6:=ahc 6 (by omega)
 have ac7:=ahc 7 (by omega)
 have ac8:=ahc 8 (by omega)
 have ac9:=ahc 9 (by omega)
 have ac10:=ahc 10 (by omega)
 have ac11:=ahc 11 (by omega)
 simp at ac0 ac1 ac2 ac3 ac4 ac5 ac6 ac7 ac8 ac9 ac10 ac11
 go_upto_region 7 with fail
 obtain⟨e1,e2,e3,hB3,hz3⟩:=three_box v3 #[.int .i64 8,.string ⟨#[77]⟩,.string ⟨#[102]⟩,.int .i64 0,.int .i64 0,.string ⟨#[]⟩,.string ⟨#[]⟩,.int .i64 0,.slice none 0 0,.int .i64 0,.slice none 0 0,.int .i64 3] #[.string ⟨#[102]⟩,.slice (some ⟨v3.heap.size,0,none⟩) 1 1,.int .i64 9] #[.string ⟨#[77]⟩,.slice none 0 0,.slice (some ⟨v3.heap.size+1,0,none⟩) 1 1,.int .i64 0] 64 56 52
 obtain⟨f1,hB4,hz4⟩:=one_box (((v3.alloc (.cells #[.int .i64 8,.string ⟨#[77]⟩,.string ⟨#[102]⟩,.int .i64 0,.int .i64 0,.string ⟨#[]⟩,.string ⟨#[]⟩,.int .i64 0,.slice none 0 0,.int .i64 0,.slice none 0 0,.int .i64 3] 64)).alloc (.cells #[.string ⟨#[102]⟩,.slice (some ⟨v3.heap.size,0,none⟩) 1 1,.int .i64 9] 56)).alloc (.cells #[.string ⟨#[77]⟩,.slice none 0 0,.slice (some ⟨v3.heap.size+1,0,none⟩) 1 1,.int .i64 0] 52)) #[.slice (some ⟨v3.heap.size+1+1,0,none⟩) 1 1,.slice none 0 0] 25
 rw[hz3] at f1 hB4 hz4
 have hB34:Below v3.heap.size v3 ((((v3.alloc (.cells #[.int .i64 8,.string ⟨#[77]⟩,.string ⟨#[102]⟩,.int .i64 0,.int .i64 0,.string ⟨#[]⟩,.string ⟨#[]⟩,.int .i64 0,.slice none 0 0,.int .i64 0,.slice none 0 0,.int .i64 3] 64)).alloc (.cells #[.string ⟨#[102]⟩,.slice (some ⟨v3.heap.size,0,none⟩) 1 1,.int .i64 9] 56)).alloc (.cells #[.string ⟨#[77]⟩,.slice none 0 0,.slice (some ⟨v3.heap.size+1,0,none⟩) 1 1,.int .i64 0] 52)).alloc (.cells #[.slice (some ⟨v3.heap.size+1+1,0,none⟩) 1 1,.slice none 0 0] 25)):=hB3.trans (hB4.mono (by omega))
 have e1:=(hB4.block _ (by omega)).trans e1
 have e2:=(hB4.block _ (by omega)).trans e2
 have e3:=(hB4.block _ (by omega)).trans e3
 obtain⟨V,hV⟩:∃ V,((((v3.alloc (.cells #[.int .i64 8,.string ⟨#[77]⟩,.string ⟨#[102]⟩,.int .i64 0,.int .i64 0,.string ⟨#[]⟩,.string ⟨#[]⟩,.int .i64 0,.slice none 0 0,.int .i64 0,.slice none 0 0,.int .i64 3] 64)).alloc (.cells #[.string ⟨#[102]⟩,.slice (some ⟨v3.heap.size,0,none⟩) 1 1,.int .i64 9] 56)).alloc (.cells #[.string ⟨#[77]⟩,.slice none 0 0,.slice (some ⟨v3.heap.size+1,0,none⟩) 1 1,.int .i64 0] 52)).alloc (.cells #[.slice (some ⟨v3.heap.size+1+1,0,none⟩) 1 1,.slice none 0 0] 25))=V:=⟨_,rfl⟩
 rw[hV] at e1 e2 e3 f1 hB34 hz4 ⊢
 have hb3s:=hb3.size
 have hchk:Calls Tryz.prog 7 #[.agg #[.slice (some ⟨v3.heap.size+1+1,0,none⟩) 1 1,.slice none 0 0]] V fun r w'=>r=.returned (.tuple #[.int .i64 80,.int .i64 9])∧Below V.heap.size V w':=by
  have h:=Check_any (lvP v3.heap.size (v3.heap.size+1) (v3.heap.size+1+1) lvC 9) V.heap.size V (Nat.le_refl _) (lvP_is e1 e2 e3 ⟨by omega,by omega,by omega⟩ (lvC_is _ _) ⟨by decide,by decide⟩) (hS.below (hB0.trans ((hb3.tr le_rfl' hB34).mono hz0)) hS3) (by omega) (by simp[lvP,vsum]) (lv_fine _ _ _ lvC 9 (by kernel_rfl) (by simp[lvC,St.blocks])) (fun r hr=>by simp[lvP] at hr)
  rw[lv4] at h
  exact h
 have hb24:Below v2.heap.size v2 V:=hb23.tr le_rfl' hB34
 have p0:=cellOf f1 0
 have p1:=cellOf f1 1
 simp at p0 p1
 clear hV e1 e2 e3 f1 hB3 hB4 hz3 hz4
 unfold maxLen at k2 k4
 go_upto_region 8 with (go_at_call 7;(with_reducible refine hchk.mono ?_);rintro r v4 ⟨rfl,bb4⟩)
 have hbF:Below v2.heap.size v2 v4:=hb24.tr le_rfl' bb4
 have y0:=(hbF.cell (p:=⟨kb,koff+12,none⟩) k5).trans y0
 have y1:=(hbF.cell (p:=⟨kb,koff+12+1,none⟩) k5).trans y1
 have y10:=(hbF.cell (p:=⟨kb,koff+12+10,none⟩) k5).trans y10
 have y11:=(hbF.cell (p:=⟨kb,koff+12+11,none⟩) k5).trans y11
 have z0:=(hbF.cell (p:=⟨bb,boff,none⟩) k6).trans z0
 have HEND:Hid (Below w.heap.size w v4):=hB0.trans ((hb3.tr le_rfl' (hB34.tr le_rfl' bb4)).mono hz0)
 clear hbF hb24 hb23 hb3 hb2 hb1 hB34 bb4 hchk
 go_wp2_with (go_at_call 9;(with_reducible refine (hnum _ _).mono ?_);rintro r v5 ⟨rfl,rfl⟩)
 go_ret
 exact⟨rfl,HEND.out⟩
open Go.RowKit
theorem clr_subs (y:Bl):y.clr.subs=y.subs.map St.clr:=
 Bl.ind (P:=fun s=>s.clr.subs=s.subs.map St.clr) (Q:=fun b=>b.clr.subs=b.subs.map St.clr)
  (fun kind mon name n e ad cap blocks pos ih=>by
   rw[St.clr_mk,St.subs_mk,St.subs_mk,List.map_cons,St.clr_mk,List.flatMap_map,List.map_flatMap]
   congr 1
   clear ad cap
   induction blocks with
   | nil=>rfl
   | cons b l ihl=>rw[List.flatMap_cons,List.flatMap_cons,ih b (by simp),ihl (fun x hx=>ih x (by simp[hx]))])
  (fun ad cap body ih=>by
   rw[Bl.clr_mk,Bl.subs_mk,Bl.subs_mk,List.flatMap_map,List.map_flatMap]
   clear ad cap
   induction body with
   | nil=>rfl
   | cons b l ihl=>rw[List.flatMap_cons,List.flatMap_cons,ih b (by simp),ihl (fun x hx=>ih x (by simp[hx]))]) y
theorem clr_kind (s:St):s.clr.kind=s.kind:=by rcases s with ⟨a1,a2,a3,a4,a5,a6,a7,a8,a9⟩;rw[St.clr_mk];rfl
theorem clr_ok1 (s:St):s.clr.ok1=s.ok1:=by rcases s with ⟨a1,a2,a3,a4,a5,a6,a7,a8,a9⟩;rw[St.clr_mk];simp[St.ok1]
theorem clr_okB (y:Bl):y.clr.okB=y.okB:=by
 rw[Bl.okB,Bl.okB,clr_subs,List.all_map]
 congr 1
 funext s
 exact clr_ok1 s
theorem inl_all {P Q:St→Prop} {f:Ref→Bl} (h1:∀ s,P s→Q (s.inl f)) (hf:∀ s,P s→s.kind=8→∀ t∈(f s.ref).subs,Q t) (x:Bl):(∀ s∈x.subs,P s)→∀ t∈(x.inl f).subs,Q t:=
 Bl.ind (P:=fun s=>(∀ t∈s.subs,P t)→∀ t∈(s.inl f).subs,Q t) (Q:=fun b=>(∀ t∈b.subs,P t)→∀ t∈(b.inl f).subs,Q t)
  (fun kind mon name n e ad cap blocks pos ih hP t ht=>by
   have hs:=hP _ (subs_self _)
   have hq:=h1 _ hs
   by_cases hk:kind=8
   ·subst hk
    rw[St.inl_call] at ht hq
    rw[St.subs_mk] at ht
    rcases List.mem_cons.1 ht with rfl|ht
    ·exact hq
    ·simp only[List.flatMap_cons,List.flatMap_nil,List.append_nil] at ht
     exact hf _ hs rfl t ht
   ·rw[St.inl_other _ _ hk] at ht hq
    rw[St.subs_mk] at ht
    rcases List.mem_cons.1 ht with rfl|ht
    ·exact hq
    ·rw[List.flatMap_map] at ht
     obtain⟨b,hb,ht⟩:=List.mem_flatMap.1 ht
     exact ih b hb (fun u hu=>hP u (by rw[St.subs_mk];exact List.mem_cons_of_mem _ (List.mem_flatMap.2 ⟨b,hb,hu⟩))) t ht)
  (fun ad cap body ih hP t ht=>by
   rw[Bl.inl_mk,Bl.subs_mk,List.flatMap_map] at ht
   obtain⟨s,hs,ht⟩:=List.mem_flatMap.1 ht
   exact ih s hs (fun u hu=>hP u (by rw[Bl.subs_mk];exact List.mem_flatMap.2 ⟨s,hs,hu⟩)) t ht) x
theorem inl_kind (f:Ref→Bl) (s:St):(s.inl f).kind≠8:=by
 rcases s with ⟨kind,a2,a3,a4,a5,a6,a7,a8,a9⟩
 by_cases hk:kind=8
 ·subst hk;rw[St.inl_call];show (7:Int)≠8;decide
 ·rw[St.inl_other _ _ hk];exact hk
theorem inlR_none (p:Pr) (N:Nat):∀ r,∀ t∈(inlR p N r).subs,t.kind≠8:=by
 induction N with
 | zero=>intro r t ht;simp[inlR,Bl.subs_mk] at ht
 | succ N ih=>intro r;exact inl_all (P:=fun _=>True) (Q:=fun t=>t.kind≠8) (fun s _=>inl_kind _ s) (fun s _ _=>ih s.ref) (bodyOf p r) (fun _ _=>trivial)
theorem inl_none (p:Pr) (N:Nat) (x:Bl):∀ t∈(x.inl (inlR p N)).subs,t.kind≠8:=inl_all (P:=fun _=>True) (Q:=fun t=>t.kind≠8) (fun s _=>inl_kind _ s) (fun s _ _=>inlR_none p N s.ref) x (fun _ _=>trivial)
theorem zeroEx_fits:fitsEx zeroEx (stExpr (7:Int).toNat)=true:=by kernel_rfl
theorem inl_ok1 (f:Ref→Bl) (s:St) (h:s.ok1=true):(s.inl f).ok1=true:=by
 rcases s with ⟨kind,mon,name,n,e,ad,cap,blocks,pos⟩
 by_cases hk:kind=8
 ·subst hk
  rw[St.inl_call]
  simp only[St.ok1,Bool.and_eq_true,decide_eq_true_eq] at h ⊢
  refine⟨⟨by decide,by decide⟩,⟨⟨⟨⟨h.2.1.1.1.1.1,by kernel_rfl⟩,by kernel_rfl⟩,zeroEx_fits⟩,by show stLeast (Int.toNat 7)≤1;decide⟩,by show 1≤stMost (Int.toNat 7);decide⟩
 ·rw[St.inl_other _ _ hk]
  simpa[St.ok1] using h
theorem body_okB {p:Pr} (h:p.ok=true) (r:Ref):(bodyOf p r).okB=true:=by
 rw[bodyOf]
 split
 ·rename_i f hf
  obtain⟨m,hm,hfm⟩:=methIx_mem hf
  exact ok_meth h m hm f hfm
 ·rw[Bl.okB,Bl.subs_mk];rfl
theorem okB_iff {x:Bl}:x.okB=true↔∀ s∈x.subs,s.ok1=true:=by rw[Bl.okB,List.all_eq_true]
theorem inlR_ok {p:Pr} (h:p.ok=true) (N:Nat):∀ r,∀ t∈(inlR p N r).subs,t.ok1=true:=by
 induction N with
 | zero=>intro r t ht;simp[inlR,Bl.subs_mk] at ht
 | succ N ih=>intro r;exact inl_all (P:=fun s=>s.ok1=true) (Q:=fun t=>t.ok1=true) (fun s hs=>inl_ok1 _ s hs) (fun s _ _=>ih s.ref) (bodyOf p r) (okB_iff.1 (body_okB h r))
theorem inl_okB {p:Pr} (h:p.ok=true) (N:Nat) {x:Bl} (hx:x.okB=true):(x.inl (inlR p N)).okB=true:=
 okB_iff.2 (inl_all (P:=fun s=>s.ok1=true) (Q:=fun t=>t.ok1=true) (fun s hs=>inl_ok1 _ s hs) (fun s _ _=>inlR_ok h N s.ref) x (okB_iff.1 hx))
theorem inl_len (f:Ref→Bl) (x:Bl):(∀ s∈x.subs,s.kind=8→s.blocks=[])→(x.inl f).subs.length=(x.subs.map fun s=>if s.kind=8 then 1+(f s.ref).subs.length else 1).sum:=
 Bl.ind (P:=fun s=>(∀ t∈s.subs,t.kind=8→t.blocks=[])→(s.inl f).subs.length=(s.subs.map fun s=>if s.kind=8 then 1+(f s.ref).subs.length else 1).sum)
  (Q:=fun b=>(∀ t∈b.subs,t.kind=8→t.blocks=[])→(b.inl f).subs.length=(b.subs.map fun s=>if s.kind=8 then 1+(f s.ref).subs.length else 1).sum)
  (fun kind mon name n e ad cap blocks pos ih hP=>by
   have hs:=hP _ (subs_self _)
   by_cases hk:kind=8
   ·subst hk
    have hb:blocks=[]:=hs rfl
    subst hb
    rw[St.inl_call,St.subs_mk,St.subs_mk]
    simp[St.kind,St.ref];omega
   ·rw[St.inl_other _ _ hk,St.subs_mk,St.subs_mk,List.flatMap_map,List.length_cons,List.map_cons,List.sum_cons,if_neg (show ¬ (St.mk kind mon name n e ad cap blocks pos).kind=8 from hk)]
    have hP2:∀ b∈blocks,∀ t∈b.subs,t.kind=8→t.blocks=[]:=fun b hb t ht=>hP t (by rw[St.subs_mk];exact List.mem_cons_of_mem _ (List.mem_flatMap.2 ⟨b,hb,ht⟩))
    have:(blocks.flatMap fun b=>(b.inl f).subs).length=((blocks.flatMap Bl.subs).map fun s=>if s.kind=8 then 1+(f s.ref).subs.length else 1).sum:=by
     clear hP hs
     induction blocks with
     | nil=>rfl
     | cons b l ihl=>rw[List.flatMap_cons,List.flatMap_cons,List.length_append,List.map_append,List.sum_append,ih b (by simp) (hP2 b (by simp)),ihl (fun x hx=>ih x (by simp[hx])) (fun x hx=>hP2 x (by simp[hx]))]
    omega)
  (fun ad cap body ih hP=>by
   rw[Bl.inl_mk,Bl.subs_mk,Bl.subs_mk,List.flatMap_map]
   have hP2:∀ b∈body,∀ t∈b.subs,t.kind=8→t.blocks=[]:=fun b hb t ht=>hP t (by rw[Bl.subs_mk];exact List.mem_flatMap.2 ⟨b,hb,ht⟩)
   clear hP
   induction body with
   | nil=>rfl
   | cons b l ihl=>rw[List.flatMap_cons,List.flatMap_cons,List.length_append,List.map_append,List.sum_append,ih b (by simp) (hP2 b (by simp)),ihl (fun x hx=>ih x (by simp[hx])) (fun x hx=>hP2 x (by simp[hx]))]) x
theorem call_blocks {s:St} (h:s.ok1=true) (hk:s.kind=8):s.blocks=[]:=by
 rcases s with ⟨kind,mon,name,n,e,ad,cap,blocks,pos⟩
 have hk:kind=8:=hk
 subst hk
 simp only[St.ok1,Bool.and_eq_true,decide_eq_true_eq] at h
 have h1:=h.2.2
 have h2:stMost (8:Int).toNat=0:=by kernel_rfl
 rw[h2] at h1
 exact List.eq_nil_of_length_eq_zero (Nat.le_zero.1 h1)
theorem le_sum {l:List Nat} {a:Nat} (h:a∈l):a≤l.sum:=by
 induction l with
 | nil=>cases h
 | cons b l ih =>
  rw[List.sum_cons]
  rcases List.mem_cons.1 h with rfl|h
  ·omega
  ·have:=ih h;omega
theorem inlR_len {p:Pr} {x:Bl} {R:List Ref} {Z:List (Ref × Nat)} (hok:p.ok=true) (hg:Good p x R Z) (N:Nat):∀ r∈R,rkOf R r<N→szGet Z r≤400→szGet Z r=1+(inlR p N r).subs.length:=by
 induction N with
 | zero=>intro r _ h;omega
 | succ N ih =>
  intro r hr hk hs
  have h1:=hg.size r hr
  have h2:tot Z (bodyOf p r)≤399:=by omega
  have h3:szGet Z r=1+tot Z (bodyOf p r):=by omega
  rw[h3]
  congr 1
  have hb:=okB_iff.1 (body_okB hok r)
  show tot Z (bodyOf p r)=((bodyOf p r).inl (inlR p N)).subs.length
  rw[inl_len _ _ (fun s hs hk=>call_blocks (hb s hs) hk)]
  unfold tot sumOf at h2 ⊢
  congr 1
  refine List.map_congr_left fun s hs=>?_
  unfold sown
  split
  ·rename_i hk8
   have hm:s.ref∈leadsOf p r:=(callsOf_mem _ _).2 ⟨s,hs,hk8,rfl⟩
   obtain⟨h4,h5⟩:=hg.leads r hr _ hm
   refine ih _ h4 (by omega) ?_
   have h6:sown Z s≤((bodyOf p r).subs.map (sown Z)).sum:=le_sum (List.mem_map.2 ⟨s,hs,rfl⟩)
   unfold sown at h6
   rw[if_pos hk8] at h6
   have h7:((bodyOf p r).subs.map (sown Z)).sum=((bodyOf p r).subs.map fun s=>if s.kind=8 then szGet Z s.ref else 1).sum:=rfl
   omega
  ·rfl
theorem inl_size {p:Pr} {x:Bl} {n:Nat} (hok:p.ok=true) (hx:x.okB=true) (h:cntOf p x=(n,0)):(x.inl (inlR p (reachedOf p (callsOf x)).length)).subs.length=n∧n≤400:=by
 obtain⟨Z,hg,ht,hn⟩:=good_of h
 refine⟨?_,hn⟩
 have hb:=okB_iff.1 hx
 rw[inl_len _ _ (fun s hs hk=>call_blocks (hb s hs) hk),← ht]
 unfold tot sumOf
 congr 1
 refine List.map_congr_left fun s hs=>?_
 unfold sown
 split
 ·rename_i hk8
  have hm:s.ref∈callsOf x:=(callsOf_mem _ _).2 ⟨s,hs,hk8,rfl⟩
  have h4:=hg.root _ hm
  refine (inlR_len hok hg _ _ h4 (rkOf_lt h4) ?_).symm
  have h6:sown Z s≤(x.subs.map (sown Z)).sum:=le_sum (List.mem_map.2 ⟨s,hs,rfl⟩)
  unfold sown at h6
  rw[if_pos hk8] at h6
  have h7:tot Z x=(x.subs.map fun s=>if s.kind=8 then szGet Z s.ref else 1).sum:=rfl
  omega
 ·rfl
theorem inl_same (g:Ref→Bl) (y:Bl):(∀ s∈y.subs,s.kind≠8)→y.inl g=y.clr:=
 Bl.ind (P:=fun s=>(∀ t∈s.subs,t.kind≠8)→s.inl g=s.clr) (Q:=fun b=>(∀ t∈b.subs,t.kind≠8)→b.inl g=b.clr)
  (fun kind mon name n e ad cap blocks pos ih hP=>by
   have hk:kind≠8:=hP _ (subs_self _)
   rw[St.inl_other _ _ hk,St.clr_mk]
   congr 1
   exact List.map_congr_left fun b hb=>ih b hb (fun t ht=>hP t (by rw[St.subs_mk];exact List.mem_cons_of_mem _ (List.mem_flatMap.2 ⟨b,hb,ht⟩))))
  (fun ad cap body ih hP=>by
   rw[Bl.inl_mk,Bl.clr_mk]
   congr 1
   exact List.map_congr_left fun s hs=>ih s hs (fun t ht=>hP t (by rw[Bl.subs_mk];exact List.mem_flatMap.2 ⟨s,hs,ht⟩))) y
theorem all2_of_map {α:Type} {f:α→α→Bool} {c:α→α}:∀ (xs ys:List α),xs.map c=ys.map c→(∀ x∈xs,∀ y,c x=c y→f x y=true)→all2 f xs ys=true:=by
 intro xs
 induction xs with
 | nil =>
  intro ys h _
  cases ys with
  | nil=>rfl
  | cons y ys=>simp at h
 | cons x xs ih =>
  intro ys h hf
  cases ys with
  | nil=>simp at h
  | cons y ys =>
   simp only[List.map_cons,List.cons.injEq] at h
   rw[all2,hf x (by simp) y h.1,ih ys h.2 (fun z hz=>hf z (by simp[hz]))];rfl
theorem exSame_self (e:Ex):e.same e=true:=by
 induction e using Ex.ind with
 | h op mon name n ad cap kids pos ih =>
  rw[same_mk]
  have:all2 Ex.same kids kids=true:=by
   clear ad cap
   induction kids with
   | nil=>rfl
   | cons x l ihl=>rw[all2,ih x (by simp),ihl (fun y hy=>ih y (by simp[hy]))];rfl
  simp[this]
theorem same_of_clr (a:Bl):∀ b:Bl,a.clr=b.clr→a.same b=true:=
 Bl.ind (P:=fun s=>∀ t:St,s.clr=t.clr→s.same t=true) (Q:=fun a=>∀ b:Bl,a.clr=b.clr→a.same b=true)
  (fun kind mon name n e ad cap blocks pos ih t h=>by
   rcases t with ⟨kind',mon',name',n',e',ad',cap',blocks',pos'⟩
   rw[St.clr_mk,St.clr_mk] at h
   injection h with h1 h2 h3 h4 h5 _ _ h6 h7
   subst h1 h2 h3 h4 h5 h7
   have:=all2_of_map (f:=Bl.same) blocks blocks' h6 ih
   rw[stSame_mk,exSame_self,this];simp)
  (fun ad cap body ih b h=>by
   rcases b with ⟨ad',cap',body'⟩
   rw[Bl.clr_mk,Bl.clr_mk] at h
   injection h with _ _ h
   have:=all2_of_map (f:=St.same) body body' h ih
   rw[blSame_mk,this]) a
theorem sum_ones {α:Type} (l:List α) (f:α→Nat) (h:∀ s∈l,f s=1):(l.map f).sum=l.length:=by
 induction l with
 | nil=>rfl
 | cons a l ih=>rw[List.map_cons,List.sum_cons,h a (by simp),ih (fun s hs=>h s (by simp[hs])),List.length_cons];omega
theorem cnt_none {p:Pr} {y:Bl} (h:∀ s∈y.subs,s.kind≠8) (hl:y.subs.length≤400):cntOf p y=(y.subs.length,0)∧callsOf y=[]:=by
 have hc:callsOf y=[]:=by
  refine List.eq_nil_iff_forall_not_mem.2 fun r hr=>?_
  obtain⟨s,hs,hk,_⟩:=(callsOf_mem _ _).1 hr
  exact h s hs hk
 refine⟨?_,hc⟩
 have hr:reachedOf p []=[]:=rfl
 have ht:tot [] y=y.subs.length:=by
  unfold tot sumOf
  exact sum_ones _ _ (fun s hs=>by unfold sown;rw[if_neg (h s hs)])
 rw[cntOf_eq,hc,hr,if_neg (by simp)]
 show cntRes _ (some [])=_
 simp only[cntRes,ht]
 rw[if_neg (by omega)]
 congr 1
 omega
open Go.RowKit
def St.bsub (s:St):Nat:=(s.blocks.flatMap Bl.subs).length
theorem bsub_len (s:St):s.subs.length=1+s.bsub:=by rcases s with ⟨a1,a2,a3,a4,a5,a6,a7,a8,a9⟩;rw[St.subs_mk,List.length_cons];show _=1+(a8.flatMap Bl.subs).length;omega
def lenTo (body:List St) (j:Nat):Nat:=body.length+((body.take j).map St.bsub).sum
theorem lenTo_next (body:List St) (j:Nat) (h:j<body.length):lenTo body (j+1)=lenTo body j+body[j].bsub:=by
 unfold lenTo
 rw[List.take_succ_eq_append_getElem h,List.map_append,List.sum_append]
 simp;omega
theorem lenTo_end (body:List St):lenTo body body.length=(body.flatMap St.subs).length:=by
 unfold lenTo
 rw[List.take_length]
 induction body with
 | nil=>rfl
 | cons s l ih =>
  rw[List.flatMap_cons,List.length_append,← ih,bsub_len,List.length_cons,List.map_cons,List.sum_cons];omega
theorem lenTo_le (body:List St) (j:Nat):lenTo body j≤(body.flatMap St.subs).length:=by
 rw[← lenTo_end]
 unfold lenTo
 rw[List.take_length]
 conv=>rhs;rw[← List.take_append_drop j body,List.map_append,List.sum_append]
 simp only[List.length_append,List.length_take,List.length_drop]
 omega
theorem flat_snoc_len (l:List Bl) (k:Nat) (h:k<l.length):((l.take (k+1)).flatMap Bl.subs).length=((l.take k).flatMap Bl.subs).length+l[k].subs.length:=by
 rw[flatMap_snoc Bl.subs l k h,List.length_append]
theorem flat_take_len (l:List Bl) (k:Nat):((l.take k).flatMap Bl.subs).length≤(l.flatMap Bl.subs).length:=by
 conv=>rhs;rw[← List.take_append_drop k l,List.flatMap_append,List.length_append]
 omega
theorem len_le_sz (l:List St):l.length≤(l.map St.sz).sum:=by
 induction l with
 | nil=>simp
 | cons s l ih =>
  rw[List.length_cons,List.map_cons,List.sum_cons]
  have:1≤s.sz:=by unfold St.sz;omega
  omega
theorem body_le_subs (b:Bl):b.body.length≤b.subs.length:=by
 rcases b with ⟨a,c,body⟩
 rw[Bl.subs_mk]
 exact len_flat1 St.subs body (fun s _=>List.length_pos_of_mem (subs_self s))
theorem calls_le (b:Bl):(callsOf b).length≤b.subs.length:=by
 have:=callsA_len b.subs []
 simpa[callsOf] using this
theorem flat_le {α β γ:Type} (f:α→List β) (g:α→List γ) (l:List α) (h:∀ x∈l,(f x).length≤(g x).length):(l.flatMap f).length≤(l.flatMap g).length:=by
 induction l with
 | nil=>simp
 | cons x l ih =>
  rw[List.flatMap_cons,List.flatMap_cons,List.length_append,List.length_append]
  have h1:=h x (by simp)
  have h2:=ih (fun y hy=>h y (by simp[hy]))
  omega
theorem fine_small {p:Pr} (h:p.size≤400):Fine0 p:=by
 have h1:p.stmts.length≤400:=Nat.le_trans (len_le_sz _) h
 have h2:(p.mons.flatMap fun m=>m.meths.flatMap fun x=>x.body.subs).length≤400:=by
  have:p.stmts=(p.mons.flatMap fun m=>m.meths.flatMap fun x=>x.body.subs)++p.roles.flatMap fun r=>r.body.subs:=rfl
  rw[this,List.length_append] at h1;omega
 have h3:∀ m∈p.mons,∀ f∈m.meths,f.body.subs.length≤400:=fun m hm f hf=>by
  have a1:=len_flat (fun m:Mo=>m.meths.flatMap fun x=>x.body.subs) p.mons m hm
  have a2:=len_flat (fun x:Me=>x.body.subs) m.meths f hf
  omega
 have h4:(allRefs p).length≤400:=Nat.le_trans (flat_le _ _ p.mons fun m _=>flat_le _ _ m.meths fun f _=>calls_le f.body) h2
 refine⟨fun m hm f hf=>by have:=h3 m hm f hf;omega,fun m hm f hf=>by have:=h3 m hm f hf;have:=body_le_subs f.body;omega,by omega,fun r=>?_⟩
 unfold leadsOf bodyOf
 split
 ·rename_i f hf
  obtain⟨m,hm,hfm⟩:=methIx_mem hf
  have:=h3 m hm f hfm;have:=calls_le f.body;omega
 ·rw[callsOf,Bl.subs_mk];simp[callsA]
open Go.RowKit
theorem countOf_ok {p:Pr} {x:Bl} {n:Nat} {e:Int} (h:countOf p x=(n,e)) (he:e=0):p.ok=true∧x.okB=true∧cntOf p x=(n,0):=by
 unfold countOf at h
 split at h
 ·rename_i hk
  have:=Bool.and_eq_true_iff.1 hk
  exact⟨this.1,this.2,by rw[h,he]⟩
 ·injection h with h1 h2;omega
theorem inlined {p:Pr} {x y:Bl} {n:Nat} (h:countOf p x=(n,0)) (hy:y.clr=x.inl (inlR p (reachedOf p (callsOf x)).length)) :
  y.subs.length=n∧n≤400∧callsOf y=[]∧countOf p y=(n,0)∧∀ z:Bl,z.clr=y.inl (inlR p (reachedOf p (callsOf y)).length)→y.same z=true:=by
 obtain⟨h1,h2,h3⟩:=countOf_ok h rfl
 obtain⟨h4,h5⟩:=inl_size h1 h2 h3
 have h6:y.subs.length=n:=by
  have:=congrArg List.length (clr_subs y)
  rw[List.length_map,hy,h4] at this
  exact this.symm
 have h7:∀ s∈y.subs,s.kind≠8:=fun s hs=>by
  have:s.clr∈y.clr.subs:=by rw[clr_subs];exact List.mem_map.2 ⟨s,hs,rfl⟩
  rw[hy] at this
  have:=inl_none p _ x _ this
  rwa [clr_kind] at this
 have h8:y.okB=true:=by
  rw[← clr_okB,hy];exact inl_okB h1 _ h2
 obtain⟨h9,h10⟩:=cnt_none (p:=p) h7 (by omega)
 refine⟨h6,h5,h10,?_,fun z hz=>same_of_clr y z ?_⟩
 ·unfold countOf
  rw[h1,h8]
  simp only[Bool.and_self,if_true]
  rw[h9,h6]
 ·rw[hz,inl_same _ _ h7]
open Go.RowKit
def Ord (G:Ref→List Ref) (A:List Ref):Prop:=∀ (i:Nat) (h:i<A.length),∀ y∈G A[i],y∈A.take i
theorem Ord.snoc {G:Ref→List Ref} {A:List Ref} (h:Ord G A) {r:Ref} (hr:∀ y∈G r,y∈A):Ord G (A++[r]):=by
 intro i hi y hy
 rw[List.length_append,List.length_singleton] at hi
 by_cases hlt:i<A.length
 ·rw[List.getElem_append_left hlt] at hy
  rw[List.take_append_of_le_length (by omega)]
  exact h i hlt y hy
 ·have hi2:i=A.length:=by omega
  subst hi2
  rw[List.getElem_append_right (by omega)] at hy
  simp at hy
  rw[List.take_left]
  exact hr y hy
theorem dfs_ord {G:Ref→List Ref} {U:List Ref} {D:Ref→Prop} {rk:Ref→Nat} (hUc:∀ r∈U,∀ x∈G r,x∈U) (hU:∀ r,D r→r∈U∧∀ x∈G r,D x∧rk x<rk r) (n:Nat):∀ (st:List Ref × List Ref) (r:Ref),D r→left U st.1≤n→Ord G st.2→(∀ x∈st.1,x∈st.2∨rk r<rk x)→Ord G (dfs G n st r).2:=by
 induction n with
 | zero=>intro st r _ _ h _;exact h
 | succ n ih =>
  rintro⟨S,A⟩ r hr hl ho hp
  by_cases hm:r∈S
  ·rw[dfs_seen hm];exact ho
  ·rw[dfs_new hm]
   have hl2:=left_snoc (hU r hr).1 hm
   simp only at hl ho hp
   have hf:∀ (l:List Ref),(∀ x∈l,D x∧rk x<rk r)→∀ st:List Ref × List Ref,left U st.1≤n→Ord G st.2→(∀ x∈st.1,x∈st.2∨rk r≤rk x) →
     Ord G (l.foldl (dfs G n) st).2∧(∀ x∈(l.foldl (dfs G n) st).1,x∈(l.foldl (dfs G n) st).2∨rk r≤rk x)∧∀ x∈l,x∈(l.foldl (dfs G n) st).1:=by
    intro l
    induction l with
    | nil=>intro _ st _ h1 h2;exact⟨h1,h2,fun x hx=>by cases hx⟩
    | cons y l ihl =>
     intro hl st hs h1 h2
     obtain⟨hy1,hy2⟩:=hl y (by simp)
     have hd:=dfs_done hUc n st y (hU y hy1).1 hs
     have ho:=ih st y hy1 hs h1 (fun x hx=>by
      rcases h2 x hx with h|h
      ·exact .inl h
      ·exact .inr (by omega))
     have hlm:=left_mono (U:=U) (dfs_mono G n st y)
     obtain⟨g1,g2,g3⟩:=ihl (fun z hz=>hl z (by simp[hz])) (dfs G n st y) (by omega) ho (fun x hx=>by
      rcases hd.2 x hx with h|h
      ·rcases h2 x h with h|h
       ·exact .inl (dfs_mono2 G n st y x h)
       ·exact .inr h
      ·exact .inl h)
     refine⟨g1,g2,fun x hx=>?_⟩
     rcases List.mem_cons.1 hx with rfl|hx
     ·exact fold_dfs_mono G n l _ x hd.1
     ·exact g3 x hx
   obtain⟨g1,g2,g3⟩:=hf (G r) (hU r hr).2 (S++[r],A) (by show left U (S++[r])≤n;omega) ho (fun x hx=>by
    rcases List.mem_append.1 hx with h|h
    ·rcases hp x h with h|h
     ·exact .inl h
     ·exact .inr (by omega)
    ·rw[List.mem_singleton.1 h];exact .inr (Nat.le_refl _))
   refine g1.snoc fun y hy=>?_
   rcases g2 y (g3 y hy) with h|h
   ·exact h
   ·have:=((hU r hr).2 y hy).2;omega
theorem reached_ord {p:Pr} {l:List Ref} {D:Ref→Prop} {rk:Ref→Nat} (hC:∀ r,D r→∀ x∈leadsOf p r,D x∧rk x<rk r) (hl:∀ x∈l,D x):Ord (leadsOf p) (reachedOf p l):=by
 have hU:=closedU p l
 have hD:∀ r,(D r∧r∈l++allRefs p)→r∈l++allRefs p∧∀ x∈leadsOf p r,(D x∧x∈l++allRefs p)∧rk x<rk r:=fun r hr=>⟨hr.2,fun x hx=>⟨⟨(hC r hr.1 x hx).1,hU r hr.2 x hx⟩,(hC r hr.1 x hx).2⟩⟩
 have key:∀ (m:List Ref),(∀ x∈m,D x∧x∈l++allRefs p)→∀ st:List Ref × List Ref,left (l++allRefs p) st.1≤l.length+(allRefs p).length→(∀ x∈st.1,x∈st.2)→Ord (leadsOf p) st.2→Ord (leadsOf p) (m.foldl (dfs (leadsOf p) (l.length+(allRefs p).length)) st).2:=by
  intro m
  induction m with
  | nil=>intro _ st _ _ h;exact h
  | cons y m ih =>
   intro hm st hs h ho
   have h1:=dfs_done hU _ st y (hm y (by simp)).2 hs
   have h2:=left_mono (U:=l++allRefs p) (dfs_mono (leadsOf p) (l.length+(allRefs p).length) st y)
   exact ih (fun x hx=>hm x (by simp[hx])) (dfs (leadsOf p) (l.length+(allRefs p).length) st y) (by omega) (fun x hx=>by
    rcases h1.2 x hx with h5|h5
    ·exact dfs_mono2 _ _ _ _ x (h x h5)
    ·exact h5) (dfs_ord hU hD _ st y (hm y (by simp)) hs ho fun x hx=>.inl (h x hx))
 have h2:left (l++allRefs p) []≤l.length+(allRefs p).length:=Nat.le_trans (List.length_filter_le _ _) (by simp)
 exact key l (fun x hx=>⟨hl x hx,List.mem_append.2 (.inl hx)⟩) ([],[]) h2 (fun x hx=>by cases hx) (fun i h=>by simp at h)
theorem reached_min {p:Pr} {l C:List Ref} (hC:∀ r∈C,∀ x∈leadsOf p r,x∈C) (hl:∀ x∈l,x∈C):∀ x∈reachedOf p l,x∈C:=
 fold_dfs_sub hC _ l hl ([],[]) (fun x hx=>by cases hx)
theorem sizesF_ord {body:Ref→Bl}:∀ (R:List Ref) (Z:List (Ref × Nat)),(∀ x∈Z.map Prod.fst,szGet Z x≠0)→(Z.map Prod.fst++R).Nodup→(∀ (i:Nat) (h:i<R.length),∀ y∈callsOf (body R[i]),y∈Z.map Prod.fst++R.take i)→∃ Z',sizesF (fun r=>callsOf (body r)) body R Z=some Z':=by
 intro R
 induction R with
 | nil=>intro Z _ _ _;exact⟨Z,rfl⟩
 | cons r R ih =>
  intro Z hz hn ho
  have h0:¬ ∃ x∈callsOf (body r),szGet Z x=0:=by
   rintro⟨x,hx,h⟩
   have:=ho 0 (by simp) x hx
   simp only[List.take_zero,List.append_nil] at this
   exact hz x this h
  have hrn:r ∉ Z.map Prod.fst:=by
   intro hm
   exact (List.nodup_append.1 hn).2.2 r hm r (by simp) rfl
  rw[sizesF,if_neg h0]
  refine ih _ (fun x hx=>?_) (by simpa using hn) (fun i hi y hy=>?_)
  ·by_cases hxz:x∈Z.map Prod.fst
   ·rw[szGet_app hxz];exact hz x hxz
   ·have hxr:x=r:=by
     rw[List.map_append] at hx
     rcases List.mem_append.1 hx with h|h
     ·exact absurd h hxz
     ·simpa using h
    subst hxr
    have:=szGet_new (E:=[]) (v:=1+min 401 (tot Z (body x))) hrn
    rw[List.append_nil] at this
    rw[this];omega
  ·have:=ho (i+1) (by simpa using hi) y hy
   simpa[or_assoc] using this
theorem cnt_closed {p:Pr} {x:Bl} {C:List Ref} {rk:Ref→Nat} (hC:∀ r∈C,∀ y∈leadsOf p r,y∈C∧rk y<rk r) (hroot:∀ r∈callsOf x,r∈C) (hk:∀ r∈C,methIx p.mons r.1 r.2≠none) :
  ∃ Z,Good p x (reachedOf p (callsOf x)) Z∧cntOf p x=if 400<min 401 (tot Z x) then (0,81) else (min 401 (tot Z x),0):=by
 have hmin:=reached_min (fun r hr y hy=>(hC r hr y hy).1) hroot
 have hord:=reached_ord (D:=fun r=>r∈C) hC hroot
 have hnd:=reached_nodup p (callsOf x)
 have hkn:¬ ∃ r∈reachedOf p (callsOf x),methIx p.mons r.1 r.2=none:=fun ⟨r,hr,h⟩=>hk r (hmin r hr) h
 obtain⟨Z,hz⟩:=sizesF_ord (body:=bodyOf p) (reachedOf p (callsOf x)) [] (fun x hx=>by cases hx) (by simpa using hnd) (fun i hi y hy=>by simpa using hord i hi y hy)
 obtain⟨-,g2,g3,g4⟩:=sizesF_some (body:=bodyOf p) _ _ _ hz (by simpa using hnd)
 refine⟨Z,⟨reached_has p _,hnd,fun r hr y hy=>?_,g4,fun r hr=>hk r (hmin r hr)⟩,?_⟩
 ·obtain⟨i,hi,rfl⟩:=List.getElem_of_mem hr
  have h2:=hord i hi y hy
  obtain⟨k,hk2,rfl⟩:=List.getElem_of_mem h2
  rw[List.length_take] at hk2
  rw[List.getElem_take]
  exact⟨List.getElem_mem _,by rw[rkOf_at hnd,rkOf_at hnd hi];omega⟩
 ·rw[cntOf_eq,if_neg hkn]
  show cntRes _ (sizesF (fun r=>callsOf (bodyOf p r)) (bodyOf p) (reachedOf p (callsOf x)) [])=_
  rw[hz];rfl
theorem size_uniq {p:Pr} {x x':Bl} {R R':List Ref} {Z Z':List (Ref × Nat)} (h:Good p x R Z) (h':Good p x' R' Z'):∀ (n:Nat) (r:Ref),r∈R→r∈R'→rkOf R r<n→szGet Z r=szGet Z' r:=by
 intro n
 induction n with
 | zero=>intro r _ _ hn;omega
 | succ n ih =>
  intro r hr hr' hn
  rw[h.size r hr,h'.size r hr']
  congr 2
  unfold tot
  refine sumOf_congr fun t ht hk=>?_
  have ht2:t.ref∈leadsOf p r:=(callsOf_mem _ _).2 ⟨t,ht,hk,rfl⟩
  have:=h.leads r hr _ ht2
  exact ih _ this.1 (h'.leads r hr' _ ht2).1 (by omega)
theorem tot_uniq {p:Pr} {x x':Bl} {R R':List Ref} {Z Z':List (Ref × Nat)} (h:Good p x R Z) (h':Good p x' R' Z') (y:Bl) (hy:∀ r∈callsOf y,r∈R∧r∈R'):tot Z y=tot Z' y:=by
 unfold tot
 refine sumOf_congr fun t ht hk=>?_
 have:=hy t.ref ((callsOf_mem _ _).2 ⟨t,ht,hk,rfl⟩)
 exact size_uniq h h' _ _ this.1 this.2 (Nat.lt_succ_self _)
theorem inl_congr {f g:Ref→Bl} (x:Bl):(∀ s∈x.subs,s.kind=8→f s.ref=g s.ref)→x.inl f=x.inl g:=
 Bl.ind (P:=fun s=>(∀ t∈s.subs,t.kind=8→f t.ref=g t.ref)→s.inl f=s.inl g) (Q:=fun b=>(∀ t∈b.subs,t.kind=8→f t.ref=g t.ref)→b.inl f=b.inl g)
  (fun kind mon name n e ad cap blocks pos ih h=>by
   by_cases hk:kind=8
   ·subst hk
    rw[St.inl_call,St.inl_call]
    have:=h _ (subs_self _) rfl
    rw[show f (mon,name)=g (mon,name) from this]
   ·rw[St.inl_other f kind hk,St.inl_other g kind hk]
    congr 1
    refine List.map_congr_left fun b hb=>ih b hb fun t ht=>h t ?_
    exact subs_block (s:=St.mk kind mon name n e ad cap blocks pos) hb t ht)
  (fun ad cap body ih h=>by
   rw[Bl.inl_mk,Bl.inl_mk]
   congr 1
   refine List.map_congr_left fun s hs=>ih s hs fun t ht=>h t ?_
   rw[Bl.subs_mk]
   exact List.mem_flatMap.2 ⟨s,hs,ht⟩) x
theorem inlR_uniq {p:Pr} {x x':Bl} {R R':List Ref} {Z Z':List (Ref × Nat)} (h:Good p x R Z) (h':Good p x' R' Z'):∀ (n m:Nat) (r:Ref),r∈R→r∈R'→rkOf R r<n→rkOf R' r<m→inlR p n r=inlR p m r:=by
 intro n
 induction n with
 | zero=>intro m r _ _ hn;omega
 | succ n ih =>
  intro m r hr hr' hn hm
  cases m with
  | zero=>omega
  | succ m =>
   show (bodyOf p r).inl _=(bodyOf p r).inl _
   refine inl_congr _ fun t ht hk=>?_
   have ht2:t.ref∈leadsOf p r:=(callsOf_mem _ _).2 ⟨t,ht,hk,rfl⟩
   have h1:=h.leads r hr _ ht2
   have h2:=h'.leads r hr' _ ht2
   exact ih m _ h1.1 h2.1 (by omega) (by omega)
theorem cat_subs {x y z:Bl} (hz:z.body=x.body++y.body):z.subs=x.subs++y.subs:=by
 rcases x with ⟨a1,c1,b1⟩
 rcases y with ⟨a2,c2,b2⟩
 rcases z with ⟨a3,c3,b3⟩
 have hz:b3=b1++b2:=hz
 rw[Bl.subs_mk,Bl.subs_mk,Bl.subs_mk,hz,List.flatMap_append]
theorem cat_calls {x y z:Bl} (hz:z.body=x.body++y.body) (r:Ref):r∈callsOf z↔r∈callsOf x∨r∈callsOf y:=by
 rw[callsOf_mem,callsOf_mem,callsOf_mem,cat_subs hz]
 constructor
 ·rintro⟨s,hs,h⟩
  rcases List.mem_append.1 hs with hs|hs
  ·exact .inl ⟨s,hs,h⟩
  ·exact .inr ⟨s,hs,h⟩
 ·rintro (⟨s,hs,h⟩|⟨s,hs,h⟩)
  ·exact⟨s,List.mem_append.2 (.inl hs),h⟩
  ·exact⟨s,List.mem_append.2 (.inr hs),h⟩
theorem cat_tot {x y z:Bl} (hz:z.body=x.body++y.body) (Z:List (Ref × Nat)):tot Z z=tot Z x+tot Z y:=by
 unfold tot;rw[cat_subs hz,sumOf_append]
theorem cat_ok {x y z:Bl} (hz:z.body=x.body++y.body):z.okB=(x.okB&&y.okB):=by
 unfold Bl.okB;rw[cat_subs hz,List.all_append]
theorem cnt_small {p:Pr} {x:Bl} {Z:List (Ref × Nat)} (h:cntOf p x=if 400<min 401 (tot Z x) then (0,81) else (min 401 (tot Z x),0)) (ht:tot Z x≤400):(cntOf p x).2=0:=by
 rw[h,if_neg (by omega)]
theorem part_zero {p:Pr} {x z:Bl} {n:Nat} (hpk:p.ok=true) (hxk:x.okB=true) (hc:cntOf p z=(n,0)) (hx:∀ r∈callsOf x,r∈callsOf z) (ht:∀ Z,tot Z x≤tot Z z):(countOf p x).2=0∧x.inl (inlR p (reachedOf p (callsOf x)).length)=x.inl (inlR p (reachedOf p (callsOf z)).length):=by
 obtain⟨Z,hg,h1,h2⟩:=good_of hc
 obtain⟨Z',hg',h3⟩:=cnt_closed hg.leads (fun r hr=>hg.root r (hx r hr)) hg.known
 have hsub:=reached_min (fun r hr y hy=>(hg.leads r hr y hy).1) (fun r hr=>hg.root r (hx r hr))
 have h4:=tot_uniq hg' hg x (fun r hr=>⟨hg'.root r hr,hg.root r (hx r hr)⟩)
 have h5:=ht Z
 refine⟨?_,?_⟩
 ·unfold countOf
  rw[hpk,hxk]
  simp only[Bool.and_self,if_true]
  exact cnt_small h3 (by omega)
 ·refine inl_congr x fun s hs hk=>?_
  have h6:s.ref∈callsOf x:=(callsOf_mem _ _).2 ⟨s,hs,hk,rfl⟩
  have h7:=hg'.root _ h6
  have h8:=hg.root _ (hx _ h6)
  exact inlR_uniq hg' hg _ _ _ h7 h8 (rkOf_lt h7) (rkOf_lt h8)
theorem parts_ok {p:Pr} {x y z:Bl} (hz:z.body=x.body++y.body) (h:(countOf p z).2=0) :
  (countOf p x).2=0∧(countOf p y).2=0∧∀ a b c d:Bl,a.clr=x.inl (inlR p (reachedOf p (callsOf x)).length)→b.clr=y.inl (inlR p (reachedOf p (callsOf y)).length)→c.clr=z.inl (inlR p (reachedOf p (callsOf z)).length)→d.body=a.body++b.body→c.same d=true:=by
 obtain⟨hpk,hzk,hc⟩:=countOf_ok (n:=(countOf p z).1) (e:=(countOf p z).2) rfl h
 rw[cat_ok hz] at hzk
 obtain⟨hxk,hyk⟩:=Bool.and_eq_true_iff.1 hzk
 obtain⟨hx1,hx2⟩:=part_zero hpk hxk hc (fun r hr=>(cat_calls hz r).2 (.inl hr)) (fun Z=>by rw[cat_tot hz];omega)
 obtain⟨hy1,hy2⟩:=part_zero hpk hyk hc (fun r hr=>(cat_calls hz r).2 (.inr hr)) (fun Z=>by rw[cat_tot hz];omega)
 refine⟨hx1,hy1,fun a b c d ha hb hc hd=>same_of_clr c d ?_⟩
 rw[hx2] at ha
 rw[hy2] at hb
 rw[hc]
 generalize inlR p (reachedOf p (callsOf z)).length=f at ha hb ⊢
 rcases x with ⟨a1,c1,b1⟩
 rcases y with ⟨a2,c2,b2⟩
 rcases z with ⟨a3,c3,b3⟩
 rcases a with ⟨a4,c4,b4⟩
 rcases b with ⟨a5,c5,b5⟩
 rcases d with ⟨a6,c6,b6⟩
 have hz:b3=b1++b2:=hz
 have hd:b6=b4++b5:=hd
 rw[Bl.clr_mk,Bl.inl_mk] at ha hb
 injection ha with _ _ ha
 injection hb with _ _ hb
 rw[Bl.inl_mk,Bl.clr_mk,hz,hd,List.map_append,List.map_append,ha,hb]
theorem parts_big {p:Pr} {x y z:Bl} (hz:z.body=x.body++y.body) (hx:(countOf p x).2=0) (hy:(countOf p y).2=0):(countOf p z).2=0∨(countOf p z).2=81:=by
 obtain⟨hpk,hxk,hcx⟩:=countOf_ok (n:=(countOf p x).1) (e:=(countOf p x).2) rfl hx
 obtain⟨-,hyk,hcy⟩:=countOf_ok (n:=(countOf p y).1) (e:=(countOf p y).2) rfl hy
 obtain⟨Zx,hgx,-,-⟩:=good_of hcx
 obtain⟨Zy,hgy,-,-⟩:=good_of hcy
 generalize reachedOf p (callsOf x)=Rx at hgx
 generalize reachedOf p (callsOf y)=Ry at hgy
 obtain⟨Z,hg,h3⟩:=cnt_closed (p:=p) (x:=z) (C:=Rx++Ry) (rk:=fun r=>if r∈Rx then rkOf Rx r else Rx.length+rkOf Ry r) (fun r hr s hs=>by
  by_cases h1:r∈Rx
  ·have h2:=hgx.leads r h1 s hs
   refine⟨List.mem_append.2 (.inl h2.1),?_⟩
   simp only[h1,h2.1,if_true];exact h2.2
  ·have h4:r∈Ry:=by
    rcases List.mem_append.1 hr with h|h
    ·exact absurd h h1
    ·exact h
   have h2:=hgy.leads r h4 s hs
   refine⟨List.mem_append.2 (.inr h2.1),?_⟩
   by_cases h5:s∈Rx
   ·have:=rkOf_lt h5
    simp only[h1,h5,if_true,if_false];omega
   ·simp only[h1,h5,if_false];omega) (fun r hr=>by
  rcases (cat_calls hz r).1 hr with h|h
  ·exact List.mem_append.2 (.inl (hgx.root r h))
  ·exact List.mem_append.2 (.inr (hgy.root r h))) (fun r hr=>by
  rcases List.mem_append.1 hr with h|h
  ·exact hgx.known r h
  ·exact hgy.known r h)
 unfold countOf
 rw[hpk,cat_ok hz,hxk,hyk]
 simp only[Bool.and_self,if_true]
 rw[h3]
 split
 ·exact .inr rfl
 ·exact .inl rfl
open Go.RowKit
def addR (S:List Ref) (r:Ref):List Ref:=if r∈S then S else S++[r]
def addN (S m:List Ref):List Ref:=m.foldl addR S
theorem addR_has (S:List Ref) (r:Ref):r∈addR S r:=by
 unfold addR;split
 ·assumption
 ·simp
theorem addR_mem (S:List Ref) (r x:Ref):x∈addR S r↔x∈S∨x=r:=by
 unfold addR;split
 ·rename_i h
  constructor
  ·exact .inl
  ·rintro (h'|rfl)
   ·exact h'
   ·exact h
 ·simp
theorem addN_mem (m:List Ref):∀ (S:List Ref) (x:Ref),x∈addN S m↔x∈S∨x∈m:=by
 induction m with
 | nil=>intro S x;simp[addN]
 | cons r m ih =>
  intro S x
  show x∈addN (addR S r) m↔_
  rw[ih,addR_mem,List.mem_cons,or_assoc]
theorem addN_snoc (S m:List Ref) (r:Ref):addN S (m++[r])=addR (addN S m) r:=by simp[addN]
theorem addR_nodup {S:List Ref} (h:S.Nodup) (r:Ref):(addR S r).Nodup:=by
 unfold addR;split
 ·exact h
 ·rename_i hr
  exact List.nodup_append.2 ⟨h,by simp,fun a ha c hc=>by simp at hc;rintro rfl;exact hr (hc▸ha)⟩
theorem addN_nodup (m:List Ref):∀ {S:List Ref},S.Nodup→(addN S m).Nodup:=by
 induction m with
 | nil=>intro S h;exact h
 | cons r m ih=>intro S h;exact ih (addR_nodup h r)
theorem cstep_add (S T:List Ref) (s:St):addN S (cstep T s)=cstep (addN S T) s:=by
 by_cases hk:s.kind=8
 ·by_cases ht:s.ref∈T
  ·rw[cstep_no (S:=T) (fun h=>h.2 ht),cstep_no (S:=addN S T) (fun h=>h.2 ((addN_mem T S _).2 (.inr ht)))]
  ·rw[cstep_yes ⟨hk,ht⟩,addN_snoc]
   unfold addR
   split
   ·rename_i h;rw[cstep_no (fun h'=>h'.2 h)]
   ·rename_i h;rw[cstep_yes ⟨hk,h⟩]
 ·rw[cstep_no (fun h=>hk h.1),cstep_no (fun h=>hk h.1)]
theorem addN_calls (l:List St):∀ S T:List Ref,addN S (callsA T l)=callsA (addN S T) l:=by
 induction l with
 | nil=>intro S T;rfl
 | cons s l ih =>
  intro S T
  show addN S (callsA (cstep T s) l)=callsA (cstep (addN S T) s) l
  rw[ih,cstep_add]
theorem addN_block (S:List Ref) (b:Bl):addN S (callsOf b)=callsA S b.subs:=addN_calls b.subs S []
theorem cstep_addR (S:List Ref) (s:St) (h:s.kind=8):cstep S s=addR S s.ref:=by
 unfold addR;split
 ·rename_i hr;exact cstep_no fun h'=>h'.2 hr
 ·rename_i hr;exact cstep_yes ⟨h,hr⟩
theorem dfs_closed {G:Ref→List Ref} {U:List Ref} (hU:∀ r∈U,∀ x∈G r,x∈U) (n:Nat):∀ (st:List Ref × List Ref) (r:Ref),r∈U→left U st.1≤n→(∀ x∈st.2,∀ y∈G x,y∈st.1)→∀ x∈(dfs G n st r).2,∀ y∈G x,y∈(dfs G n st r).1:=by
 induction n with
 | zero=>intro st r _ _ h;exact h
 | succ n ih =>
  rintro⟨S,A⟩ r hr hl hc
  by_cases hm:r∈S
  ·rw[dfs_seen hm];exact hc
  ·rw[dfs_new hm]
   have hl2:=left_snoc hr hm
   simp only at hl hc
   have hf:∀ (l:List Ref),(∀ x∈l,x∈U)→∀ st:List Ref × List Ref,left U st.1≤n→(∀ x∈st.2,∀ y∈G x,y∈st.1) →
     (∀ x∈(l.foldl (dfs G n) st).2,∀ y∈G x,y∈(l.foldl (dfs G n) st).1)∧∀ x∈l,x∈(l.foldl (dfs G n) st).1:=by
    intro l
    induction l with
    | nil=>intro _ st _ h;exact⟨h,fun x hx=>by cases hx⟩
    | cons z l ihl =>
     intro hl st hs h
     have hd:=dfs_done hU n st z (hl z (by simp)) hs
     have hlm:=left_mono (U:=U) (dfs_mono G n st z)
     obtain⟨g1,g2⟩:=ihl (fun x hx=>hl x (by simp[hx])) (dfs G n st z) (by omega) (ih st z (hl z (by simp)) hs h)
     refine⟨g1,fun x hx=>?_⟩
     rcases List.mem_cons.1 hx with rfl|hx
     ·exact fold_dfs_mono G n l _ x hd.1
     ·exact g2 x hx
   obtain⟨g1,g2⟩:=hf (G r) (hU r hr) (S++[r],A) (by show left U (S++[r])≤n;omega) (fun x hx y hy=>List.mem_append.2 (.inl (hc x hx y hy)))
   intro x hx y hy
   rcases List.mem_append.1 hx with h|h
   ·exact g1 x h y hy
   ·rw[List.mem_singleton.1 h] at hy
    exact g2 y hy
theorem reached_closed (p:Pr) (l:List Ref):∀ r∈reachedOf p l,∀ y∈leadsOf p r,y∈reachedOf p l:=by
 have hU:=closedU p l
 have key:∀ (m:List Ref),(∀ x∈m,x∈l++allRefs p)→∀ st:List Ref × List Ref,left (l++allRefs p) st.1≤l.length+(allRefs p).length→(∀ x∈st.1,x∈st.2)→(∀ x∈st.2,∀ y∈leadsOf p x,y∈st.1) →
   (∀ x∈(m.foldl (dfs (leadsOf p) (l.length+(allRefs p).length)) st).1,x∈(m.foldl (dfs (leadsOf p) (l.length+(allRefs p).length)) st).2)∧∀ x∈(m.foldl (dfs (leadsOf p) (l.length+(allRefs p).length)) st).2,∀ y∈leadsOf p x,y∈(m.foldl (dfs (leadsOf p) (l.length+(allRefs p).length)) st).1:=by
  intro m
  induction m with
  | nil=>intro _ st _ h1 h2;exact⟨h1,h2⟩
  | cons z m ih =>
   intro hm st hs h1 h2
   have hd:=dfs_done hU _ st z (hm z (by simp)) hs
   have hlm:=left_mono (U:=l++allRefs p) (dfs_mono (leadsOf p) (l.length+(allRefs p).length) st z)
   exact ih (fun x hx=>hm x (by simp[hx])) _ (by omega) (fun x hx=>by
    rcases hd.2 x hx with h5|h5
    ·exact dfs_mono2 _ _ _ _ x (h1 x h5)
    ·exact h5) (dfs_closed hU _ st z (hm z (by simp)) hs h2)
 have h2:left (l++allRefs p) []≤l.length+(allRefs p).length:=Nat.le_trans (List.length_filter_le _ _) (by simp)
 obtain⟨h3,h4⟩:=key l (fun x hx=>List.mem_append.2 (.inl hx)) ([],[]) h2 (fun x hx=>by cases hx) (fun x hx=>by cases hx)
 exact fun r hr y hy=>h3 y (h4 r hr y hy)
structure Leads (p:Pr) (l L:List Ref):Prop where
 has:∀ x∈l,x∈L
 closed:∀ r∈L,∀ y∈leadsOf p r,y∈L
 min:∀ C:List Ref,(∀ r∈C,∀ y∈leadsOf p r,y∈C)→(∀ x∈l,x∈C)→∀ x∈L,x∈C
theorem Leads.iff {p:Pr} {l L:List Ref} (h:Leads p l L) (x:Ref):x∈L↔x∈reachedOf p l:=
 ⟨h.min _ (reached_closed p l) (reached_has p l) x,reached_min h.closed h.has x⟩
def Round (p:Pr) (r:Ref):Prop:=r∈reachedOf p (leadsOf p r)
instance (p:Pr) (r:Ref):Decidable (Round p r):=decMemRef r _
theorem nodup_le {A B:List Ref} (hA:A.Nodup) (h:∀ x∈A,x∈B):A.length≤B.length:=by
 induction A generalizing B with
 | nil=>simp
 | cons a A ih =>
  obtain⟨ha,hA'⟩:=List.nodup_cons.1 hA
  obtain⟨i,hi,he⟩:=List.getElem_of_mem (h a (by simp))
  have h2:=ih (B:=B.eraseIdx i) hA' (fun x hx=>by
   obtain⟨k,hk,hke⟩:=List.getElem_of_mem (h x (by simp[hx]))
   have hne:k≠i:=by rintro rfl;exact ha (by rw[← he,hke];exact hx)
   rw[List.mem_eraseIdx_iff_getElem]
   exact⟨k,hk,hne,hke⟩)
  have h3:=List.length_eraseIdx_of_lt hi
  simp only[List.length_cons];omega
theorem nodup_lt {A B:List Ref} (hA:A.Nodup) (h:∀ x∈A,x∈B) {y:Ref} (hy:y∈B) (hn:y ∉ A):A.length<B.length:=by
 have h2:=nodup_le (A:=y::A) (B:=B) (List.nodup_cons.2 ⟨hn,hA⟩) (fun x hx=>by
  rcases List.mem_cons.1 hx with rfl|hx
  ·exact hy
  ·exact h x hx)
 rw[List.length_cons] at h2
 omega
theorem rank_of {p:Pr} {C:List Ref} (hC:∀ r∈C,∀ y∈leadsOf p r,y∈C) (hn:∀ r∈C,¬ Round p r):∀ r∈C,∀ y∈leadsOf p r,y∈C∧(reachedOf p (leadsOf p y)).length<(reachedOf p (leadsOf p r)).length:=by
 intro r hr y hy
 refine⟨hC r hr y hy,?_⟩
 have h1:y∈reachedOf p (leadsOf p r):=reached_has p _ y hy
 refine nodup_lt (reached_nodup p _) (reached_min (reached_closed p _) (fun x hx=>reached_closed p _ y h1 x hx)) h1 ?_
 exact hn y (hC r hr y hy)
theorem not_round {p:Pr} {C:List Ref} {rk:Ref→Nat} (hC:∀ r∈C,∀ y∈leadsOf p r,y∈C∧rk y<rk r):∀ r∈C,¬ Round p r:=by
 intro r hr h
 have h1:∀ x∈C.filter (fun x=>decide (rk x<rk r)),∀ y∈leadsOf p x,y∈C.filter (fun x=>decide (rk x<rk r)):=by
  intro x hx y hy
  rw[List.mem_filter] at hx ⊢
  have h2:=hC x hx.1 y hy
  have h3:rk x<rk r:=by simpa using hx.2
  exact⟨h2.1,by simp;omega⟩
 have h4:=reached_min h1 (l:=leadsOf p r) (fun x hx=>by
  rw[List.mem_filter]
  have h2:=hC r hr x hx
  exact⟨h2.1,by simpa using h2.2⟩) r h
 rw[List.mem_filter] at h4
 simp at h4
theorem cnt_cases (p:Pr) (x:Bl) :
  ((∃ r∈reachedOf p (callsOf x),methIx p.mons r.1 r.2=none)∧cntOf p x=(0,61)) ∨
  ((∀ r∈reachedOf p (callsOf x),methIx p.mons r.1 r.2≠none)∧(∃ r∈reachedOf p (callsOf x),Round p r)∧cntOf p x=(0,80)) ∨
  ((∀ r∈reachedOf p (callsOf x),methIx p.mons r.1 r.2≠none)∧(∀ r∈reachedOf p (callsOf x),¬ Round p r)∧∃ Z,Good p x (reachedOf p (callsOf x)) Z∧cntOf p x=if 400<min 401 (tot Z x) then (0,81) else (min 401 (tot Z x),0)):=by
 by_cases hk:∃ r∈reachedOf p (callsOf x),methIx p.mons r.1 r.2=none
 ·left;refine⟨hk,?_⟩
  rw[cntOf_eq,if_pos hk]
 ·have hk2:∀ r∈reachedOf p (callsOf x),methIx p.mons r.1 r.2≠none:=fun r hr h=>hk ⟨r,hr,h⟩
  right
  by_cases hr:∃ r∈reachedOf p (callsOf x),Round p r
  ·left;refine⟨hk2,hr,?_⟩
   rw[cntOf_eq,if_neg hk]
   cases hz:sizesF (leadsOf p) (bodyOf p) (reachedOf p (callsOf x)) [] with
   | none=>rfl
   | some Z =>
    obtain⟨r,hr1,hr2⟩:=hr
    have hnd:=reached_nodup p (callsOf x)
    obtain⟨-,g2,g3,g4⟩:=sizesF_some (body:=bodyOf p) _ _ _ hz (by simpa using hnd)
    exact absurd hr2 (not_round (C:=reachedOf p (callsOf x)) (rk:=rkOf (reachedOf p (callsOf x))) (fun r hr y hy=>by
     obtain⟨i,hi,rfl⟩:=List.getElem_of_mem hr
     have h2:=g3 i hi y hy
     simp only[List.map_nil,List.nil_append] at h2
     obtain⟨k,hk2,rfl⟩:=List.getElem_of_mem h2
     rw[List.length_take] at hk2
     rw[List.getElem_take]
     exact⟨List.getElem_mem _,by rw[rkOf_at hnd,rkOf_at hnd hi];omega⟩) r hr1)
  ·right
   have hr2:∀ r∈reachedOf p (callsOf x),¬ Round p r:=fun r h h'=>hr ⟨r,h,h'⟩
   refine⟨hk2,hr2,?_⟩
   exact cnt_closed (C:=reachedOf p (callsOf x)) (rk:=fun r=>(reachedOf p (leadsOf p r)).length) (rank_of (reached_closed p _) hr2) (reached_has p _) hk2
open Go.RowKit
def hasR (l:List Ref) (r:Ref):Bool:=decide (r∈l)
set_option maxRecDepth 100000 in
set_option maxHeartbeats 4000000 in
theorem hasRef_any (l:List Ref) (ad:Option Addr) (cap n₀:Nat) (a c:ByteArray) (w:World) (hn:n₀≤w.heap.size) (hsl:SlAt 2 rcells n₀ w ad cap l) (hr:VLen (a,c)) (hV:∀ r∈l,VLen r) :
  Calls Tryz.prog 37 #[.slice ad l.length cap,.agg #[.string a,.string c]] w fun e w'=>e=.returned (.bool (hasR l (a,c)))∧Below w.heap.size w w':=by
 have hl1:=hsl.1;have hl2:=hsl.2.1
 unfold maxLen at hl2
 have HR:=hid (show hasR l (a,c)=decide ((a,c)∈l) from rfl)
 obtain⟨rr,hrr⟩:∃ rr,hasR l (a,c)=rr:=⟨_,rfl⟩
 rw[hrr] at HR ⊢
 clear hrr
 go_enter Tryz.func37,Tryz.ntmps37
 go_upto_region 1 with fail
 obtain⟨bX,hBX,hzX⟩:=one_box w #[.string a,.string c] 70
 obtain⟨W1,hW1⟩:∃ W1,w.alloc (.cells #[.string a,.string c] 70)=W1:=⟨_,rfl⟩
 rw[hW1] at bX hBX hzX ⊢
 clear hW1
 have HZ:=hid hzX
 clear hzX
 go_wp2
 go_loopw [5] (fun i wr=>∃ k:Nat,k≤l.length∧i=.int .i64 k∧Hid ((a,c) ∉ l.take k)∧Below W1.heap.size W1 wr)
  (fun i _=>l.length-(intOf i).toNat)
 case atStart=>exact⟨0,by omega,rfl,(by show _ ∉ _;simp),Below.refl _ _⟩
 case round =>
  obtain⟨k,hk,rfl,HK,hbx⟩:=hrel
  have hzx:=hbx.size
  have hz0:=HZ.out
  have hbF:Below w.heap.size w wr:=hBX.tr (by omega) hbx
  by_cases hlk:k<l.length
  ·rcases hsl.2.2 with h|⟨tb,toff,rfl,htn,htrow⟩
   ·subst h;simp at hlk
   have htrow2:=htrow.below (hbF.mono hn) htn
   have d0:=htrow2 k hlk 0 (by omega)
   have d1:=htrow2 k hlk 1 (by omega)
   have htw:tb<wr.heap.size:=by omega
   have hvx:=hV _ (List.getElem_mem hlk)
   have HX1:Hid (l[k]=(a,c)→(a,c)∈l):=fun h=>h▸List.getElem_mem hlk
   have HX2:Hid (l[k]≠(a,c)→(a,c) ∉ l.take (k+1)):=by
    intro h hx
    rw[List.take_succ_eq_append_getElem hlk] at hx
    rcases List.mem_append.1 hx with hx|hx
    ·exact HK.out hx
    ·exact h (List.mem_singleton.1 hx).symm
   simp only[rcells] at d0 d1
   simp at d0 d1
   obtain⟨g1,hg1⟩:∃ g1,l[k]=g1:=⟨_,rfl⟩
   rw[hg1] at d0 d1 hvx HX1 HX2
   clear hg1
   obtain⟨gm,gn⟩:=g1
   simp only at d0 d1
   have heq:=fun W=>eqRef hvx hr W
   have bXr:=(hbx.block w.heap.size (by omega)).trans bX
   have y0:=cellOf bXr 0
   have y1:=cellOf bXr 1
   simp at y0 y1
   have hww:w.heap.size<wr.heap.size:=by omega
   by_cases he:(a,c)=(gm,gn)
   ·have hd:decide ((a,c)=(gm,gn))=true:=by simp[he]
    simp only[hd] at heq
    have hrt:rr=true:=HR.out.trans (decide_eq_true (HX1.out he.symm))
    subst hrt
    clear HX1 HX2 he hd HR
    go_wp2_with fail
    go_quiet (fail)
    go_wp2
    go_ret
    exact⟨rfl,below_drewN hbF _⟩
   ·have hd:decide ((a,c)=(gm,gn))=false:=by simp only[he,decide_false]
    simp only[hd] at heq
    have HI:=hid (HX2.out (fun h=>he h.symm))
    clear HX1 HX2 he hd
    go_wp2_with fail
    go_quiet (fail)
    go_wp2
    go_roundw
    case rel=>exact⟨k+1,by omega,by go_num,HI.out,below_drewN hbx _⟩
    case measure=>simp[intOf];omega
  ·have hkd:decide ((k:Int)<(l.length:Int))=false:=by simp;omega
   have hke:l.take k=l:=List.take_of_length_le (by omega)
   rw[hke] at HK
   have hrt:rr=false:=HR.out.trans (by simp[HK.out])
   subst hrt
   go_wp2
   go_ret
   exact⟨rfl,hbF⟩
end Go.Proofs.YtpbjikncobnkjaaGreatDoor
