/-
  Own texts joined by program: ClV ClN ClO.
-/
import Derived.Test.YtpbjikncobnkjaaGreatDoorIav
import Derived.Test.YtpbjikncobnkjaaGreatDoorIay
namespace Go.Proofs.YtpbjikncobnkjaaGreatDoor
open Go.RowKit
theorem num_any (x:Int) (w:World):Calls Tryz.prog 9 #[.int .i64 x] w fun r w'=>r=.returned (.int .i64 x)∧w'=w:=by
 go_enter Tryz.func9,Tryz.ntmps9
 go_wp2
 go_ret
 exact⟨rfl,rfl⟩
def lvC:St:=.mk 8 ⟨#[77]⟩ ⟨#[102]⟩ 0 zeroEx none 0 [] 3
def lvS:St:=.mk 1 ⟨#[]⟩ ⟨#[]⟩ 0 zeroEx none 0 [] 0
def lvX (g:Nat):Bl:=.mk (some ⟨g,0,none⟩) 2 [lvC,lvC]
def lvP (g1 g2 g3:Nat) (s:St) (pos:Int):Pr where
 mad:=some ⟨g3,0,none⟩
 mcap:=1
 mons:=[⟨⟨#[77]⟩,none,0,[],some ⟨g2,0,none⟩,1,[⟨⟨#[102]⟩,.mk (some ⟨g1,0,none⟩) 1 [s],pos⟩],0⟩]
 rad:=none
 rcap:=0
 roles:=[]
theorem lv1 (g1 g2 g3 g:Nat):countOf (lvP g1 g2 g3 lvS 0) (lvX g)=(4,0):=by kernel_rfl
theorem lv2 (g:Nat):callsOf (lvX g)=[(⟨#[77]⟩,⟨#[102]⟩)]:=by kernel_rfl
theorem lv3 (g1 g2 g3 g:Nat):(lvX g).inl (inlR (lvP g1 g2 g3 lvS 0) (reachedOf (lvP g1 g2 g3 lvS 0) (callsOf (lvX g))).length)=.mk none 0 [.mk 7 ⟨#[77]⟩ ⟨#[]⟩ 0 zeroEx none 0 [.mk none 0 [lvS]] 3,.mk 7 ⟨#[77]⟩ ⟨#[]⟩ 0 zeroEx none 0 [.mk none 0 [lvS]] 3]:=by kernel_rfl
theorem lv4 (g1 g2 g3:Nat):(lvP g1 g2 g3 lvC 9).cchk=(80,9):=by kernel_rfl
theorem lvC_is (n:Nat) (W:World):lvC.Is n W:=St.Is.up ⟨⟨⟨by decide,by decide⟩,⟨by decide,by decide⟩,⟨by decide,by decide⟩,by unfold Len;decide,by unfold Len;decide⟩,zeroEx_is _ _,⟨by simp,by unfold maxLen;simp,.inl rfl⟩,fun x hx=>by cases hx⟩
theorem lvS_is (n:Nat) (W:World):lvS.Is n W:=St.Is.up ⟨⟨⟨by decide,by decide⟩,⟨by decide,by decide⟩,⟨by decide,by decide⟩,by unfold Len;decide,by unfold Len;decide⟩,zeroEx_is _ _,⟨by simp,by unfold maxLen;simp,.inl rfl⟩,fun x hx=>by cases hx⟩
theorem lvX_is {W:World} {g n:Nat} (hg:W.heap[g]?=some (.cells (lvC.cells++lvC.cells).toArray 64 (0,0))) (hn:g<n):(lvX g).Is n W:=by
 refine Bl.Is.up ⟨⟨by simp,by unfold maxLen;simp,.inr ⟨g,0,rfl,hn,fun j hj i hi=>?_⟩⟩,fun s hs=>?_⟩
 ·rw[Nat.zero_add,cellOf hg]
  have hj2:j<2:=by simpa using hj
  rcases j with _|_|j
  ·rcases i with _|_|_|_|_|_|_|_|_|_|_|_|i <;> first|rfl|omega
  ·rcases i with _|_|_|_|_|_|_|_|_|_|_|_|i <;> first|rfl|omega
  ·omega
 ·have:s=lvC:=by simpa using hs
  rw[this];exact lvC_is _ _
theorem lvP_is {W:World} {g1 g2 g3 n:Nat} {s:St} {pos:Int} (h1:W.heap[g1]?=some (.cells s.cells.toArray 64 (0,0))) (h2:W.heap[g2]?=some (.cells #[.string ⟨#[102]⟩,.slice (some ⟨g1,0,none⟩) 1 1,.int .i64 pos] 56 (0,0))) (h3:W.heap[g3]?=some (.cells #[.string ⟨#[77]⟩,.slice none 0 0,.slice (some ⟨g2,0,none⟩) 1 1,.int .i64 0] 52 (0,0)))
  (hn:g1<n∧g2<n∧g3<n) (hs:s.Is n W) (hp:I64 pos):(lvP g1 g2 g3 s pos).Is n W:=by
 refine⟨⟨⟨by simp[lvP],by unfold maxLen;simp[lvP],.inr ⟨g3,0,rfl,hn.2.2,fun j hj i hi=>?_⟩⟩,fun m hm=>?_⟩,⟨by simp[lvP],by unfold maxLen;simp[lvP],.inl rfl⟩,fun r hr=>by simp[lvP] at hr⟩
 ·rw[Nat.zero_add,cellOf h3]
  have hj2:j=0:=by simp[lvP] at hj;omega
  subst hj2
  rcases i with _|_|_|_|i <;> first|rfl|omega
 ·simp only[lvP,List.mem_cons,List.not_mem_nil,or_false] at hm
  subst hm
  refine⟨⟨by show (ByteArray.mk #[77]).size≤140737488351232;decide,⟨by show (-9223372036854775808:Int)≤0;decide,by show (0:Int)≤9223372036854775807;decide⟩⟩,⟨⟨by simp,by unfold maxLen;simp,.inl rfl⟩,fun v hv=>by simp at hv⟩,⟨by simp,by unfold maxLen;simp,.inr ⟨g2,0,rfl,hn.2.1,fun j hj i hi=>?_⟩⟩,fun x hx=>?_⟩
  ·rw[Nat.zero_add,cellOf h2]
   have hj2:j=0:=by simp at hj;omega
   subst hj2
   rcases i with _|_|_|i <;> first|rfl|omega
  ·have:x=⟨⟨#[102]⟩,.mk (some ⟨g1,0,none⟩) 1 [s],pos⟩:=by simpa using hx
   subst this
   refine⟨by show (ByteArray.mk #[102]).size≤140737488351232;decide,hp,Bl.Is.up ⟨⟨by simp,by unfold maxLen;simp,.inr ⟨g1,0,rfl,hn.1,fun j hj i hi=>?_⟩⟩,fun t ht=>?_⟩⟩
   ·rw[Nat.zero_add,cellOf h1]
    have hj2:j=0:=by simp at hj;omega
    subst hj2
    rw[Nat.zero_mul,Nat.zero_add];simp
   ·have:t=s:=by simpa using ht
    rw[this];exact hs
theorem lv_leads (g1 g2 g3:Nat) (s:St) (pos:Int) (r:Ref):bodyOf (lvP g1 g2 g3 s pos) r=.mk (some ⟨g1,0,none⟩) 1 [s]∨bodyOf (lvP g1 g2 g3 s pos) r=.mk none 0 []:=by
 unfold bodyOf
 cases h:methIx (lvP g1 g2 g3 s pos).mons r.1 r.2 with
 | none=>exact .inr rfl
 | some f =>
  obtain⟨m,hm,hf⟩:=methIx_mem h
  simp only[lvP,List.mem_cons,List.not_mem_nil,or_false] at hm
  subst hm
  have:f=⟨⟨#[102]⟩,.mk (some ⟨g1,0,none⟩) 1 [s],pos⟩:=by simpa using hf
  subst this
  exact .inl rfl
theorem lv_fine (g1 g2 g3:Nat) (s:St) (pos:Int) (hs:s.subs=[s]) (hb:s.blocks=[]):Fine (lvP g1 g2 g3 s pos):=by
 have hsub:(Bl.mk (some ⟨g1,0,none⟩) 1 [s]).subs=[s]:=by rw[Bl.subs_mk];simp[hs]
 have hlen:(callsOf (Bl.mk (some ⟨g1,0,none⟩) 1 [s])).length≤1:=by
  have:=callsA_len (Bl.mk (some ⟨g1,0,none⟩) 1 [s]).subs []
  rw[hsub] at this
  unfold callsOf
  rw[hsub];simpa using this
 have hm:∀ m∈(lvP g1 g2 g3 s pos).mons,∀ f∈m.meths,f.body=.mk (some ⟨g1,0,none⟩) 1 [s]:=by
  intro m hm f hf
  simp only[lvP,List.mem_cons,List.not_mem_nil,or_false] at hm
  subst hm
  have:f=⟨⟨#[102]⟩,.mk (some ⟨g1,0,none⟩) 1 [s],pos⟩:=by simpa using hf
  subst this;rfl
 refine⟨fun m h f h2=>?_,fun m h f h2=>?_,fun m h f h2 t ht=>?_,?_,fun r=>?_⟩
 ·rw[hm m h f h2,hsub];simp
 ·rw[hm m h f h2];simp[Bl.body]
 ·rw[hm m h f h2,hsub] at ht
  have:t=s:=by simpa using ht
  rw[this,hb];simp
 ·simp only[allRefs,lvP,List.flatMap_cons,List.flatMap_nil,List.append_nil]
  omega
 ·unfold leadsOf
  rcases lv_leads g1 g2 g3 s pos r with h|h
  ·rw[h];omega
  ·rw[h,callsOf,Bl.subs_mk];simp[callsA]
theorem lvX_fine (g:Nat):FineB (lvX g):=by
 have h:(lvX g).subs=[lvC,lvC]:=by kernel_rfl
 refine⟨by rw[h];simp,fun s hs=>?_⟩
 rw[h] at hs
 have:s=lvC:=by simpa using hs
 rw[this];simp[lvC,St.blocks]
theorem five_box (w:World) (a b c d e:Array Value) (s t u v x:TypeId):let W:=((((w.alloc (.cells a s)).alloc (.cells b t)).alloc (.cells c u)).alloc (.cells d v)).alloc (.cells e x)
  W.heap[w.heap.size]?=some (.cells a s (0,0))∧W.heap[w.heap.size+1]?=some (.cells b t (0,0))∧W.heap[w.heap.size+1+1]?=some (.cells c u (0,0))∧W.heap[w.heap.size+1+1+1]?=some (.cells d v (0,0))∧W.heap[w.heap.size+1+1+1+1]?=some (.cells e x (0,0))∧Below w.heap.size w W∧W.heap.size=w.heap.size+5:=by
 obtain⟨h1,h2,h3,h4,h5⟩:=three_box w a b c s t u
 have h6:∀ o,(((w.alloc (.cells a s)).alloc (.cells b t)).alloc (.cells c u)).alloc o=(((w.alloc (.cells a s)).alloc (.cells b t)).alloc (.cells c u)).alloc o:=fun _=>rfl
 obtain⟨k1,k2,k3,k4⟩:=two_box (((w.alloc (.cells a s)).alloc (.cells b t)).alloc (.cells c u)) d e v x
 rw[h5] at k1 k2 k3 k4
 exact⟨(k3.block _ (by omega)).trans h1,(k3.block _ (by omega)).trans h2,(k3.block _ (by omega)).trans h3,k1,k2,h4.trans (k3.mono (by omega)),by rw[k4]⟩
theorem clr_two {ad:Option Addr} {cap:Nat} {body:List St} {A B:St} (h:(Bl.mk ad cap body).clr=.mk none 0 [A,B]):∃ s t,body=[s,t]∧s.clr=A∧t.clr=B:=by
 rw[Bl.clr_mk] at h
 have h:body.map St.clr=[A,B]:=by injection h
 match body,h with
 | [s,t],h=>simp at h;exact⟨s,t,rfl,h.1,h.2⟩
theorem clr_st {s:St} {kind:Int} {mon name:ByteArray} {n:Int} {e:Ex} {X:Bl} {pos:Int} (h:s.clr=.mk kind mon name n e none 0 [X] pos):∃ ad cap y,s=.mk kind mon name n e ad cap [y] pos∧y.clr=X:=by
 rcases s with ⟨k,m,nm,nn,ee,ad,cap,blocks,ps⟩
 rw[St.clr_mk] at h
 injection h with h1 h2 h3 h4 h5 _ _ h6 h7
 subst h1 h2 h3 h4 h5 h7
 match blocks,h6 with
 | [y],h6=>simp at h6;exact⟨ad,cap,y,rfl,h6⟩
theorem clr_one {y:Bl} {A:St} (h:y.clr=.mk none 0 [A]):∃ ad cap t,y=.mk ad cap [t]:=by
 rcases y with ⟨ad,cap,body⟩
 rw[Bl.clr_mk] at h
 have h:body.map St.clr=[A]:=by injection h
 match body,h with
 | [t],_=>exact⟨ad,cap,t,rfl⟩
set_option maxRecDepth 100000 in
set_option maxHeartbeats 16000000 in
theorem live_any (w:World) (hS:Shapes w) (hS3:3≤w.heap.size):Calls Tryz.prog 6 #[] w fun r w'=>r=.returned (.bool true)∧Below w.heap.size w w':=by
 go_enter Tryz.func6,Tryz.ntmps6
 go_upto_region 3 with fail
 obtain⟨b0,b1,b2,b3,b4,hB0,hz0⟩:=five_box w #[.int .i64 8,.string ⟨#[77]⟩,.string ⟨#[102]⟩,.int .i64 0,.int .i64 0,.string ⟨#[]⟩,.string ⟨#[]⟩,.int .i64 0,.slice none 0 0,.int .i64 0,.slice none 0 0,.int .i64 3] #[.int .i64 1,.string ⟨#[]⟩,.string ⟨#[]⟩,.int .i64 0,.int .i64 0,.string ⟨#[]⟩,.string ⟨#[]⟩,.int .i64 0,.slice none 0 0,.int .i64 0,.slice none 0 0,.int .i64 0] #[.string ⟨#[102]⟩,.slice (some ⟨w.heap.size+1,0,none⟩) 1 1,.int .i64 0] #[.string ⟨#[77]⟩,.slice none 0 0,.slice (some ⟨w.heap.size+1+1,0,none⟩) 1 1,.int .i64 0] #[.slice (some ⟨w.heap.size+1+1+1,0,none⟩) 1 1,.slice none 0 0] 64 64 56 52 25
 obtain⟨W0,hW0⟩:∃ W0,(((((w.alloc (.cells #[.int .i64 8,.string ⟨#[77]⟩,.string ⟨#[102]⟩,.int .i64 0,.int .i64 0,.string ⟨#[]⟩,.string ⟨#[]⟩,.int .i64 0,.slice none 0 0,.int .i64 0,.slice none 0 0,.int .i64 3] 64)).alloc (.cells #[.int .i64 1,.string ⟨#[]⟩,.string ⟨#[]⟩,.int .i64 0,.int .i64 0,.string ⟨#[]⟩,.string ⟨#[]⟩,.int .i64 0,.slice none 0 0,.int .i64 0,.slice none 0 0,.int .i64 0] 64)).alloc (.cells #[.string ⟨#[102]⟩,.slice (some ⟨w.heap.size+1,0,none⟩) 1 1,.int .i64 0] 56)).alloc (.cells #[.string ⟨#[77]⟩,.slice none 0 0,.slice (some ⟨w.heap.size+1+1,0,none⟩) 1 1,.int .i64 0] 52)).alloc (.cells #[.slice (some ⟨w.heap.size+1+1+1,0,none⟩) 1 1,.slice none 0 0] 25))=W0:=⟨_,rfl⟩
 rw[hW0] at b0 b1 b2 b3 b4 hB0 hz0 ⊢
 obtain⟨g1,hg1⟩:∃ g1,w.heap.size+1=g1:=⟨_,rfl⟩
 obtain⟨g2,hg2⟩:∃ g2,g1+1=g2:=⟨_,rfl⟩
 obtain⟨g3,hg3⟩:∃ g3,g2+1=g3:=⟨_,rfl⟩
 obtain⟨g4,hg4⟩:∃ g4,g3+1=g4:=⟨_,rfl⟩
 obtain⟨q0,hq0⟩:∃ q0,w.heap.size=q0:=⟨_,rfl⟩
 rw[hg1] at b1 b2 b3 b4 ⊢
 rw[hg2] at b2 b3 b4 ⊢
 rw[hg3] at b3 b4 ⊢
 rw[hg4] at b4 ⊢
 rw[hq0] at b0 ⊢
 have HLT:Hid (q0<W0.heap.size∧g1<W0.heap.size∧g2<W0.heap.size∧g3<W0.heap.size∧g4<W0.heap.size):=⟨by omega,by omega,by omega,by omega,by omega⟩
 clear hg1 hg2 hg3 hg4 hq0 hW0 hz0
 have hcells:∀ W,Below W0.heap.size W0 W→(W.cell? ⟨g4,0,none⟩=some (.slice (some ⟨g3,0,none⟩) 1 1)∧W.cell? ⟨g4,1,none⟩=some (.slice none 0 0))∧∀ i,i<12→W.cell? ⟨q0,i,none⟩=(#[.int .i64 8,.string ⟨#[77]⟩,.string ⟨#[102]⟩,.int .i64 0,.int .i64 0,.string ⟨#[]⟩,.string ⟨#[]⟩,.int .i64 0,.slice none 0 0,.int .i64 0,.slice none 0 0,.int .i64 3]:Array Value)[i]?:=by
  intro W hW
  refine⟨⟨(hW.cell (p:=⟨g4,0,none⟩) HLT.out.2.2.2.2).trans (by rw[cellOf b4];rfl),(hW.cell (p:=⟨g4,1,none⟩) HLT.out.2.2.2.2).trans (by rw[cellOf b4];rfl)⟩,fun i hi=>(hW.cell (p:=⟨q0,i,none⟩) HLT.out.1).trans (by rw[cellOf b0])⟩
 have hPi:∀ W,Below W0.heap.size W0 W→(lvP g1 g2 g3 lvS 0).Is W0.heap.size W:=fun W hW=>lvP_is ((hW.block _ HLT.out.2.1).trans b1) ((hW.block _ HLT.out.2.2.1).trans b2) ((hW.block _ HLT.out.2.2.2.1).trans b3) ⟨HLT.out.2.1,HLT.out.2.2.1,HLT.out.2.2.2.1⟩ (lvS_is _ _) ⟨by decide,by decide⟩
 have hFin:=lv_fine g1 g2 g3 lvS 0 (by kernel_rfl) (by simp[lvS,St.blocks])
 have hz0:=hB0.size
 have hcnt:∀ W,Below W0.heap.size W0 W→Calls Tryz.prog 11 #[.agg #[.slice (some ⟨g3,0,none⟩) 1 1,.slice none 0 0],.slice (some ⟨W.heap.size,0,none⟩) 2 2] (W.alloc (.cells #[.int .i64 8,.string ⟨#[77]⟩,.string ⟨#[102]⟩,.int .i64 0,.int .i64 0,.string ⟨#[]⟩,.string ⟨#[]⟩,.int .i64 0,.slice none 0 0,.int .i64 0,.slice none 0 0,.int .i64 3,.int .i64 8,.string ⟨#[77]⟩,.string ⟨#[102]⟩,.int .i64 0,.int .i64 0,.string ⟨#[]⟩,.string ⟨#[]⟩,.int .i64 0,.slice none 0 0,.int .i64 0,.slice none 0 0,.int .i64 3] 64)) fun r w'=>r=.returned (.tuple #[.int .i64 4,.int .i64 0])∧Below (W.alloc (.cells #[.int .i64 8,.string ⟨#[77]⟩,.string ⟨#[102]⟩,.int .i64 0,.int .i64 0,.string ⟨#[]⟩,.string ⟨#[]⟩,.int .i64 0,.slice none 0 0,.int .i64 0,.slice none 0 0,.int .i64 3,.int .i64 8,.string ⟨#[77]⟩,.string ⟨#[102]⟩,.int .i64 0,.int .i64 0,.string ⟨#[]⟩,.string ⟨#[]⟩,.int .i64 0,.slice none 0 0,.int .i64 0,.slice none 0 0,.int .i64 3] 64)).heap.size (W.alloc (.cells #[.int .i64 8,.string ⟨#[77]⟩,.string ⟨#[102]⟩,.int .i64 0,.int .i64 0,.string ⟨#[]⟩,.string ⟨#[]⟩,.int .i64 0,.slice none 0 0,.int .i64 0,.slice none 0 0,.int .i64 3,.int .i64 8,.string ⟨#[77]⟩,.string ⟨#[102]⟩,.int .i64 0,.int .i64 0,.string ⟨#[]⟩,.string ⟨#[]⟩,.int .i64 0,.slice none 0 0,.int .i64 0,.slice none 0 0,.int .i64 3] 64)) w':=by
  intro W hW
  have hWs:=hW.size
  have hWa:=hW.al le_rfl' (.cells #[.int .i64 8,.string ⟨#[77]⟩,.string ⟨#[102]⟩,.int .i64 0,.int .i64 0,.string ⟨#[]⟩,.string ⟨#[]⟩,.int .i64 0,.slice none 0 0,.int .i64 0,.slice none 0 0,.int .i64 3,.int .i64 8,.string ⟨#[77]⟩,.string ⟨#[102]⟩,.int .i64 0,.int .i64 0,.string ⟨#[]⟩,.string ⟨#[]⟩,.int .i64 0,.slice none 0 0,.int .i64 0,.slice none 0 0,.int .i64 3] 64)
  have h:=Count_any (lvP g1 g2 g3 lvS 0) (lvX W.heap.size) (W.heap.size+1) (W.alloc (.cells #[.int .i64 8,.string ⟨#[77]⟩,.string ⟨#[102]⟩,.int .i64 0,.int .i64 0,.string ⟨#[]⟩,.string ⟨#[]⟩,.int .i64 0,.slice none 0 0,.int .i64 0,.slice none 0 0,.int .i64 3,.int .i64 8,.string ⟨#[77]⟩,.string ⟨#[102]⟩,.int .i64 0,.int .i64 0,.string ⟨#[]⟩,.string ⟨#[]⟩,.int .i64 0,.slice none 0 0,.int .i64 0,.slice none 0 0,.int .i64 3] 64)) (by simp) ((hPi _ hWa).mono (by omega)) (lvX_is (heapNew W _) (by omega)) (hS.below (hB0.trans (hWa.mono hz0)) hS3) (by simp;omega) hFin.zero (lvX_fine _).subs
  rw[lv1] at h
  exact h
 have hinl:∀ W,Below W0.heap.size W0 W→Calls Tryz.prog 13 #[.agg #[.slice (some ⟨g3,0,none⟩) 1 1,.slice none 0 0],.slice (some ⟨W.heap.size,0,none⟩) 2 2] (W.alloc (.cells #[.int .i64 8,.string ⟨#[77]⟩,.string ⟨#[102]⟩,.int .i64 0,.int .i64 0,.string ⟨#[]⟩,.string ⟨#[]⟩,.int .i64 0,.slice none 0 0,.int .i64 0,.slice none 0 0,.int .i64 3,.int .i64 8,.string ⟨#[77]⟩,.string ⟨#[102]⟩,.int .i64 0,.int .i64 0,.string ⟨#[]⟩,.string ⟨#[]⟩,.int .i64 0,.slice none 0 0,.int .i64 0,.slice none 0 0,.int .i64 3] 64)) fun r w'=>(∃ kb koff cap bb boff bcap yad ycap,r=.returned (.tuple #[.slice (some ⟨kb,koff,none⟩) 2 cap,.int .i64 0])∧2≤cap∧cap≤maxLen∧1≤bcap∧bcap≤maxLen∧kb<w'.heap.size∧bb<w'.heap.size∧w'.cell? ⟨kb,koff+12,none⟩=some (.int .i64 7)∧w'.cell? ⟨kb,koff+12+1,none⟩=some (.string ⟨#[77]⟩)∧w'.cell? ⟨kb,koff+12+10,none⟩=some (.slice (some ⟨bb,boff,none⟩) 1 bcap)∧w'.cell? ⟨kb,koff+12+11,none⟩=some (.int .i64 3)∧w'.cell? ⟨bb,boff,none⟩=some (.slice yad 1 ycap))∧Below (W.alloc (.cells #[.int .i64 8,.string ⟨#[77]⟩,.string ⟨#[102]⟩,.int .i64 0,.int .i64 0,.string ⟨#[]⟩,.string ⟨#[]⟩,.int .i64 0,.slice none 0 0,.int .i64 0,.slice none 0 0,.int .i64 3,.int .i64 8,.string ⟨#[77]⟩,.string ⟨#[102]⟩,.int .i64 0,.int .i64 0,.string ⟨#[]⟩,.string ⟨#[]⟩,.int .i64 0,.slice none 0 0,.int .i64 0,.slice none 0 0,.int .i64 3] 64)).heap.size (W.alloc (.cells #[.int .i64 8,.string ⟨#[77]⟩,.string ⟨#[102]⟩,.int .i64 0,.int .i64 0,.string ⟨#[]⟩,.string ⟨#[]⟩,.int .i64 0,.slice none 0 0,.int .i64 0,.slice none 0 0,.int .i64 3,.int .i64 8,.string ⟨#[77]⟩,.string ⟨#[102]⟩,.int .i64 0,.int .i64 0,.string ⟨#[]⟩,.string ⟨#[]⟩,.int .i64 0,.slice none 0 0,.int .i64 0,.slice none 0 0,.int .i64 3] 64)) w':=by
  intro W hW
  have hWs:=hW.size
  have hWa:=hW.al le_rfl' (.cells #[.int .i64 8,.string ⟨#[77]⟩,.string ⟨#[102]⟩,.int .i64 0,.int .i64 0,.string ⟨#[]⟩,.string ⟨#[]⟩,.int .i64 0,.slice none 0 0,.int .i64 0,.slice none 0 0,.int .i64 3,.int .i64 8,.string ⟨#[77]⟩,.string ⟨#[102]⟩,.int .i64 0,.int .i64 0,.string ⟨#[]⟩,.string ⟨#[]⟩,.int .i64 0,.slice none 0 0,.int .i64 0,.slice none 0 0,.int .i64 3] 64)
  have h:=Inline_any (lvP g1 g2 g3 lvS 0) (lvX W.heap.size) (W.heap.size+1) (W.alloc (.cells #[.int .i64 8,.string ⟨#[77]⟩,.string ⟨#[102]⟩,.int .i64 0,.int .i64 0,.string ⟨#[]⟩,.string ⟨#[]⟩,.int .i64 0,.slice none 0 0,.int .i64 0,.slice none 0 0,.int .i64 3,.int .i64 8,.string ⟨#[77]⟩,.string ⟨#[102]⟩,.int .i64 0,.int .i64 0,.string ⟨#[]⟩,.string ⟨#[]⟩,.int .i64 0,.slice none 0 0,.int .i64 0,.slice none 0 0,.int .i64 3] 64)) (by simp) ((hPi _ hWa).mono (by omega)) (lvX_is (heapNew W _) (by omega)) (hS.below (hB0.trans (hWa.mono hz0)) hS3) (by simp;omega) hFin.zero (lvX_fine _).subs
  refine h.mono ?_
  rintro r w' ⟨⟨h1,_⟩|⟨_,ad,cap,body,rfl,hI,hc⟩,hb⟩
  ·rw[lv1] at h1;exact absurd rfl h1
  ·rw[lv3] at hc
   obtain⟨s,t,rfl,-,ht⟩:=clr_two hc
   obtain⟨bad,bcap,y,rfl,hy⟩:=clr_st ht
   obtain⟨yad,ycap,t2,rfl⟩:=clr_one hy
   obtain⟨hsl,hIs⟩:=hI.down
   have hIt:=hIs (St.mk 7 ⟨#[77]⟩ ⟨#[]⟩ 0 zeroEx bad bcap [Bl.mk yad ycap [t2]] 3) (by simp)
   have hbs:=hIt.down.2.2.1
   rcases hsl.2.2 with h|⟨kb,koff,rfl,hkb,hrow⟩
   ·simp at h
   rcases hbs.2.2 with h|⟨bb,boff,rfl,hbb,hbrow⟩
   ·simp at h
   have c0:=hrow 1 (by simp) 0 (by omega)
   have c1:=hrow 1 (by simp) 1 (by omega)
   have c10:=hrow 1 (by simp) 10 (by omega)
   have c11:=hrow 1 (by simp) 11 (by omega)
   have d0:=hbrow 0 (by simp) 0 (by omega)
   simp[St.cells,Ex.cells,zeroEx,Bl.cells,Bl.slice] at c0 c1 c10 c11 d0
   exact⟨⟨kb,koff,cap,bb,boff,bcap,yad,ycap,rfl,by simpa using hsl.1,hsl.2.1,by simpa using hbs.1,hbs.2.1,hkb,hbb,c0,c1,c10,c11,d0⟩,hb⟩
 have hcal:∀ W,Below W0.heap.size W0 W→Calls Tryz.prog 16 #[.slice (some ⟨W.heap.size,0,none⟩) 2 2] (W.alloc (.cells #[.int .i64 8,.string ⟨#[77]⟩,.string ⟨#[102]⟩,.int .i64 0,.int .i64 0,.string ⟨#[]⟩,.string ⟨#[]⟩,.int .i64 0,.slice none 0 0,.int .i64 0,.slice none 0 0,.int .i64 3,.int .i64 8,.string ⟨#[77]⟩,.string ⟨#[102]⟩,.int .i64 0,.int .i64 0,.string ⟨#[]⟩,.string ⟨#[]⟩,.int .i64 0,.slice none 0 0,.int .i64 0,.slice none 0 0,.int .i64 3] 64)) fun r w'=>(∃ ad cap,r=.returned (.slice ad 1 cap))∧Below (W.alloc (.cells #[.int .i64 8,.string ⟨#[77]⟩,.string ⟨#[102]⟩,.int .i64 0,.int .i64 0,.string ⟨#[]⟩,.string ⟨#[]⟩,.int .i64 0,.slice none 0 0,.int .i64 0,.slice none 0 0,.int .i64 3,.int .i64 8,.string ⟨#[77]⟩,.string ⟨#[102]⟩,.int .i64 0,.int .i64 0,.string ⟨#[]⟩,.string ⟨#[]⟩,.int .i64 0,.slice none 0 0,.int .i64 0,.slice none 0 0,.int .i64 3] 64)).heap.size (W.alloc (.cells #[.int .i64 8,.string ⟨#[77]⟩,.string ⟨#[102]⟩,.int .i64 0,.int .i64 0,.string ⟨#[]⟩,.string ⟨#[]⟩,.int .i64 0,.slice none 0 0,.int .i64 0,.slice none 0 0,.int .i64 3,.int .i64 8,.string ⟨#[77]⟩,.string ⟨#[102]⟩,.int .i64 0,.int .i64 0,.string ⟨#[]⟩,.string ⟨#[]⟩,.int .i64 0,.slice none 0 0,.int .i64 0,.slice none 0 0,.int .i64 3] 64)) w':=by
  intro W hW
  have h:=calls_any (lvX W.heap.size) (W.heap.size+1) (W.alloc (.cells #[.int .i64 8,.string ⟨#[77]⟩,.string ⟨#[102]⟩,.int .i64 0,.int .i64 0,.string ⟨#[]⟩,.string ⟨#[]⟩,.int .i64 0,.slice none 0 0,.int .i64 0,.slice none 0 0,.int .i64 3,.int .i64 8,.string ⟨#[77]⟩,.string ⟨#[102]⟩,.int .i64 0,.int .i64 0,.string ⟨#[]⟩,.string ⟨#[]⟩,.int .i64 0,.slice none 0 0,.int .i64 0,.slice none 0 0,.int .i64 3] 64)) (by simp) (lvX_is (heapNew W _) (by omega)) (by have:=(lvX_fine W.heap.size).subs;omega)
  rw[lv2] at h
  refine h.mono ?_
  rintro r w' ⟨v,rfl,ho,hb⟩
  obtain⟨ad,cp,rfl,-⟩:=slOwn rcells_len (l:=[(⟨#[77]⟩,⟨#[102]⟩)]) ho
  exact⟨⟨ad,cp,rfl⟩,hb⟩
 have hnum:=num_any
 clear hPi hFin b0 b1 b2 b3 b4
 obtain⟨⟨ap0,ap1⟩,ahc⟩:=hcells W0 (Below.refl _ _)
 have ac0:=ahc 0 (by omega)
 have ac1:=ahc 1 (by omega)
 have ac2:=ahc 2 (by omega)
 have ac3:=ahc 3 (by omega)
 have ac4:=ahc 4 (by omega)
 have ac5:=ahc 5 (by omega)
 have ac6:=ahc 6 (by omega)
 have ac7:=ahc 7 (by omega)
 have ac8:=ahc 8 (by omega)
 have ac9:=ahc 9 (by omega)
 have ac10:=ahc 10 (by omega)
 have ac11:=ahc 11 (by omega)
 simp at ac0 ac1 ac2 ac3 ac4 ac5 ac6 ac7 ac8 ac9 ac10 ac11
 go_upto_region 4 with (go_at_call 11;(with_reducible refine (hcnt _ (Below.refl _ _)).mono ?_);rintro r v1 ⟨rfl,bb1⟩)
 have hb1:Below W0.heap.size W0 v1:=((Below.refl _ W0).al le_rfl' (.cells #[.int .i64 8,.string ⟨#[77]⟩,.string ⟨#[102]⟩,.int .i64 0,.int .i64 0,.string ⟨#[]⟩,.string ⟨#[]⟩,.int .i64 0,.slice none 0 0,.int .i64 0,.slice none 0 0,.int .i64 3,.int .i64 8,.string ⟨#[77]⟩,.string ⟨#[102]⟩,.int .i64 0,.int .i64 0,.string ⟨#[]⟩,.string ⟨#[]⟩,.int .i64 0,.slice none 0 0,.int .i64 0,.slice none 0 0,.int .i64 3] 64)).tr le_rfl' bb1
 clear bb1 hcnt
 clear ap0 ap1 ahc ac0 ac1 ac2 ac3 ac4 ac5 ac6 ac7 ac8 ac9 ac10 ac11
 obtain⟨⟨ap0,ap1⟩,ahc⟩:=hcells v1 hb1
 have ac0:=ahc 0 (by omega)
 have ac1:=ahc 1 (by omega)
 have ac2:=ahc 2 (by omega)
 have ac3:=ahc 3 (by omega)
 have ac4:=ahc 4 (by omega)
 have ac5:=ahc 5 (by omega)
 have ac6:=ahc 6 (by omega)
 have ac7:=ahc 7 (by omega)
 have ac8:=ahc 8 (by omega)
 have ac9:=ahc 9 (by omega)
 have ac10:=ahc 10 (by omega)
 have ac11:=ahc 11 (by omega)
 simp at ac0 ac1 ac2 ac3 ac4 ac5 ac6 ac7 ac8 ac9 ac10 ac11
 go_upto_region 5 with (go_at_call 13;(with_reducible refine (hinl _ hb1).mono ?_);rintro r v2 ⟨⟨kb,koff,cap,bb,boff,bcap,yad,ycap,rfl,k1,k2,k3,k4,k5,k6,y0,y1,y10,y11,z0⟩,bb2⟩)
 have hb2:Below W0.heap.size W0 v2:=(hb1.al le_rfl' (.cells #[.int .i64 8,.string ⟨#[77]⟩,.string ⟨#[102]⟩,.int .i64 0,.int .i64 0,.string ⟨#[]⟩,.string ⟨#[]⟩,.int .i64 0,.slice none 0 0,.int .i64 0,.slice none 0 0,.int .i64 3,.int .i64 8,.string ⟨#[77]⟩,.string ⟨#[102]⟩,.int .i64 0,.int .i64 0,.string ⟨#[]⟩,.string ⟨#[]⟩,.int .i64 0,.slice none 0 0,.int .i64 0,.slice none 0 0,.int .i64 3] 64)).tr le_rfl' bb2
 clear bb2 hinl
 clear ap0 ap1 ahc ac0 ac1 ac2 ac3 ac4 ac5 ac6 ac7 ac8 ac9 ac10 ac11
 obtain⟨⟨ap0,ap1⟩,ahc⟩:=hcells v2 hb2
 have ac0:=ahc 0 (by omega)
 have ac1:=ahc 1 (by omega)
 have ac2:=ahc 2 (by omega)
 have ac3:=ahc 3 (by omega)
 have ac4:=ahc 4 (by omega)
 have ac5:=ahc 5 (by omega)
 have ac6:=ahc 6 (by omega)
 have ac7:=ahc 7 (by omega)
 have ac8:=ahc 8 (by omega)
 have ac9:=ahc 9 (by omega)
 have ac10:=ahc 10 (by omega)
 have ac11:=ahc 11 (by omega)
 simp at ac0 ac1 ac2 ac3 ac4 ac5 ac6 ac7 ac8 ac9 ac10 ac11
 go_upto_region 6 with (go_at_call 16;(with_reducible refine (hcal _ hb2).mono ?_);rintro r v3 ⟨⟨rad,rcap,rfl⟩,bb3⟩)
 have hb23:Below v2.heap.size v2 v3:=((Below.refl _ v2).al le_rfl' (.cells #[.int .i64 8,.string ⟨#[77]⟩,.string ⟨#[102]⟩,.int .i64 0,.int .i64 0,.string ⟨#[]⟩,.string ⟨#[]⟩,.int .i64 0,.slice none 0 0,.int .i64 0,.slice none 0 0,.int .i64 3,.int .i64 8,.string ⟨#[77]⟩,.string ⟨#[102]⟩,.int .i64 0,.int .i64 0,.string ⟨#[]⟩,.string ⟨#[]⟩,.int .i64 0,.slice none 0 0,.int .i64 0,.slice none 0 0,.int .i64 3] 64)).tr le_rfl' bb3
 have hb3:Below W0.heap.size W0 v3:=hb2.tr le_rfl' hb23
 clear bb3 hcal
 clear ap0 ap1 ahc ac0 ac1 ac2 ac3 ac4 ac5 ac6 ac7 ac8 ac9 ac10 ac11
 obtain⟨⟨ap0,ap1⟩,ahc⟩:=hcells v3 hb3
 have ac0:=ahc 0 (by omega)
 have ac1:=ahc 1 (by omega)
 have ac2:=ahc 2 (by omega)
 have ac3:=ahc 3 (by omega)
 have ac4:=ahc 4 (by omega)
 have ac5:=ahc 5 (by omega)
 have ac6:=ahc 6 (by omega)
 have ac7:=ahc 7 (by omega)
 have ac8:=ahc 8 (by omega)
 have ac9:=ahc 9 (by omega)
 have ac10:=ahc 10 (by omega)
 have ac11:=ahc 11 (by omega)
 simp at ac0 ac1 ac2 ac3 ac4 ac5 ac6 ac7 ac8 ac9 ac10 ac11
 go_upto_region 7 with fail
 obtain⟨e1,e2,e3,hB3,hz3⟩:=three_box v3 #[.int .i64 8,.string ⟨#[77]⟩,.string ⟨#[102]⟩,.int .i64 0,.int .i64 0,.string ⟨#[]⟩,.string ⟨#[]⟩,.int .i64 0,.slice none 0 0,.int .i64 0,.slice none 0 0,.int .i64 3] #[.string ⟨#[102]⟩,.slice (some ⟨v3.heap.size,0,none⟩) 1 1,.int .i64 9] #[.string ⟨#[77]⟩,.slice none 0 0,.slice (some ⟨v3.heap.size+1,0,none⟩) 1 1,.int .i64 0] 64 56 52
 obtain⟨f1,hB4,hz4⟩:=one_box (((v3.alloc (.cells #[.int .i64 8,.string ⟨#[77]⟩,.string ⟨#[102]⟩,.int .i64 0,.int .i64 0,.string ⟨#[]⟩,.string ⟨#[]⟩,.int .i64 0,.slice none 0 0,.int .i64 0,.slice none 0 0,.int .i64 3] 64)).alloc (.cells #[.string ⟨#[102]⟩,.slice (some ⟨v3.heap.size,0,none⟩) 1 1,.int .i64 9] 56)).alloc (.cells #[.string ⟨#[77]⟩,.slice none 0 0,.slice (some ⟨v3.heap.size+1,0,none⟩) 1 1,.int .i64 0] 52)) #[.slice (some ⟨v3.heap.size+1+1,0,none⟩) 1 1,.slice none 0 0] 25
 rw[hz3] at f1 hB4 hz4
 have hB34:Below v3.heap.size v3 ((((v3.alloc (.cells #[.int .i64 8,.string ⟨#[77]⟩,.string ⟨#[102]⟩,.int .i64 0,.int .i64 0,.string ⟨#[]⟩,.string ⟨#[]⟩,.int .i64 0,.slice none 0 0,.int .i64 0,.slice none 0 0,.int .i64 3] 64)).alloc (.cells #[.string ⟨#[102]⟩,.slice (some ⟨v3.heap.size,0,none⟩) 1 1,.int .i64 9] 56)).alloc (.cells #[.string ⟨#[77]⟩,.slice none 0 0,.slice (some ⟨v3.heap.size+1,0,none⟩) 1 1,.int .i64 0] 52)).alloc (.cells #[.slice (some ⟨v3.heap.size+1+1,0,none⟩) 1 1,.slice none 0 0] 25)):=hB3.trans (hB4.mono (by omega))
 have e1:=(hB4.block _ (by omega)).trans e1
 have e2:=(hB4.block _ (by omega)).trans e2
 have e3:=(hB4.block _ (by omega)).trans e3
 obtain⟨V,hV⟩:∃ V,((((v3.alloc (.cells #[.int .i64 8,.string ⟨#[77]⟩,.string ⟨#[102]⟩,.int .i64 0,.int .i64 0,.string ⟨#[]⟩,.string ⟨#[]⟩,.int .i64 0,.slice none 0 0,.int .i64 0,.slice none 0 0,.int .i64 3] 64)).alloc (.cells #[.string ⟨#[102]⟩,.slice (some ⟨v3.heap.size,0,none⟩) 1 1,.int .i64 9] 56)).alloc (.cells #[.string ⟨#[77]⟩,.slice none 0 0,.slice (some ⟨v3.heap.size+1,0,none⟩) 1 1,.int .i64 0] 52)).alloc (.cells #[.slice (some ⟨v3.heap.size+1+1,0,none⟩) 1 1,.slice none 0 0] 25))=V:=⟨_,rfl⟩
 rw[hV] at e1 e2 e3 f1 hB34 hz4 ⊢
 have hb3s:=hb3.size
 have hchk:Calls Tryz.prog 7 #[.agg #[.slice (some ⟨v3.heap.size+1+1,0,none⟩) 1 1,.slice none 0 0]] V fun r w'=>r=.returned (.tuple #[.int .i64 80,.int .i64 9])∧Below V.heap.size V w':=by
  have h:=Check_any (lvP v3.heap.size (v3.heap.size+1) (v3.heap.size+1+1) lvC 9) V.heap.size V (Nat.le_refl _) (lvP_is e1 e2 e3 ⟨by omega,by omega,by omega⟩ (lvC_is _ _) ⟨by decide,by decide⟩) (hS.below (hB0.trans ((hb3.tr le_rfl' hB34).mono hz0)) hS3) (by omega) (by simp[lvP,vsum]) (lv_fine _ _ _ lvC 9 (by kernel_rfl) (by simp[lvC,St.blocks])) (fun r hr=>by simp[lvP] at hr)
  rw[lv4] at h
  exact h
 have hb24:Below v2.heap.size v2 V:=hb23.tr le_rfl' hB34
 have p0:=cellOf f1 0
 have p1:=cellOf f1 1
 simp at p0 p1
 clear hV e1 e2 e3 f1 hB3 hB4 hz3 hz4
 unfold maxLen at k2 k4
 go_upto_region 8 with (go_at_call 7;(with_reducible refine hchk.mono ?_);rintro r v4 ⟨rfl,bb4⟩)
 have hbF:Below v2.heap.size v2 v4:=hb24.tr le_rfl' bb4
 have y0:=(hbF.cell (p:=⟨kb,koff+12,none⟩) k5).trans y0
 have y1:=(hbF.cell (p:=⟨kb,koff+12+1,none⟩) k5).trans y1
 have y10:=(hbF.cell (p:=⟨kb,koff+12+10,none⟩) k5).trans y10
 have y11:=(hbF.cell (p:=⟨kb,koff+12+11,none⟩) k5).trans y11
 have z0:=(hbF.cell (p:=⟨bb,boff,none⟩) k6).trans z0
 have HEND:Hid (Below w.heap.size w v4):=hB0.trans ((hb3.tr le_rfl' (hB34.tr le_rfl' bb4)).mono hz0)
 clear hbF hb24 hb23 hb3 hb2 hb1 hB34 bb4 hchk
 go_wp2_with (go_at_call 9;(with_reducible refine (hnum _ _).mono ?_);rintro r v5 ⟨rfl,rfl⟩)
 go_ret
 exact⟨rfl,HEND.out⟩
open Go.RowKit
theorem clr_subs (y:Bl):y.clr.subs=y.subs.map St.clr:=
 Bl.ind (P:=fun s=>s.clr.subs=s.subs.map St.clr) (Q:=fun b=>b.clr.subs=b.subs.map St.clr)
  (fun kind mon name n e ad cap blocks pos ih=>by
   rw[St.clr_mk,St.subs_mk,St.subs_mk,List.map_cons,St.clr_mk,List.flatMap_map,List.map_flatMap]
   congr 1
   clear ad cap
   induction blocks with
   | nil=>rfl
   | cons b l ihl=>rw[List.flatMap_cons,List.flatMap_cons,ih b (by simp),ihl (fun x hx=>ih x (by simp[hx]))])
  (fun ad cap body ih=>by
   rw[Bl.clr_mk,Bl.subs_mk,Bl.subs_mk,List.flatMap_map,List.map_flatMap]
   clear ad cap
   induction body with
   | nil=>rfl
   | cons b l ihl=>rw[List.flatMap_cons,List.flatMap_cons,ih b (by simp),ihl (fun x hx=>ih x (by simp[hx]))]) y
theorem clr_kind (s:St):s.clr.kind=s.kind:=by rcases s with ⟨a1,a2,a3,a4,a5,a6,a7,a8,a9⟩;rw[St.clr_mk];rfl
theorem clr_ok1 (s:St):s.clr.ok1=s.ok1:=by rcases s with ⟨a1,a2,a3,a4,a5,a6,a7,a8,a9⟩;rw[St.clr_mk];simp[St.ok1]
theorem clr_okB (y:Bl):y.clr.okB=y.okB:=by
 rw[Bl.okB,Bl.okB,clr_subs,List.all_map]
 congr 1
 funext s
 exact clr_ok1 s
theorem inl_all {P Q:St→Prop} {f:Ref→Bl} (h1:∀ s,P s→Q (s.inl f)) (hf:∀ s,P s→s.kind=8→∀ t∈(f s.ref).subs,Q t) (x:Bl):(∀ s∈x.subs,P s)→∀ t∈(x.inl f).subs,Q t:=
 Bl.ind (P:=fun s=>(∀ t∈s.subs,P t)→∀ t∈(s.inl f).subs,Q t) (Q:=fun b=>(∀ t∈b.subs,P t)→∀ t∈(b.inl f).subs,Q t)
  (fun kind mon name n e ad cap blocks pos ih hP t ht=>by
   have hs:=hP _ (subs_self _)
   have hq:=h1 _ hs
   by_cases hk:kind=8
   ·subst hk
    rw[St.inl_call] at ht hq
    rw[St.subs_mk] at ht
    rcases List.mem_cons.1 ht with rfl|ht
    ·exact hq
    ·simp only[List.flatMap_cons,List.flatMap_nil,List.append_nil] at ht
     exact hf _ hs rfl t ht
   ·rw[St.inl_other _ _ hk] at ht hq
    rw[St.subs_mk] at ht
    rcases List.mem_cons.1 ht with rfl|ht
    ·exact hq
    ·rw[List.flatMap_map] at ht
     obtain⟨b,hb,ht⟩:=List.mem_flatMap.1 ht
     exact ih b hb (fun u hu=>hP u (by rw[St.subs_mk];exact List.mem_cons_of_mem _ (List.mem_flatMap.2 ⟨b,hb,hu⟩))) t ht)
  (fun ad cap body ih hP t ht=>by
   rw[Bl.inl_mk,Bl.subs_mk,List.flatMap_map] at ht
   obtain⟨s,hs,ht⟩:=List.mem_flatMap.1 ht
   exact ih s hs (fun u hu=>hP u (by rw[Bl.subs_mk];exact List.mem_flatMap.2 ⟨s,hs,hu⟩)) t ht) x
theorem inl_kind (f:Ref→Bl) (s:St):(s.inl f).kind≠8:=by
 rcases s with ⟨kind,a2,a3,a4,a5,a6,a7,a8,a9⟩
 by_cases hk:kind=8
 ·subst hk;rw[St.inl_call];show (7:Int)≠8;decide
 ·rw[St.inl_other _ _ hk];exact hk
theorem inlR_none (p:Pr) (N:Nat):∀ r,∀ t∈(inlR p N r).subs,t.kind≠8:=by
 induction N with
 | zero=>intro r t ht;simp[inlR,Bl.subs_mk] at ht
 | succ N ih=>intro r;exact inl_all (P:=fun _=>True) (Q:=fun t=>t.kind≠8) (fun s _=>inl_kind _ s) (fun s _ _=>ih s.ref) (bodyOf p r) (fun _ _=>trivial)
theorem inl_none (p:Pr) (N:Nat) (x:Bl):∀ t∈(x.inl (inlR p N)).subs,t.kind≠8:=inl_all (P:=fun _=>True) (Q:=fun t=>t.kind≠8) (fun s _=>inl_kind _ s) (fun s _ _=>inlR_none p N s.ref) x (fun _ _=>trivial)
theorem zeroEx_fits:fitsEx zeroEx (stExpr (7:Int).toNat)=true:=by kernel_rfl
theorem inl_ok1 (f:Ref→Bl) (s:St) (h:s.ok1=true):(s.inl f).ok1=true:=by
 rcases s with ⟨kind,mon,name,n,e,ad,cap,blocks,pos⟩
 by_cases hk:kind=8
 ·subst hk
  rw[St.inl_call]
  simp only[St.ok1,Bool.and_eq_true,decide_eq_true_eq] at h ⊢
  refine⟨⟨by decide,by decide⟩,⟨⟨⟨⟨h.2.1.1.1.1.1,by kernel_rfl⟩,by kernel_rfl⟩,zeroEx_fits⟩,by show stLeast (Int.toNat 7)≤1;decide⟩,by show 1≤stMost (Int.toNat 7);decide⟩
 ·rw[St.inl_other _ _ hk]
  simpa[St.ok1] using h
theorem body_okB {p:Pr} (h:p.ok=true) (r:Ref):(bodyOf p r).okB=true:=by
 rw[bodyOf]
 split
 ·rename_i f hf
  obtain⟨m,hm,hfm⟩:=methIx_mem hf
  exact ok_meth h m hm f hfm
 ·rw[Bl.okB,Bl.subs_mk];rfl
theorem okB_iff {x:Bl}:x.okB=true↔∀ s∈x.subs,s.ok1=true:=by rw[Bl.okB,List.all_eq_true]
theorem inlR_ok {p:Pr} (h:p.ok=true) (N:Nat):∀ r,∀ t∈(inlR p N r).subs,t.ok1=true:=by
 induction N with
 | zero=>intro r t ht;simp[inlR,Bl.subs_mk] at ht
 | succ N ih=>intro r;exact inl_all (P:=fun s=>s.ok1=true) (Q:=fun t=>t.ok1=true) (fun s hs=>inl_ok1 _ s hs) (fun s _ _=>ih s.ref) (bodyOf p r) (okB_iff.1 (body_okB h r))
theorem inl_okB {p:Pr} (h:p.ok=true) (N:Nat) {x:Bl} (hx:x.okB=true):(x.inl (inlR p N)).okB=true:=
 okB_iff.2 (inl_all (P:=fun s=>s.ok1=true) (Q:=fun t=>t.ok1=true) (fun s hs=>inl_ok1 _ s hs) (fun s _ _=>inlR_ok h N s.ref) x (okB_iff.1 hx))
theorem inl_len (f:Ref→Bl) (x:Bl):(∀ s∈x.subs,s.kind=8→s.blocks=[])→(x.inl f).subs.length=(x.subs.map fun s=>if s.kind=8 then 1+(f s.ref).subs.length else 1).sum:=
 Bl.ind (P:=fun s=>(∀ t∈s.subs,t.kind=8→t.blocks=[])→(s.inl f).subs.length=(s.subs.map fun s=>if s.kind=8 then 1+(f s.ref).subs.length else 1).sum)
  (Q:=fun b=>(∀ t∈b.subs,t.kind=8→t.blocks=[])→(b.inl f).subs.length=(b.subs.map fun s=>if s.kind=8 then 1+(f s.ref).subs.length else 1).sum)
  (fun kind mon name n e ad cap blocks pos ih hP=>by
   have hs:=hP _ (subs_self _)
   by_cases hk:kind=8
   ·subst hk
    have hb:blocks=[]:=hs rfl
    subst hb
    rw[St.inl_call,St.subs_mk,St.subs_mk]
    simp[St.kind,St.ref];omega
   ·rw[St.inl_other _ _ hk,St.subs_mk,St.subs_mk,List.flatMap_map,List.length_cons,List.map_cons,List.sum_cons,if_neg (show ¬ (St.mk kind mon name n e ad cap blocks pos).kind=8 from hk)]
    have hP2:∀ b∈blocks,∀ t∈b.subs,t.kind=8→t.blocks=[]:=fun b hb t ht=>hP t (by rw[St.subs_mk];exact List.mem_cons_of_mem _ (List.mem_flatMap.2 ⟨b,hb,ht⟩))
    have:(blocks.flatMap fun b=>(b.inl f).subs).length=((blocks.flatMap Bl.subs).map fun s=>if s.kind=8 then 1+(f s.ref).subs.length else 1).sum:=by
     clear hP hs
     induction blocks with
     | nil=>rfl
     | cons b l ihl=>rw[List.flatMap_cons,List.flatMap_cons,List.length_append,List.map_append,List.sum_append,ih b (by simp) (hP2 b (by simp)),ihl (fun x hx=>ih x (by simp[hx])) (fun x hx=>hP2 x (by simp[hx]))]
    omega)
  (fun ad cap body ih hP=>by
   rw[Bl.inl_mk,Bl.subs_mk,Bl.subs_mk,List.flatMap_map]
   have hP2:∀ b∈body,∀ t∈b.subs,t.kind=8→t.blocks=[]:=fun b hb t ht=>hP t (by rw[Bl.subs_mk];exact List.mem_flatMap.2 ⟨b,hb,ht⟩)
   clear hP
   induction body with
   | nil=>rfl
   | cons b l ihl=>rw[List.flatMap_cons,List.flatMap_cons,List.length_append,List.map_append,List.sum_append,ih b (by simp) (hP2 b (by simp)),ihl (fun x hx=>ih x (by simp[hx])) (fun x hx=>hP2 x (by simp[hx]))]) x
theorem call_blocks {s:St} (h:s.ok1=true) (hk:s.kind=8):s.blocks=[]:=by
 rcases s with ⟨kind,mon,name,n,e,ad,cap,blocks,pos⟩
 have hk:kind=8:=hk
 subst hk
 simp only[St.ok1,Bool.and_eq_true,decide_eq_true_eq] at h
 have h1:=h.2.2
 have h2:stMost (8:Int).toNat=0:=by kernel_rfl
 rw[h2] at h1
 exact List.eq_nil_of_length_eq_zero (Nat.le_zero.1 h1)
theorem le_sum {l:List Nat} {a:Nat} (h:a∈l):a≤l.sum:=by
 induction l with
 | nil=>cases h
 | cons b l ih =>
  rw[List.sum_cons]
  rcases List.mem_cons.1 h with rfl|h
  ·omega
  ·have:=ih h;omega
theorem inlR_len {p:Pr} {x:Bl} {R:List Ref} {Z:List (Ref × Nat)} (hok:p.ok=true) (hg:Good p x R Z) (N:Nat):∀ r∈R,rkOf R r<N→szGet Z r≤400→szGet Z r=1+(inlR p N r).subs.length:=by
 induction N with
 | zero=>intro r _ h;omega
 | succ N ih =>
  intro r hr hk hs
  have h1:=hg.size r hr
  have h2:tot Z (bodyOf p r)≤399:=by omega
  have h3:szGet Z r=1+tot Z (bodyOf p r):=by omega
  rw[h3]
  congr 1
  have hb:=okB_iff.1 (body_okB hok r)
  show tot Z (bodyOf p r)=((bodyOf p r).inl (inlR p N)).subs.length
  rw[inl_len _ _ (fun s hs hk=>call_blocks (hb s hs) hk)]
  unfold tot sumOf at h2 ⊢
  congr 1
  refine List.map_congr_left fun s hs=>?_
  unfold sown
  split
  ·rename_i hk8
   have hm:s.ref∈leadsOf p r:=(callsOf_mem _ _).2 ⟨s,hs,hk8,rfl⟩
   obtain⟨h4,h5⟩:=hg.leads r hr _ hm
   refine ih _ h4 (by omega) ?_
   have h6:sown Z s≤((bodyOf p r).subs.map (sown Z)).sum:=le_sum (List.mem_map.2 ⟨s,hs,rfl⟩)
   unfold sown at h6
   rw[if_pos hk8] at h6
   have h7:((bodyOf p r).subs.map (sown Z)).sum=((bodyOf p r).subs.map fun s=>if s.kind=8 then szGet Z s.ref else 1).sum:=rfl
   omega
  ·rfl
theorem inl_size {p:Pr} {x:Bl} {n:Nat} (hok:p.ok=true) (hx:x.okB=true) (h:cntOf p x=(n,0)):(x.inl (inlR p (reachedOf p (callsOf x)).length)).subs.length=n∧n≤400:=by
 obtain⟨Z,hg,ht,hn⟩:=good_of h
 refine⟨?_,hn⟩
 have hb:=okB_iff.1 hx
 rw[inl_len _ _ (fun s hs hk=>call_blocks (hb s hs) hk),← ht]
 unfold tot sumOf
 congr 1
 refine List.map_congr_left fun s hs=>?_
 unfold sown
 split
 ·rename_i hk8
  have hm:s.ref∈callsOf x:=(callsOf_mem _ _).2 ⟨s,hs,hk8,rfl⟩
  have h4:=hg.root _ hm
  refine (inlR_len hok hg _ _ h4 (rkOf_lt h4) ?_).symm
  have h6:sown Z s≤(x.subs.map (sown Z)).sum:=le_sum (List.mem_map.2 ⟨s,hs,rfl⟩)
  unfold sown at h6
  rw[if_pos hk8] at h6
  have h7:tot Z x=(x.subs.map fun s=>if s.kind=8 then szGet Z s.ref else 1).sum:=rfl
  omega
 ·rfl
theorem inl_same (g:Ref→Bl) (y:Bl):(∀ s∈y.subs,s.kind≠8)→y.inl g=y.clr:=
 Bl.ind (P:=fun s=>(∀ t∈s.subs,t.kind≠8)→s.inl g=s.clr) (Q:=fun b=>(∀ t∈b.subs,t.kind≠8)→b.inl g=b.clr)
  (fun kind mon name n e ad cap blocks pos ih hP=>by
   have hk:kind≠8:=hP _ (subs_self _)
   rw[St.inl_other _ _ hk,St.clr_mk]
   congr 1
   exact List.map_congr_left fun b hb=>ih b hb (fun t ht=>hP t (by rw[St.subs_mk];exact List.mem_cons_of_mem _ (List.mem_flatMap.2 ⟨b,hb,ht⟩))))
  (fun ad cap body ih hP=>by
   rw[Bl.inl_mk,Bl.clr_mk]
   congr 1
   exact List.map_congr_left fun s hs=>ih s hs (fun t ht=>hP t (by rw[Bl.subs_mk];exact List.mem_flatMap.2 ⟨s,hs,ht⟩))) y
theorem all2_of_map {α:Type} {f:α→α→Bool} {c:α→α}:∀ (xs ys:List α),xs.map c=ys.map c→(∀ x∈xs,∀ y,c x=c y→f x y=true)→all2 f xs ys=true:=by
 intro xs
 induction xs with
 | nil =>
  intro ys h _
  cases ys with
  | nil=>rfl
  | cons y ys=>simp at h
 | cons x xs ih =>
  intro ys h hf
  cases ys with
  | nil=>simp at h
  | cons y ys =>
   simp only[List.map_cons,List.cons.injEq] at h
   rw[all2,hf x (by simp) y h.1,ih ys h.2 (fun z hz=>hf z (by simp[hz]))];rfl
theorem exSame_self (e:Ex):e.same e=true:=by
 induction e using Ex.ind with
 | h op mon name n ad cap kids pos ih =>
  rw[same_mk]
  have:all2 Ex.same kids kids=true:=by
   clear ad cap
   induction kids with
   | nil=>rfl
   | cons x l ihl=>rw[all2,ih x (by simp),ihl (fun y hy=>ih y (by simp[hy]))];rfl
  simp[this]
theorem same_of_clr (a:Bl):∀ b:Bl,a.clr=b.clr→a.same b=true:=
 Bl.ind (P:=fun s=>∀ t:St,s.clr=t.clr→s.same t=true) (Q:=fun a=>∀ b:Bl,a.clr=b.clr→a.same b=true)
  (fun kind mon name n e ad cap blocks pos ih t h=>by
   rcases t with ⟨kind',mon',name',n',e',ad',cap',blocks',pos'⟩
   rw[St.clr_mk,St.clr_mk] at h
   injection h with h1 h2 h3 h4 h5 _ _ h6 h7
   subst h1 h2 h3 h4 h5 h7
   have:=all2_of_map (f:=Bl.same) blocks blocks' h6 ih
   rw[stSame_mk,exSame_self,this];simp)
  (fun ad cap body ih b h=>by
   rcases b with ⟨ad',cap',body'⟩
   rw[Bl.clr_mk,Bl.clr_mk] at h
   injection h with _ _ h
   have:=all2_of_map (f:=St.same) body body' h ih
   rw[blSame_mk,this]) a
theorem sum_ones {α:Type} (l:List α) (f:α→Nat) (h:∀ s∈l,f s=1):(l.map f).sum=l.length:=by
 induction l with
 | nil=>rfl
 | cons a l ih=>rw[List.map_cons,List.sum_cons,h a (by simp),ih (fun s hs=>h s (by simp[hs])),List.length_cons];omega
theorem cnt_none {p:Pr} {y:Bl} (h:∀ s∈y.subs,s.kind≠8) (hl:y.subs.length≤400):cntOf p y=(y.subs.length,0)∧callsOf y=[]:=by
 have hc:callsOf y=[]:=by
  refine List.eq_nil_iff_forall_not_mem.2 fun r hr=>?_
  obtain⟨s,hs,hk,_⟩:=(callsOf_mem _ _).1 hr
  exact h s hs hk
 refine⟨?_,hc⟩
 have hr:reachedOf p []=[]:=rfl
 have ht:tot [] y=y.subs.length:=by
  unfold tot sumOf
  exact sum_ones _ _ (fun s hs=>by unfold sown;rw[if_neg (h s hs)])
 rw[cntOf_eq,hc,hr,if_neg (by simp)]
 show cntRes _ (some [])=_
 simp only[cntRes,ht]
 rw[if_neg (by omega)]
 congr 1
 omega
open Go.RowKit
def St.bsub (s:St):Nat:=(s.blocks.flatMap Bl.subs).length
theorem bsub_len (s:St):s.subs.length=1+s.bsub:=by rcases s with ⟨a1,a2,a3,a4,a5,a6,a7,a8,a9⟩;rw[St.subs_mk,List.length_cons];show _=1+(a8.flatMap Bl.subs).length;omega
def lenTo (body:List St) (j:Nat):Nat:=body.length+((body.take j).map St.bsub).sum
theorem lenTo_next (body:List St) (j:Nat) (h:j<body.length):lenTo body (j+1)=lenTo body j+body[j].bsub:=by
 unfold lenTo
 rw[List.take_succ_eq_append_getElem h,List.map_append,List.sum_append]
 simp;omega
theorem lenTo_end (body:List St):lenTo body body.length=(body.flatMap St.subs).length:=by
 unfold lenTo
 rw[List.take_length]
 induction body with
 | nil=>rfl
 | cons s l ih =>
  rw[List.flatMap_cons,List.length_append,← ih,bsub_len,List.length_cons,List.map_cons,List.sum_cons];omega
theorem lenTo_le (body:List St) (j:Nat):lenTo body j≤(body.flatMap St.subs).length:=by
 rw[← lenTo_end]
 unfold lenTo
 rw[List.take_length]
 conv=>rhs;rw[← List.take_append_drop j body,List.map_append,List.sum_append]
 simp only[List.length_append,List.length_take,List.length_drop]
 omega
theorem flat_snoc_len (l:List Bl) (k:Nat) (h:k<l.length):((l.take (k+1)).flatMap Bl.subs).length=((l.take k).flatMap Bl.subs).length+l[k].subs.length:=by
 rw[flatMap_snoc Bl.subs l k h,List.length_append]
theorem flat_take_len (l:List Bl) (k:Nat):((l.take k).flatMap Bl.subs).length≤(l.flatMap Bl.subs).length:=by
 conv=>rhs;rw[← List.take_append_drop k l,List.flatMap_append,List.length_append]
 omega
theorem len_le_sz (l:List St):l.length≤(l.map St.sz).sum:=by
 induction l with
 | nil=>simp
 | cons s l ih =>
  rw[List.length_cons,List.map_cons,List.sum_cons]
  have:1≤s.sz:=by
   unfold St.sz
   omega
  omega
theorem body_le_subs (b:Bl):b.body.length≤b.subs.length:=by
 rcases b with ⟨a,c,body⟩
 rw[Bl.subs_mk]
 exact len_flat1 St.subs body (fun s _=>List.length_pos_of_mem (subs_self s))
theorem calls_le (b:Bl):(callsOf b).length≤b.subs.length:=by
 have:=callsA_len b.subs []
 simpa[callsOf] using this
theorem flat_le {α β γ:Type} (f:α→List β) (g:α→List γ) (l:List α) (h:∀ x∈l,(f x).length≤(g x).length):(l.flatMap f).length≤(l.flatMap g).length:=by
 induction l with
 | nil=>simp
 | cons x l ih =>
  rw[List.flatMap_cons,List.flatMap_cons,List.length_append,List.length_append]
  have h1:=h x (by simp)
  have h2:=ih (fun y hy=>h y (by simp[hy]))
  omega
theorem fine_small {p:Pr} (h:p.size≤400):Fine0 p:=by
 have h1:p.stmts.length≤400:=Nat.le_trans (len_le_sz _) h
 have h2:(p.mons.flatMap fun m=>m.meths.flatMap fun x=>x.body.subs).length≤400:=by
  have:p.stmts=(p.mons.flatMap fun m=>m.meths.flatMap fun x=>x.body.subs)++p.roles.flatMap fun r=>r.body.subs:=rfl
  rw[this,List.length_append] at h1;omega
 have h3:∀ m∈p.mons,∀ f∈m.meths,f.body.subs.length≤400:=fun m hm f hf=>by
  have a1:=len_flat (fun m:Mo=>m.meths.flatMap fun x=>x.body.subs) p.mons m hm
  have a2:=len_flat (fun x:Me=>x.body.subs) m.meths f hf
  omega
 have h4:(allRefs p).length≤400:=Nat.le_trans (flat_le _ _ p.mons fun m _=>flat_le _ _ m.meths fun f _=>calls_le f.body) h2
 refine⟨fun m hm f hf=>by have:=h3 m hm f hf;omega,fun m hm f hf=>by have:=h3 m hm f hf;have:=body_le_subs f.body;omega,by omega,fun r=>?_⟩
 unfold leadsOf bodyOf
 split
 ·rename_i f hf
  obtain⟨m,hm,hfm⟩:=methIx_mem hf
  have:=h3 m hm f hfm;have:=calls_le f.body;omega
 ·rw[callsOf,Bl.subs_mk];simp[callsA]
end Go.Proofs.YtpbjikncobnkjaaGreatDoor
