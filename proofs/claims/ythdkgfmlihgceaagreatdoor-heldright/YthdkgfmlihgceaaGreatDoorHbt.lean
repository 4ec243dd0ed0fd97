import Derived.Test.YthdkgfmlihgceaaGreatDoorHay
import Derived.Test.YthdkgfmlihgceaaGreatDoorHbm
import Derived.Test.YthdkgfmlihgceaaGreatDoorHbs
namespace Go.Proofs.YthdkgfmlihgceaaGreatDoor
set_option maxRecDepth 100000
set_option maxHeartbeats 16000000
open Go.RowKit
def qqn (r:Ro):Bool:=r.star || (r.count==1)
def qfv (r:Ro):Int:=if qqn r=true then 1 else r.count
def qgq (r:Ro) (i:Nat):ByteArray:=if qqn r=true then r.name else r.name++(⟨#[46]⟩:ByteArray)++⟨(Lib.itoa ((i:Int)+1)).toArray⟩
def qdg (p:Pr) (r:Ro):List (ByteArray × Bool × Fs):=(List.range (qfv r).toNat).map λi=>(qgq r i,r.star,qg8 p r.body)
def Flw.tri (f:Flw):ByteArray × Bool × Fs:=(f.name,f.star,f.fs)
theorem qBu:(Tryz.prog.info? 43).map (λi=>(i.zero,i.size,i.bytes))=some (some (.agg #[.string ⟨#[]⟩,.bool false,.int .i64 0,.slice none 0 0,.slice none 0 0]),5,80):=by kernel_rfl
theorem qlu {p:Pr}{x:Bl}(h:qg7 p x=0):(qg8 p x).es.length<=20000/\(qg8 p x).gs.length<=20000:=by
 have hc:(qba p x).2=0:=by
  unfold qg7 at h
  split at h
  ·assumption
  ·exact h
 obtain⟨h1,h2⟩:=qg6 hc
 obtain⟨-,h3,h4⟩:=Bl.low_gr (qa4 p.mons) (qap p.mons) _ (qAd h1) noG Fs.new 0
 have e2:Fs.new.es.length=0:=rfl
 have e3:Fs.new.gs.length=0:=rfl
 exact⟨by show ((_:Fs).es).length<=_;unfold qg8;omega,by unfold qg8;omega⟩
theorem qoa (l:List Ro):∀seen,qcn seen l=none->∀r∈l,r.star=false->1<=r.count/\r.count<=8:=by
 induction l with
 | nil=>intro seen _ r hr;cases hr
 | cons x l ih =>
  intro seen h r hr hs
  rw[qcn] at h
  split at h
  ·cases h
  split at h
  ·cases h
  ·rename_i h1
   rcases List.mem_cons.1 hr with rfl|hr
   ·have h2:¬ (r.count<1\/8<r.count):=λhh=>h1 ⟨hs,hh⟩
    omega
   ·exact ih _ h r hr hs
theorem qq0 {p:Pr}(h:p.ochk.1=0):p.roles.length<=8/\∀r∈p.roles,r.star=false->1<=r.count/\r.count<=8:=by
 have hc:p.cchk.1=0:=by
  unfold Pr.ochk at h
  split at h
  ·assumption
  ·exact h
 have ht:p.tchk.1=0:=by
  unfold Pr.cchk at hc
  split at hc
  ·assumption
  ·exact hc
 obtain⟨h1,-,h3,-⟩:=qdp (qpk ht)
 refine⟨?_,qoa _ _ h3⟩
 unfold Pr.ok Pr.decl at h1
 simp only[Bool.and_eq_true,decide_eq_true_eq] at h1
 exact h1.1.1.1.2
def Fr7 (u3:World) (v0 v:Value) (wx:World):Prop:=(∀i,i<u3.heap.size->v0.ownBlock≠some i->wx.heap[i]?=u3.heap[i]?)/\∀i,v.ownBlock=some i->v0.ownBlock=some i\/u3.heap.size<=i
theorem Fr7.next {u3 wx w1:World}{v0 v v':Value}(h:Fr7 u3 v0 v wx) (hb:∀i,i<u3.heap.size->v.ownBlock≠some i->w1.heap[i]?=wx.heap[i]?) (hv:∀i,v'.ownBlock=some i->v.ownBlock=some i\/u3.heap.size<=i):Fr7 u3 v0 v' w1:=by
 refine⟨λi hi hne=>(hb i hi λe=>?_).trans (h.1 i hi hne),λi e=>?_⟩
 ·rcases h.2 i e with e|e
  ·exact hne e
  ·omega
 ·rcases hv i e with e|e
  ·exact h.2 i e
  ·exact .inr e
theorem qmk (p:Pr) (j:Nat) (h:j<p.roles.length):(p.roles.take (j+1)).flatMap (qdg p)=(p.roles.take j).flatMap (qdg p)++qdg p p.roles[j]:=by
 rw[List.take_succ_eq_append_getElem h,List.flatMap_append];simp
theorem qDe {m:Nat}{z:Int}(hz:z=(m:Int)+1) (h:(m:Int)+1<=8):8-(intOf (.int .i64 z)).toNat<8-(intOf (.int .i64 (m:Int))).toNat:=by
 subst hz;simp[intOf];omega
def qhg (p:Pr) (w w':World) (r:Ending):Prop:=
 ((p.ochk.1≠0/\r=.returned (.tuple #[.slice none 0 0,.int .i64 p.ochk.1,.int .i64 p.ochk.2]))\/(p.ochk.1=0/\∃(j:Nat) (h:j<p.roles.length),(∀k (hk:k<p.roles.length),k<j->qg7 p p.roles[k].body=0)/\qg7 p p.roles[j].body≠0/\r=.returned (.tuple #[.slice none 0 0,.int .i64 (qg7 p p.roles[j].body),.int .i64 p.roles[j].pos])) \/
  (p.ochk.1=0/\(∀x∈p.roles,qg7 p x.body=0)/\∃ad cp l,r=.returned (.tuple #[.slice ad l.length cp,.int .i64 0,.int .i64 0])/\SlAt 5 Flw.cells w'.heap.size w' ad cp l/\(∀f∈l,f.Is w'.heap.size w')/\l.map Flw.tri=p.roles.flatMap (qdg p)))/\Below w.heap.size w w'
theorem qsp (p:Pr) (nz:Nat) (w:World) (hn:nz<=w.heap.size) (hp:p.Is nz w) (hoc:∀W,Below w.heap.size w W->Calls Tryz.prog 16 #[p.val] W λr w'=>qc8 p.ochk W w' r) (hlow:∀x∈p.roles,∀W,Below w.heap.size w W->Calls Tryz.prog 17 #[p.val,x.body.slice] W λr w'=>qjs p x.body nz W w' r) (ht:Tab w) (h6:6<=w.heap.size) :
  Calls Tryz.prog 6 #[p.val] w λr w'=>qhg p w w' r:=by
 have HCN:=hid (λ(h:p.ochk.1=0)=>qq0 h)
 obtain⟨tc,htc⟩:∃tc,p.ochk=tc:=⟨_,rfl⟩
 simp only[qhg,htc] at hoc HCN ⊢
 obtain⟨tc1,tc2⟩:=tc
 simp only[qc8] at hoc
 have hB:=(Below.refl w.heap.size w).al qaa (.cells #[.slice p.mad p.mons.length p.mcap,.slice p.rad p.roles.length p.rcap] 25)
 have b0:=qaf w (.cells #[.slice p.mad p.mons.length p.mcap,.slice p.rad p.roles.length p.rcap] 25)
 have hz1:(w.alloc (.cells #[.slice p.mad p.mons.length p.mcap,.slice p.rad p.roles.length p.rcap] 25)).heap.size=w.heap.size+1:=by simp
 obtain⟨W1,hW1⟩:∃W1,w.alloc (.cells #[.slice p.mad p.mons.length p.mcap,.slice p.rad p.roles.length p.rcap] 25)=W1:=⟨_,rfl⟩
 rw[hW1] at hB b0 hz1
 have hoc1:=hoc W1 hB
 have HZ:=hid hz1
 have HB0:=hid hB
 obtain⟨⟨-,-⟩,hr5,hr6⟩:=hp
 have hl1:=hr5.1;have hl2:=hr5.2.1
 unfold maxLen at hl2
 have HBX:=hid (λ(W:World) (hW:Below W1.heap.size W1 W)=>(hW.block w.heap.size (by omega)).trans b0)
 have p0:=cellOf b0 0
 have p1:=cellOf b0 1
 simp at p0 p1
 obtain⟨i0,hi,iz0,iz1,iz2⟩:=info_parts qBu
 simp only[Pr.val] at hoc1 hlow ⊢
 clear hoc htc hz1 hB b0
 obtain⟨prad,hprad⟩:∃r,p.rad=r:=⟨_,rfl⟩
 simp only[hprad] at hoc1 hlow hr5 p1 hW1 HBX ⊢
 clear hprad
 cases hce:(tc1 != 0:Bool)
 ·have hc0:tc1=0:=by simpa using hce
  subst hc0
  obtain⟨hrl,hcount⟩:=HCN.out rfl
  go_enter Tryz.func6,Tryz.ntmps6
  go_upto_region 6 with (go_at_call 16;(with_reducible refine hoc1.mono ?_);rintro r u1 ⟨rfl,bb⟩;have x0:=cellOf (HBX.out _ bb) 0;have x1:=cellOf (HBX.out _ bb) 1;simp at x0 x1)
  go_loopw [7,27] (λv i wr=>∃(j:Nat) (l:List Flw),j<=p.roles.length/\i=.int .i64 j/\wr.ownsRow W1.heap.size 43 5 v l.length (l.flatMap Flw.cells)/\Hid (∀f∈l,f.Is wr.heap.size (only (bt nz W1.heap.size v) wr))/\Hid ((∀k (hk:k<p.roles.length),k<j->qg7 p p.roles[k].body=0)/\l.map Flw.tri=(p.roles.take j).flatMap (qdg p)/\l.length<=8*j)/\Below W1.heap.size W1 wr)
   (λ_ i _=>p.roles.length-(intOf i).toNat)
  case atStart=>exact⟨0,[],by omega,rfl,World.ownsRow_nil _ _ _ _,(λf hf=>by cases hf),⟨(λk hk h=>by omega),by simp,by simp⟩,bb⟩
  case round =>
   obtain⟨j,l,hj,rfl,hown,HIS,HL,bw⟩:=hrel
   by_cases hlt:j<p.roles.length
   ·rcases hr5.2.2 with h|⟨rb,roff,rfl,hrn,hrow⟩
    ·rw[h] at hlt;simp at hlt
    have bwF:Below w.heap.size w wr:=HB0.out.trans (bw.mono (by have:=HZ.out;omega))
    have hIr:=hr6 _ (List.getElem_mem hlt)
    have hlr:=hlow _ (List.getElem_mem hlt)
    have hcr:=hcount _ (List.getElem_mem hlt)
    have hrj:=hrow.below (bwF.mono hn) hrn
    obtain⟨R0,hR0⟩:∃R0,p.roles[j]=R0:=⟨_,rfl⟩
    have HR0:=hid hR0
    rw[hR0] at hIr hlr hcr
    obtain⟨e0,he0⟩:∃e0,qg7 p R0.body=e0:=⟨_,rfl⟩
    have HE0:=hid he0
    rcases hRR:R0 with ⟨name,star,count,⟨bad,bcap,bbody⟩,pos⟩
    have HRR:=hid hRR
    rw[hRR] at hlr
    obtain⟨c0,c1,c2,c3,c4⟩:=qup hrj j hlt (c0:=.string name) (c1:=.bool star) (c2:=.int .i64 count) (c3:=.slice bad bbody.length bcap) (c4:=.int .i64 pos) (by rw[hR0,hRR];rfl)
    simp only[Bl.slice] at hlr
    clear hrj hR0 hrow
    have hlr1:=hlr (wr.alloc (.cells #[.string name,.bool star,.int .i64 count,.slice bad bbody.length bcap,.int .i64 pos] 59)) (bwF.al qaa _)
    have he1:qg7 p (Bl.mk bad bcap bbody)=e0:=by rw[<- he0,hRR]
    obtain⟨F0,hF0⟩:∃F0,qg8 p (Bl.mk bad bcap bbody)=F0:=⟨_,rfl⟩
    simp only[qjs,he1,hF0] at hlr1
    have HF0:=hid hF0
    have HSM:Hid (e0=0->F0.es.length<=20000/\F0.gs.length<=20000):=λh=>by rw[<- hF0];exact qlu (he1.trans h)
    have hbr:(wr.alloc (.cells #[.string name,.bool star,.int .i64 count,.slice bad bbody.length bcap,.int .i64 pos] 59)).heap[wr.heap.size]?=some (.cells #[.string name,.bool star,.int .i64 count,.slice bad bbody.length bcap,.int .i64 pos] 59 (0,0)):=qaf wr _
    obtain⟨Wr,hWr⟩:∃Wr,wr.alloc (.cells #[.string name,.bool star,.int .i64 count,.slice bad bbody.length bcap,.int .i64 pos] 59)=Wr:=⟨_,rfl⟩
    have hBr:Below wr.heap.size wr Wr:=by rw[<- hWr];exact (Below.refl _ wr).al qaa _
    have hzr:Wr.heap.size=wr.heap.size+1:=by rw[<- hWr];simp
    rw[hWr] at hlr1 hbr
    have HZR:=hid hzr
    have HRB:=hid (λ(u:World) (k:Below Wr.heap.size Wr u)=>(k.block wr.heap.size (by omega)).trans hbr)
    have HBr:=hid hBr
    obtain⟨rr0,rr1,rr2,rr3,rr4,rrf⟩:=qd0 hbr
    clear he1 hF0 he0 hzr hbr hBr hlr
    have q0:=cellOf (HBX.out _ (bw.tr qaa HBr.out)) 0
    have q1:=cellOf (HBX.out _ (bw.tr qaa HBr.out)) 1
    simp at q0 q1
    cases hee:(e0 != 0:Bool)
    ·have hez:e0=0:=by simpa using hee
     subst hez
     have hwl:wr.heap.size<Wr.heap.size:=by have:=HZR.out;omega
     go_upto_region 11 with (go_at_call 17;(with_reducible refine hlr1.mono ?_);rintro r u1 ⟨locs,ead,ecap,es,gad,gcap,gs,rfl,b10,HN,HF,-⟩;obtain⟨rr0,rr1,rr2,rr3,rr4,rrf⟩:=qd0 (HRB.out _ b10);have hwu:wr.heap.size<u1.heap.size:=Nat.lt_of_lt_of_le hwl b10.size)
     have hbW:(u1.alloc (.cells #[.string ⟨#[]⟩,.bool false,.int .i64 locs,.slice ead es.length ecap,.slice gad gs.length gcap] 43)).heap[u1.heap.size]?=some (.cells #[.string ⟨#[]⟩,.bool false,.int .i64 locs,.slice ead es.length ecap,.slice gad gs.length gcap] 43 (0,0)):=qaf u1 _
     have hBW:Below u1.heap.size u1 (u1.alloc (.cells #[.string ⟨#[]⟩,.bool false,.int .i64 locs,.slice ead es.length ecap,.slice gad gs.length gcap] 43)):=(Below.refl _ u1).al qaa _
     have hzW:(u1.alloc (.cells #[.string ⟨#[]⟩,.bool false,.int .i64 locs,.slice ead es.length ecap,.slice gad gs.length gcap] 43)).heap.size=u1.heap.size+1:=by simp
     obtain⟨W2,hW2⟩:∃W2,u1.alloc (.cells #[.string ⟨#[]⟩,.bool false,.int .i64 locs,.slice ead es.length ecap,.slice gad gs.length gcap] 43)=W2:=⟨_,rfl⟩
     rw[hW2] at hbW hBW hzW ⊢
     have HZW:=hid hzW
     have HBW:=hid hBW
     have bR2:=(hBW.block wr.heap.size hwu).trans (HRB.out _ b10)
     have htn:=qik ⟨name,star,count,.mk bad bcap bbody,pos⟩ W2
     obtain⟨rr0,rr1,rr2,rr3,rr4,rrf⟩:=qd0 bR2
     have HBWF:Hid (Below w.heap.size w W2):=(bwF.trans ((HBr.out.trans ((b10.trans (hBW.mono b10.size)).mono (by omega))).mono bwF.size))
     have HLN:Hid (Len name):=by have:=hIr.1;rw[HRR.out] at this;exact this
     have HCR:Hid (star=false->1<=count/\count<=8):=by rw[HRR.out] at hcr;exact hcr
     have HFS:=hid (HF trivial)
     have HEG:Hid (es.length<=20000/\gs.length<=20000):=by
      obtain⟨a1,a2⟩:=HSM.out trivial
      rw[<- HFS.out] at a1 a2
      simp only[Flw.fs,List.length_map] at a1 a2
      exact⟨a1,a2⟩
     simp only[Ro.val,Ro.cells,Bl.slice,qys] at htn
     clear hW2 hzW hBW hlr1 hIr hcr HF
     cases hone:(star || (count==1))
     ·have hstar:star=false:=by cases star <;> simp_all
      have hcnt:¬ count=1:=by intro h;subst h;simp at hone
      have HONE:Hid (¬ qqn R0=true):=by show ¬ _;rw[HRR.out];simp[qqn,hone]
      have htn2:Calls Tryz.prog 18 #[.agg #[.string name,.bool star,.int .i64 count,.slice bad bbody.length bcap,.int .i64 pos]] W2 λr w'=>∃k,r=.returned (.tuple #[.int .i64 count,.func (.func 32) #[] #[.pointer (some ⟨k,0,none⟩)]])/\W2.heap.size<=k/\w'.heap[k]?=some (.cells #[.string name,.bool star,.int .i64 count,.slice bad bbody.length bcap,.int .i64 pos] 59 (0,0))/\Below W2.heap.size W2 w':=htn.mono λr w' h=>by
       obtain⟨k,h1,h2,h3,h4⟩:=h
       rcases h1 with ⟨h1,-⟩|⟨-,h1⟩
       ·rcases h1 with h1|h1
        ·rw[hstar] at h1;cases h1
        ·exact absurd h1 hcnt
       ·exact⟨k,h1,h2,h3,h4⟩
      clear htn
      have HST0:=hid hstar
      have HC0:=hid hcnt
      clear hstar hcnt
      have HNT:Hid (qfv R0=count):=by show _=_;rw[qfv,if_neg HONE.out,HRR.out]
      have HTN:Hid (∀m:Nat,qgq R0 m=name++(⟨#[46]⟩:ByteArray)++⟨(Lib.itoa ((m:Int)+1)).toArray⟩):=λm=>by rw[qgq,if_neg HONE.out,HRR.out]
      go_upto_region 12 with (go_at_call 18;(with_reducible refine htn2.mono ?_);rintro r u3 ⟨k,rfl,hkW,hk3,bb3⟩)
      have hkl:=(Array.getElem?_eq_some_iff.1 hk3).1
      have hnm:=λ(m:Nat) (hm:m<=8) (W:World) (hk:W.heap[k]?=some (.cells #[.string name,.bool star,.int .i64 count,.slice bad bbody.length bcap,.int .i64 pos] 59 (0,0))) (hW:Below w.heap.size w W)=>qty (m:Int) k W name star count bad bcap bbody pos hk (by omega) (by omega) HLN.out (ht.below hW (by omega)) (by have:=hW.size;omega)
      have HOW:=hid hown
      have HSZ:Hid (wr.heap.size<Wr.heap.size/\Wr.heap.size<=u1.heap.size/\u1.heap.size<W2.heap.size/\W2.heap.size<=u3.heap.size/\W1.heap.size<=wr.heap.size/\nz<=W1.heap.size):=⟨hwl,b10.size,by have:=HZW.out;omega,bb3.size,bw.size,by have:=HZ.out;omega⟩
      have HKB:=hid (λ(X:World) (h:∀i,i<u3.heap.size->u7.ownBlock≠some i->X.heap[i]?=u3.heap[i]?)=>(h k hkl (λe=>by have:=qa7 hown e;have:=HSZ.out;omega)).trans hk3)
      have HFX:=hid (λ(X:World) (h:∀i,i<u3.heap.size->u7.ownBlock≠some i->X.heap[i]?=u3.heap[i]?)=>(h u1.heap.size (by have:=HSZ.out;omega) (λe=>by have:=qa7 hown e;have:=HSZ.out;omega)).trans ((bb3.block u1.heap.size (by have:=HSZ.out;omega)).trans hbW))
      have HRX:=hid (λ(X:World) (h:∀i,i<u3.heap.size->u7.ownBlock≠some i->X.heap[i]?=u3.heap[i]?)=>(h wr.heap.size (by have:=HSZ.out;omega) (λe=>by have:=qa7 hown e;have:=HSZ.out;omega)).trans ((bb3.block wr.heap.size (by have:=HSZ.out;omega)).trans bR2))
      have HNX:=hid (λ(X:World) (h:∀i,i<u3.heap.size->u7.ownBlock≠some i->X.heap[i]?=u3.heap[i]?) (hs:u3.heap.size<=X.heap.size)=>HN.kept (w':=X) (by have:=HSZ.out;omega) (λi hi hq=>(h i (by have:=HSZ.out;omega) (λe=>by have:=qa7 hown e;have:=HSZ.out;omega)).trans ((bb3.block i (by have:=HSZ.out;omega)).trans (HBW.out.block i hi))))
      have BW0:Below W1.heap.size W1 u3:=bw.trans ((HBr.out.trans ((b10.trans ((HBW.out.trans (bb3.mono HBW.out.size)).mono b10.size)).mono (by omega))).mono bw.size)
      have HBF:=hid (λ(X:World) (h:Below W1.heap.size W1 X)=>(HB0.out.trans (h.mono (by have:=HZ.out;omega)):Below w.heap.size w X))
      have HN1:Hid (0<=count/\count<=8):=by have:=HCR.out HST0.out;exact⟨by omega,this.2⟩
      have HI3:=hid (λf hf=>(HIS.out f hf).imp (Y:=only (bt nz W1.heap.size u7) u3) (n':=u3.heap.size) (qak λi hi hq=>⟨hq,((HBr.out.trans ((b10.trans ((HBW.out.trans (bb3.mono HBW.out.size)).mono b10.size)).mono (by omega))).block i hi)⟩) (by have:=HSZ.out;omega))
      have HO3:=hid (qaq hown (HBr.out.trans ((b10.trans ((HBW.out.trans (bb3.mono HBW.out.size)).mono b10.size)).mono (by omega))))
      clear hown hbW bR2 hk3 bb3 HN b10 rr0 rr1 rr2 rr3 rr4 rrf c0 c1 c2 c3 c4 q0 q1
      obtain⟨wo,hwo⟩:∃wo:World,wo=wr:=⟨_,rfl⟩
      subst hwo
      go_wp2
      go_loopw [7,49] (λv i wx=>∃(m:Nat) (l2:List Flw),(m:Int)<=count/\i=.int .i64 m/\wx.ownsRow W1.heap.size 43 5 v l2.length (l2.flatMap Flw.cells)/\Hid (∀f∈l2,f.Is wx.heap.size (only (bt nz W1.heap.size v) wx))/\Hid (l2.map Flw.tri=l.map Flw.tri++(List.range m).map (λi=>(qgq R0 i,star,F0))/\l2.length=l.length+m)/\Hid (Fr7 u3 u7 v wx)/\u3.heap.size<=wx.heap.size/\Below W1.heap.size W1 wx)
       (λ_ i _=>8-(intOf i).toNat)
      case atStart=>exact⟨0,l,by have:=HN1.out;omega,rfl,HO3.out,HI3.out,⟨by simp,by omega⟩,⟨λ_ _ _=>rfl,λ_ e=>.inl e⟩,Nat.le_refl _,BW0⟩
      case round =>
       obtain⟨m,l2,hmN,rfl,hown2,HI2,HL2,FRM,hszx,BW⟩:=hrel
       by_cases hlt2:(m:Int)<count
       ·have HM1:Hid ((m:Int)+1<=count):=by show _<=_;omega
        have HM8:Hid (m<=8):=by have:=HN1.out;show m<=8;omega
        have hnm2:=λ(W:World) (hW:Below wr.heap.size wr W)=>hnm m HM8.out W ((hW.block k (by omega)).trans (HKB.out _ FRM.out.1)) (HBF.out _ (BW.trans (hW.mono BW.size)))
        have HNw:=HNX.out wr FRM.out.1 hszx
        have hal:=λ(W:World) (hW:Below wr.heap.size wr W) (sn:ByteArray)=>qkx ⟨#[]⟩ false locs ead ecap es gad gcap gs sn star W.heap.size W (Nat.le_refl _) (HNw.kept hW.size (λi hi _=>hW.block i hi)).is.1.1 (HNw.kept hW.size (λi hi _=>hW.block i hi)).is.2.1 (by have:=HEG.out.1;omega) (by have:=HEG.out.2;omega)
        simp only[qrv] at hal
        have HF5:=hid (HFX.out _ FRM.out.1)
        have HR5:=hid (HRX.out _ FRM.out.1)
        have HOW2:=hid hown2
        have HOF:Hid (∀i,W1.heap.size<=i->i<u3.heap.size->wo.heap.size<=i->u7.ownBlock≠some i):=λi h1 h2 h3 e=>by
         rcases FRM.out.2 i e with e|e
         ·have:=qa7 HOW.out e;omega
         ·omega
        have HS15:Hid (∀W,Below wr.heap.size wr W->(W.cell? ⟨u1.heap.size,0,none⟩=some (.string ⟨#[]⟩)/\W.cell? ⟨u1.heap.size,1,none⟩=some (.bool false)/\W.cell? ⟨u1.heap.size,2,none⟩=some (.int .i64 locs)/\W.cell? ⟨u1.heap.size,3,none⟩=some (.slice ead es.length ecap)/\W.cell? ⟨u1.heap.size,4,none⟩=some (.slice gad gs.length gcap))/\W.cell? ⟨wo.heap.size,1,none⟩=some (.bool star)):=λW hW=>by
         obtain⟨a0,a1,a2,a3,a4,-⟩:=qd0 ((hW.block u1.heap.size (by have:=HSZ.out;omega)).trans HF5.out)
         obtain⟨-,b1,-⟩:=qd0 ((hW.block wo.heap.size (by have:=HSZ.out;omega)).trans HR5.out)
         exact⟨⟨a0,a1,a2,a3,a4⟩,b1⟩
        have HKG:Hid (∀(Y W:World),Below wr.heap.size wr Y->Y.grownBy W u7.ownBlock->(W.cell? ⟨u1.heap.size,0,none⟩=some (.string ⟨#[]⟩)/\W.cell? ⟨u1.heap.size,1,none⟩=some (.bool false)/\W.cell? ⟨u1.heap.size,2,none⟩=some (.int .i64 locs)/\W.cell? ⟨u1.heap.size,3,none⟩=some (.slice ead es.length ecap)/\W.cell? ⟨u1.heap.size,4,none⟩=some (.slice gad gs.length gcap))/\W.cell? ⟨wo.heap.size,1,none⟩=some (.bool star)):=λY W hY hg=>by
         have hys:=hY.size
         have hz:=HSZ.out
         obtain⟨a0,a1,a2,a3,a4,-⟩:=qd0 ((hg.block u1.heap.size (by omega) (λe=>HOF.out _ (by omega) (by omega) (by omega) e.symm)).trans ((hY.block u1.heap.size (by omega)).trans HF5.out))
         obtain⟨-,b1,-⟩:=qd0 ((hg.block wo.heap.size (by omega) (λe=>HOF.out _ (by omega) (by omega) (by omega) e.symm)).trans ((hY.block wo.heap.size (by omega)).trans HR5.out))
         exact⟨⟨a0,a1,a2,a3,a4⟩,b1⟩
        have HL64:Hid (l2.length<=1000):=by
         show l2.length<=1000
         have:=HL2.out.2;have:=HL.out.2.2;have:=HM8.out;omega
        have hl64:=HL64.out
        have hWlt:W1.heap.size<=wr.heap.size:=BW.size
        have B:=(Below.refl wr.heap.size wr).drew
        go_upto_region 15 with fail
        go_region_held3 (λW=>(W.cell? ⟨u1.heap.size,0,none⟩=some (.string ⟨#[]⟩)/\W.cell? ⟨u1.heap.size,1,none⟩=some (.bool false)/\W.cell? ⟨u1.heap.size,2,none⟩=some (.int .i64 locs)/\W.cell? ⟨u1.heap.size,3,none⟩=some (.slice ead es.length ecap)/\W.cell? ⟨u1.heap.size,4,none⟩=some (.slice gad gs.length gcap))/\W.cell? ⟨wo.heap.size,1,none⟩=some (.bool star)) (first|exact KS|exact HS15.out _ B|exact HS15.out _ (B.al qaa _))
         (first
         | (go_at_call 32;(with_reducible refine (hnm2 _ B).mono ?_);rintro r ua ⟨sn,rfl,HSN,bba⟩;have B:=B.tr qaa bba)
         | (go_at_call 19;(with_reducible refine (hal _ B sn).mono ?_);rintro r ub ⟨ah',af',an',ak',rfl,hoe,hog,bbb⟩;have BA:=B;have B:=B.tr qaa bbb;have hown4:=(qaq hown2 B).alloc (.cells #[.string sn,.bool star,.int .i64 locs,.slice ah' es.length af',.slice an' gs.length ak'] 43);have hcn:=World.news_of_block (qaf ub (.cells #[.string sn,.bool star,.int .i64 locs,.slice ah' es.length af',.slice an' gs.length ak'] 43));have hszb:=B.size)
         | (refine step_append_lies _ (by rfl) _ _ 28 (by rfl) W1.heap.size 43 i0 _ 5 80 Tryz.underlying28 hi iz0 iz1 iz2 rfl (by decide) u7 l2.length (l2.flatMap Flw.cells) (by rfl) hown4 ⟨ub.heap.size,0,none⟩ 1 1 (#[.string sn,.bool star,.int .i64 locs,.slice ah' es.length af',.slice an' gs.length ak']:Array Value).toList (by rfl) (by rfl) hcn (by simp[Value.oneCell']) (by decide) (by unfold maxLen;omega) (by omega) (by simp;omega) (ub.heap.size+1) (by simp) ?_;intro g gcp w1 hown' hgrow hat hltg;have KS:=HKG.out _ _ (B.al qaa (.cells #[.string sn,.bool star,.int .i64 locs,.slice ah' es.length af',.slice an' gs.length ak'] 43)) hgrow))
        all_goals
         have BC:=B.al qaa (.cells #[.string sn,.bool star,.int .i64 locs,.slice ah' es.length af',.slice an' gs.length ak'] 43)
         have hgs:=hgrow.size
         have hac:=bba.size
         have hbc:=bbb.size
         have hz4:(ub.alloc (.cells #[.string sn,.bool star,.int .i64 locs,.slice ah' es.length af',.slice an' gs.length ak'] 43)).heap.size=ub.heap.size+1:=by simp
         have hat2:u7.ownBlock=some g\/ub.heap.size<=g:=hat.imp id (λe=>by omega)
         have hsz5:=HSZ.out
         have hua:wr.heap.size<=ua.heap.size:=by simpa using hac
         have hblk:∀i,i<wr.heap.size->u7.ownBlock≠some i->w1.heap[i]?=wr.heap[i]?:=λi hi hne=>(hgrow.block i (by omega) (λe=>hne e.symm)).trans (BC.block i hi)
         have HN3:=HNX.out u3 (λ_ _ _=>rfl) (Nat.le_refl _)
         have hex:∀ {e:Ex},e.Is u3.heap.size (only (λi=>decide (i<nz\/Wr.heap.size<=i)) u3)->e.Is w1.heap.size (only (bt nz W1.heap.size (.slice (some ⟨g,0,none⟩) (l2.length+1) gcp)) w1):=λh=>h.imp (qak λi hi hq=>by
          have hq:i<nz\/Wr.heap.size<=i:=of_decide_eq_true hq
          have hne:u7.ownBlock≠some i:=λe=>by
           rcases hq with hq|hq
           ·have:=qa7 HOW2.out e;omega
           ·exact HOF.out i (by omega) hi (by omega) e
          refine⟨qbf.2 ?_,(hblk i (by omega) hne).trans (FRM.out.1 i hi (λe=>by have:=qa7 HOW.out e;omega))⟩
          rcases hq with hq|hq
          ·exact .inl hq
          ·refine .inr ⟨by omega,λe=>?_⟩
           have e:g=i:=by simpa[Value.ownBlock] using e
           subst e
           rcases hat2 with e|e
           ·exact hne e
           ·omega) (by omega)
         have hfi:=HN3 (λi=>decide (i<nz\/Wr.heap.size<=i)) (λi hi=>by simp[hi]) (λi hi _=>by simp[hi])
         have hrow:∀(a:Addr) v,a.block<ub.heap.size->(only (λi=>decide (ua.heap.size<=i)) ub).cell? a=some v->(only (bt nz W1.heap.size (.slice (some ⟨g,0,none⟩) (l2.length+1) gcp)) w1).cell? a=some v:=qak λi hi hq=>by
          have hq:ua.heap.size<=i:=of_decide_eq_true hq
          refine⟨qbf.2 (.inr ⟨by omega,λe=>?_⟩),(hgrow.block i (by omega) (λe=>by have:=qa7 HOW2.out e.symm;omega)).trans (Below.heap_alloc _ _ _ hi)⟩
          have e:g=i:=by simpa[Value.ownBlock] using e
          subst e
          rcases hat2 with e|e
          ·have:=qa7 HOW2.out e;omega
          ·omega
         have HG1:Hid ((⟨sn,star,locs,ah',af',es,an',ak',gs⟩:Flw).Is w1.heap.size (only (bt nz W1.heap.size (.slice (some ⟨g,0,none⟩) (l2.length+1) gcp)) w1)):=by
          obtain⟨ad1,cp1,e1,f1⟩:=SlAt.own Ed.len hoe
          obtain⟨ad2,cp2,e2,f2⟩:=SlAt.own Gu.len hog
          injection e1 with e11 e12 e13
          injection e2 with e21 e22 e23
          subst e11 e13 e21 e23
          exact⟨⟨(f1 (λi=>decide (ua.heap.size<=i)) (λi hi _=>by simpa using hi)).imp Ed.len hrow (by omega),λx hx=>hex (hfi.1.2 x hx)⟩,(f2 (λi=>decide (ua.heap.size<=i)) (λi hi _=>by simpa using hi)).imp Gu.len hrow (by omega),λx hx=>hex (hfi.2.2 x hx)⟩
         have HALL:Hid (∀f∈l2++[(⟨sn,star,locs,ah',af',es,an',ak',gs⟩:Flw)],f.Is w1.heap.size (only (bt nz W1.heap.size (.slice (some ⟨g,0,none⟩) (l2.length+1) gcp)) w1)):=by
          intro f hf
          rcases List.mem_append.1 hf with hf|hf
          ·refine (HI2.out f hf).imp (qak λi hi hq=>?_) (by omega)
           have hne:u7.ownBlock≠some i:=λe=>by
            rcases qbf.1 hq with hq|hq
            ·have:=qa7 HOW2.out e;omega
            ·exact hq.2 e
           refine⟨qbf.2 ?_,hblk i hi hne⟩
           rcases qbf.1 hq with hq|hq
           ·exact .inl hq
           ·refine .inr ⟨hq.1,λe=>?_⟩
            have e:g=i:=by simpa[Value.ownBlock] using e
            subst e
            rcases hat2 with e|e
            ·exact hne e
            ·omega
          ·rw[List.mem_singleton.1 hf];exact HG1.out
         have HTRI:Hid ((l2++[(⟨sn,star,locs,ah',af',es,an',ak',gs⟩:Flw)]).map Flw.tri=l.map Flw.tri++(List.range (m+1)).map (λi=>(qgq R0 i,star,F0))/\(l2++[(⟨sn,star,locs,ah',af',es,an',ak',gs⟩:Flw)]).length=l.length+(m+1)):=by
          refine⟨?_,by rw[List.length_append,HL2.out.2];rfl⟩
          have hg:Flw.tri (⟨sn,star,locs,ah',af',es,an',ak',gs⟩:Flw)=(qgq R0 m,star,F0):=by
           show (sn,star,_)=_
           rw[HTN.out m,HSN.out,<- HFS.out];rfl
          rw[List.map_append,List.range_succ,List.map_append,HL2.out.1,List.append_assoc,List.map_cons,List.map_nil,hg,List.map_cons,List.map_nil]
         have HOWN:Hid (w1.ownsRow W1.heap.size 43 5 (.slice (some ⟨g,0,none⟩) (l2.length+1) gcp) (l2++[(⟨sn,star,locs,ah',af',es,an',ak',gs⟩:Flw)]).length ((l2++[(⟨sn,star,locs,ah',af',es,an',ak',gs⟩:Flw)]).flatMap Flw.cells)):=by
          have h1:(l2++[(⟨sn,star,locs,ah',af',es,an',ak',gs⟩:Flw)]).flatMap Flw.cells=l2.flatMap Flw.cells++(#[.string sn,.bool star,.int .i64 locs,.slice ah' es.length af',.slice an' gs.length ak']:Array Value).toList:=by rw[List.flatMap_append];rfl
          rw[h1,List.length_append]
          exact hown'
         have HFR2:=hid (FRM.out.next (v':=.slice (some ⟨g,0,none⟩) (l2.length+1) gcp) (w1:=w1) (λi hi hne=>hblk i (by omega) hne) (λi e=>by
          have e:g=i:=by simpa[Value.ownBlock] using e
          subst e
          rcases hat2 with e|e
          ·exact .inl e
          ·exact .inr (by omega)))
         have HBW1:Hid (Below W1.heap.size W1 w1):=Below.grown (BW.trans (BC.mono BW.size)) hgrow (by omega) (λi e=>(qa7 HOW2.out e).1)
         have HS1:Hid (u3.heap.size<=w1.heap.size):=by show _<=_;omega
         clear hat hat2 hgrow hown' hown4 hcn hoe hog bba bbb BA B BC KS hblk hex hfi hrow HN3 hgs hac hbc hz4 hsz5 hua hltg hszb
         go_wp2
         go_roundw
        case rel=>exact⟨m+1,_,by have:=HM1.out;omega,by first|go_num|exact congrArg (Value.int .i64) ((Go.IntWalk.wrap64_in ((m:Int)+1) (by have:=HM8.out;omega)).trans (by omega)),HOWN.out,HALL.out,HTRI.out,HFR2.out,HS1.out,HBW1.out⟩
        case measure =>
        have hn1:=HN1.out;have hm1:=HM1.out
        have hwm:=Go.IntWalk.wrap64_in ((m:Int)+1) (by have:=HM8.out;omega)
        have h8:(m:Int)+1<=8:=Int.le_trans hm1 hn1.2
        exact qDe hwm h8
       ·have HME:Hid ((m:Int)=count):=by show _=_;omega
        have HTR2:Hid (l2.map Flw.tri=(p.roles.take (j+1)).flatMap (qdg p)):=by
         show _=_
         have h1:qdg p R0=(List.range m).map (λi=>(qgq R0 i,star,F0)):=by
          rw[qdg,HNT.out,show (count:Int).toNat=m by have:=HME.out;omega,HRR.out]
          simp only[HF0.out]
         rw[qmk p j hlt,HR0.out,h1,HL2.out.1,HL.out.2.1]
        have HLO:Hid (∀k (hk:k<p.roles.length),k<j+1->qg7 p p.roles[k].body=0):=λk hk h=>by
         by_cases hkj:k=j
         ·subst hkj;rw[HR0.out,HE0.out]
         ·exact HL.out.1 k hk (by omega)
        have HLE:Hid (l2.length<=8*(j+1)):=by show _<=_;have:=HL2.out.2;have:=HL.out.2.2;have:=HME.out;have:=HN1.out;omega
        clear hszx
        go_wp2
        go_roundw
        case rel=>exact⟨j+1,l2,hlt,by go_num,hown2,HI2,⟨HLO.out,HTR2.out,HLE.out⟩,BW⟩
        case measure=>simp[intOf];omega
     ·have HONE:Hid (qqn R0=true):=by show _=_;rw[HRR.out];simp[qqn,hone]
      have htn2:Calls Tryz.prog 18 #[.agg #[.string name,.bool star,.int .i64 count,.slice bad bbody.length bcap,.int .i64 pos]] W2 λr w'=>∃k,r=.returned (.tuple #[.int .i64 1,.func (.func 31) #[] #[.pointer (some ⟨k,0,none⟩)]])/\W2.heap.size<=k/\w'.heap[k]?=some (.cells #[.string name,.bool star,.int .i64 count,.slice bad bbody.length bcap,.int .i64 pos] 59 (0,0))/\Below W2.heap.size W2 w':=htn.mono λr w' h=>by
       obtain⟨k,h1,h2,h3,h4⟩:=h
       rcases h1 with ⟨-,h1⟩|⟨h1,-⟩
       ·exact⟨k,h1,h2,h3,h4⟩
       ·exact absurd (by simpa using hone) h1
      clear htn
      have HNT:Hid (qfv R0=1):=by show _=_;rw[qfv,if_pos HONE.out]
      have HTN:Hid (∀m:Nat,qgq R0 m=name):=λm=>by rw[qgq,if_pos HONE.out,HRR.out]
      go_upto_region 12 with (go_at_call 18;(with_reducible refine htn2.mono ?_);rintro r u3 ⟨k,rfl,hkW,hk3,bb3⟩)
      have hkl:=(Array.getElem?_eq_some_iff.1 hk3).1
      have hnm:=λ(m:Nat) (W:World) (hk:W.heap[k]?=some (.cells #[.string name,.bool star,.int .i64 count,.slice bad bbody.length bcap,.int .i64 pos] 59 (0,0)))=>qtx (m:Int) k W name star count bad bcap bbody pos hk
      have HOW:=hid hown
      have HSZ:Hid (wr.heap.size<Wr.heap.size/\Wr.heap.size<=u1.heap.size/\u1.heap.size<W2.heap.size/\W2.heap.size<=u3.heap.size/\W1.heap.size<=wr.heap.size/\nz<=W1.heap.size):=⟨hwl,b10.size,by have:=HZW.out;omega,bb3.size,bw.size,by have:=HZ.out;omega⟩
      have HKB:=hid (λ(X:World) (h:∀i,i<u3.heap.size->u7.ownBlock≠some i->X.heap[i]?=u3.heap[i]?)=>(h k hkl (λe=>by have:=qa7 hown e;have:=HSZ.out;omega)).trans hk3)
      have HFX:=hid (λ(X:World) (h:∀i,i<u3.heap.size->u7.ownBlock≠some i->X.heap[i]?=u3.heap[i]?)=>(h u1.heap.size (by have:=HSZ.out;omega) (λe=>by have:=qa7 hown e;have:=HSZ.out;omega)).trans ((bb3.block u1.heap.size (by have:=HSZ.out;omega)).trans hbW))
      have HRX:=hid (λ(X:World) (h:∀i,i<u3.heap.size->u7.ownBlock≠some i->X.heap[i]?=u3.heap[i]?)=>(h wr.heap.size (by have:=HSZ.out;omega) (λe=>by have:=qa7 hown e;have:=HSZ.out;omega)).trans ((bb3.block wr.heap.size (by have:=HSZ.out;omega)).trans bR2))
      have HNX:=hid (λ(X:World) (h:∀i,i<u3.heap.size->u7.ownBlock≠some i->X.heap[i]?=u3.heap[i]?) (hs:u3.heap.size<=X.heap.size)=>HN.kept (w':=X) (by have:=HSZ.out;omega) (λi hi hq=>(h i (by have:=HSZ.out;omega) (λe=>by have:=qa7 hown e;have:=HSZ.out;omega)).trans ((bb3.block i (by have:=HSZ.out;omega)).trans (HBW.out.block i hi))))
      have BW0:Below W1.heap.size W1 u3:=bw.trans ((HBr.out.trans ((b10.trans ((HBW.out.trans (bb3.mono HBW.out.size)).mono b10.size)).mono (by omega))).mono bw.size)
      have HBF:=hid (λ(X:World) (h:Below W1.heap.size W1 X)=>(HB0.out.trans (h.mono (by have:=HZ.out;omega)):Below w.heap.size w X))
      have HN1:Hid (0<=1/\1<=8):=⟨by decide,by decide⟩
      have HI3:=hid (λf hf=>(HIS.out f hf).imp (Y:=only (bt nz W1.heap.size u7) u3) (n':=u3.heap.size) (qak λi hi hq=>⟨hq,((HBr.out.trans ((b10.trans ((HBW.out.trans (bb3.mono HBW.out.size)).mono b10.size)).mono (by omega))).block i hi)⟩) (by have:=HSZ.out;omega))
      have HO3:=hid (qaq hown (HBr.out.trans ((b10.trans ((HBW.out.trans (bb3.mono HBW.out.size)).mono b10.size)).mono (by omega))))
      clear hown hbW bR2 hk3 bb3 HN b10 rr0 rr1 rr2 rr3 rr4 rrf c0 c1 c2 c3 c4 q0 q1
      obtain⟨wo,hwo⟩:∃wo:World,wo=wr:=⟨_,rfl⟩
      subst hwo
      go_wp2
      go_loopw [7,49] (λv i wx=>∃(m:Nat) (l2:List Flw),(m:Int)<=1/\i=.int .i64 m/\wx.ownsRow W1.heap.size 43 5 v l2.length (l2.flatMap Flw.cells)/\Hid (∀f∈l2,f.Is wx.heap.size (only (bt nz W1.heap.size v) wx))/\Hid (l2.map Flw.tri=l.map Flw.tri++(List.range m).map (λi=>(qgq R0 i,star,F0))/\l2.length=l.length+m)/\Hid (Fr7 u3 u7 v wx)/\u3.heap.size<=wx.heap.size/\Below W1.heap.size W1 wx)
       (λ_ i _=>8-(intOf i).toNat)
      case atStart=>exact⟨0,l,by have:=HN1.out;omega,rfl,HO3.out,HI3.out,⟨by simp,by omega⟩,⟨λ_ _ _=>rfl,λ_ e=>.inl e⟩,Nat.le_refl _,BW0⟩
      case round =>
       obtain⟨m,l2,hmN,rfl,hown2,HI2,HL2,FRM,hszx,BW⟩:=hrel
       by_cases hlt2:(m:Int)<1
       ·have HM1:Hid ((m:Int)+1<=1):=by show _<=_;omega
        have HM8:Hid (m<=8):=by have:=HN1.out;show m<=8;omega
        have hnm2:=λ(W:World) (hW:Below wr.heap.size wr W)=>hnm m W ((hW.block k (by omega)).trans (HKB.out _ FRM.out.1))
        have HNw:=HNX.out wr FRM.out.1 hszx
        have hal:=λ(W:World) (hW:Below wr.heap.size wr W) (sn:ByteArray)=>qkx ⟨#[]⟩ false locs ead ecap es gad gcap gs sn star W.heap.size W (Nat.le_refl _) (HNw.kept hW.size (λi hi _=>hW.block i hi)).is.1.1 (HNw.kept hW.size (λi hi _=>hW.block i hi)).is.2.1 (by have:=HEG.out.1;omega) (by have:=HEG.out.2;omega)
        simp only[qrv] at hal
        have HF5:=hid (HFX.out _ FRM.out.1)
        have HR5:=hid (HRX.out _ FRM.out.1)
        have HOW2:=hid hown2
        have HOF:Hid (∀i,W1.heap.size<=i->i<u3.heap.size->wo.heap.size<=i->u7.ownBlock≠some i):=λi h1 h2 h3 e=>by
         rcases FRM.out.2 i e with e|e
         ·have:=qa7 HOW.out e;omega
         ·omega
        have HS15:Hid (∀W,Below wr.heap.size wr W->(W.cell? ⟨u1.heap.size,0,none⟩=some (.string ⟨#[]⟩)/\W.cell? ⟨u1.heap.size,1,none⟩=some (.bool false)/\W.cell? ⟨u1.heap.size,2,none⟩=some (.int .i64 locs)/\W.cell? ⟨u1.heap.size,3,none⟩=some (.slice ead es.length ecap)/\W.cell? ⟨u1.heap.size,4,none⟩=some (.slice gad gs.length gcap))/\W.cell? ⟨wo.heap.size,1,none⟩=some (.bool star)):=λW hW=>by
         obtain⟨a0,a1,a2,a3,a4,-⟩:=qd0 ((hW.block u1.heap.size (by have:=HSZ.out;omega)).trans HF5.out)
         obtain⟨-,b1,-⟩:=qd0 ((hW.block wo.heap.size (by have:=HSZ.out;omega)).trans HR5.out)
         exact⟨⟨a0,a1,a2,a3,a4⟩,b1⟩
        have HKG:Hid (∀(Y W:World),Below wr.heap.size wr Y->Y.grownBy W u7.ownBlock->(W.cell? ⟨u1.heap.size,0,none⟩=some (.string ⟨#[]⟩)/\W.cell? ⟨u1.heap.size,1,none⟩=some (.bool false)/\W.cell? ⟨u1.heap.size,2,none⟩=some (.int .i64 locs)/\W.cell? ⟨u1.heap.size,3,none⟩=some (.slice ead es.length ecap)/\W.cell? ⟨u1.heap.size,4,none⟩=some (.slice gad gs.length gcap))/\W.cell? ⟨wo.heap.size,1,none⟩=some (.bool star)):=λY W hY hg=>by
         have hys:=hY.size
         have hz:=HSZ.out
         obtain⟨a0,a1,a2,a3,a4,-⟩:=qd0 ((hg.block u1.heap.size (by omega) (λe=>HOF.out _ (by omega) (by omega) (by omega) e.symm)).trans ((hY.block u1.heap.size (by omega)).trans HF5.out))
         obtain⟨-,b1,-⟩:=qd0 ((hg.block wo.heap.size (by omega) (λe=>HOF.out _ (by omega) (by omega) (by omega) e.symm)).trans ((hY.block wo.heap.size (by omega)).trans HR5.out))
         exact⟨⟨a0,a1,a2,a3,a4⟩,b1⟩
        have HL64:Hid (l2.length<=1000):=by
         show l2.length<=1000
         have:=HL2.out.2;have:=HL.out.2.2;have:=HM8.out;omega
        have hl64:=HL64.out
        have hWlt:W1.heap.size<=wr.heap.size:=BW.size
        have B:=(Below.refl wr.heap.size wr).drew
        go_upto_region 15 with fail
        go_region_held3 (λW=>(W.cell? ⟨u1.heap.size,0,none⟩=some (.string ⟨#[]⟩)/\W.cell? ⟨u1.heap.size,1,none⟩=some (.bool false)/\W.cell? ⟨u1.heap.size,2,none⟩=some (.int .i64 locs)/\W.cell? ⟨u1.heap.size,3,none⟩=some (.slice ead es.length ecap)/\W.cell? ⟨u1.heap.size,4,none⟩=some (.slice gad gs.length gcap))/\W.cell? ⟨wo.heap.size,1,none⟩=some (.bool star)) (first|exact KS|exact HS15.out _ B|exact HS15.out _ (B.al qaa _))
         (first
         | (go_at_call 31;(with_reducible refine (hnm2 _ B).mono ?_);rintro r ua ⟨sn,rfl,HSN,bba⟩;have B:=B.tr qaa bba)
         | (go_at_call 19;(with_reducible refine (hal _ B sn).mono ?_);rintro r ub ⟨ah',af',an',ak',rfl,hoe,hog,bbb⟩;have BA:=B;have B:=B.tr qaa bbb;have hown4:=(qaq hown2 B).alloc (.cells #[.string sn,.bool star,.int .i64 locs,.slice ah' es.length af',.slice an' gs.length ak'] 43);have hcn:=World.news_of_block (qaf ub (.cells #[.string sn,.bool star,.int .i64 locs,.slice ah' es.length af',.slice an' gs.length ak'] 43));have hszb:=B.size)
         | (refine step_append_lies _ (by rfl) _ _ 28 (by rfl) W1.heap.size 43 i0 _ 5 80 Tryz.underlying28 hi iz0 iz1 iz2 rfl (by decide) u7 l2.length (l2.flatMap Flw.cells) (by rfl) hown4 ⟨ub.heap.size,0,none⟩ 1 1 (#[.string sn,.bool star,.int .i64 locs,.slice ah' es.length af',.slice an' gs.length ak']:Array Value).toList (by rfl) (by rfl) hcn (by simp[Value.oneCell']) (by decide) (by unfold maxLen;omega) (by omega) (by simp;omega) (ub.heap.size+1) (by simp) ?_;intro g gcp w1 hown' hgrow hat hltg;have KS:=HKG.out _ _ (B.al qaa (.cells #[.string sn,.bool star,.int .i64 locs,.slice ah' es.length af',.slice an' gs.length ak'] 43)) hgrow))
        all_goals
         have BC:=B.al qaa (.cells #[.string sn,.bool star,.int .i64 locs,.slice ah' es.length af',.slice an' gs.length ak'] 43)
         have hgs:=hgrow.size
         have hac:=bba.size
         have hbc:=bbb.size
         have hz4:(ub.alloc (.cells #[.string sn,.bool star,.int .i64 locs,.slice ah' es.length af',.slice an' gs.length ak'] 43)).heap.size=ub.heap.size+1:=by simp
         have hat2:u7.ownBlock=some g\/ub.heap.size<=g:=hat.imp id (λe=>by omega)
         have hsz5:=HSZ.out
         have hua:wr.heap.size<=ua.heap.size:=by simpa using hac
         have hblk:∀i,i<wr.heap.size->u7.ownBlock≠some i->w1.heap[i]?=wr.heap[i]?:=λi hi hne=>(hgrow.block i (by omega) (λe=>hne e.symm)).trans (BC.block i hi)
         have HN3:=HNX.out u3 (λ_ _ _=>rfl) (Nat.le_refl _)
         have hex:∀ {e:Ex},e.Is u3.heap.size (only (λi=>decide (i<nz\/Wr.heap.size<=i)) u3)->e.Is w1.heap.size (only (bt nz W1.heap.size (.slice (some ⟨g,0,none⟩) (l2.length+1) gcp)) w1):=λh=>h.imp (qak λi hi hq=>by
          have hq:i<nz\/Wr.heap.size<=i:=of_decide_eq_true hq
          have hne:u7.ownBlock≠some i:=λe=>by
           rcases hq with hq|hq
           ·have:=qa7 HOW2.out e;omega
           ·exact HOF.out i (by omega) hi (by omega) e
          refine⟨qbf.2 ?_,(hblk i (by omega) hne).trans (FRM.out.1 i hi (λe=>by have:=qa7 HOW.out e;omega))⟩
          rcases hq with hq|hq
          ·exact .inl hq
          ·refine .inr ⟨by omega,λe=>?_⟩
           have e:g=i:=by simpa[Value.ownBlock] using e
           subst e
           rcases hat2 with e|e
           ·exact hne e
           ·omega) (by omega)
         have hfi:=HN3 (λi=>decide (i<nz\/Wr.heap.size<=i)) (λi hi=>by simp[hi]) (λi hi _=>by simp[hi])
         have hrow:∀(a:Addr) v,a.block<ub.heap.size->(only (λi=>decide (ua.heap.size<=i)) ub).cell? a=some v->(only (bt nz W1.heap.size (.slice (some ⟨g,0,none⟩) (l2.length+1) gcp)) w1).cell? a=some v:=qak λi hi hq=>by
          have hq:ua.heap.size<=i:=of_decide_eq_true hq
          refine⟨qbf.2 (.inr ⟨by omega,λe=>?_⟩),(hgrow.block i (by omega) (λe=>by have:=qa7 HOW2.out e.symm;omega)).trans (Below.heap_alloc _ _ _ hi)⟩
          have e:g=i:=by simpa[Value.ownBlock] using e
          subst e
          rcases hat2 with e|e
          ·have:=qa7 HOW2.out e;omega
          ·omega
         have HG1:Hid ((⟨sn,star,locs,ah',af',es,an',ak',gs⟩:Flw).Is w1.heap.size (only (bt nz W1.heap.size (.slice (some ⟨g,0,none⟩) (l2.length+1) gcp)) w1)):=by
          obtain⟨ad1,cp1,e1,f1⟩:=SlAt.own Ed.len hoe
          obtain⟨ad2,cp2,e2,f2⟩:=SlAt.own Gu.len hog
          injection e1 with e11 e12 e13
          injection e2 with e21 e22 e23
          subst e11 e13 e21 e23
          exact⟨⟨(f1 (λi=>decide (ua.heap.size<=i)) (λi hi _=>by simpa using hi)).imp Ed.len hrow (by omega),λx hx=>hex (hfi.1.2 x hx)⟩,(f2 (λi=>decide (ua.heap.size<=i)) (λi hi _=>by simpa using hi)).imp Gu.len hrow (by omega),λx hx=>hex (hfi.2.2 x hx)⟩
         have HALL:Hid (∀f∈l2++[(⟨sn,star,locs,ah',af',es,an',ak',gs⟩:Flw)],f.Is w1.heap.size (only (bt nz W1.heap.size (.slice (some ⟨g,0,none⟩) (l2.length+1) gcp)) w1)):=by
          intro f hf
          rcases List.mem_append.1 hf with hf|hf
          ·refine (HI2.out f hf).imp (qak λi hi hq=>?_) (by omega)
           have hne:u7.ownBlock≠some i:=λe=>by
            rcases qbf.1 hq with hq|hq
            ·have:=qa7 HOW2.out e;omega
            ·exact hq.2 e
           refine⟨qbf.2 ?_,hblk i hi hne⟩
           rcases qbf.1 hq with hq|hq
           ·exact .inl hq
           ·refine .inr ⟨hq.1,λe=>?_⟩
            have e:g=i:=by simpa[Value.ownBlock] using e
            subst e
            rcases hat2 with e|e
            ·exact hne e
            ·omega
          ·rw[List.mem_singleton.1 hf];exact HG1.out
         have HTRI:Hid ((l2++[(⟨sn,star,locs,ah',af',es,an',ak',gs⟩:Flw)]).map Flw.tri=l.map Flw.tri++(List.range (m+1)).map (λi=>(qgq R0 i,star,F0))/\(l2++[(⟨sn,star,locs,ah',af',es,an',ak',gs⟩:Flw)]).length=l.length+(m+1)):=by
          refine⟨?_,by rw[List.length_append,HL2.out.2];rfl⟩
          have hg:Flw.tri (⟨sn,star,locs,ah',af',es,an',ak',gs⟩:Flw)=(qgq R0 m,star,F0):=by
           show (sn,star,_)=_
           rw[HTN.out m,HSN.out,<- HFS.out];rfl
          rw[List.map_append,List.range_succ,List.map_append,HL2.out.1,List.append_assoc,List.map_cons,List.map_nil,hg,List.map_cons,List.map_nil]
         have HOWN:Hid (w1.ownsRow W1.heap.size 43 5 (.slice (some ⟨g,0,none⟩) (l2.length+1) gcp) (l2++[(⟨sn,star,locs,ah',af',es,an',ak',gs⟩:Flw)]).length ((l2++[(⟨sn,star,locs,ah',af',es,an',ak',gs⟩:Flw)]).flatMap Flw.cells)):=by
          have h1:(l2++[(⟨sn,star,locs,ah',af',es,an',ak',gs⟩:Flw)]).flatMap Flw.cells=l2.flatMap Flw.cells++(#[.string sn,.bool star,.int .i64 locs,.slice ah' es.length af',.slice an' gs.length ak']:Array Value).toList:=by rw[List.flatMap_append];rfl
          rw[h1,List.length_append]
          exact hown'
         have HFR2:=hid (FRM.out.next (v':=.slice (some ⟨g,0,none⟩) (l2.length+1) gcp) (w1:=w1) (λi hi hne=>hblk i (by omega) hne) (λi e=>by
          have e:g=i:=by simpa[Value.ownBlock] using e
          subst e
          rcases hat2 with e|e
          ·exact .inl e
          ·exact .inr (by omega)))
         have HBW1:Hid (Below W1.heap.size W1 w1):=Below.grown (BW.trans (BC.mono BW.size)) hgrow (by omega) (λi e=>(qa7 HOW2.out e).1)
         have HS1:Hid (u3.heap.size<=w1.heap.size):=by show _<=_;omega
         clear hat hat2 hgrow hown' hown4 hcn hoe hog bba bbb BA B BC KS hblk hex hfi hrow HN3 hgs hac hbc hz4 hsz5 hua hltg hszb
         go_wp2
         go_roundw
        case rel=>exact⟨m+1,_,by have:=HM1.out;omega,by first|go_num|exact congrArg (Value.int .i64) ((Go.IntWalk.wrap64_in ((m:Int)+1) (by have:=HM8.out;omega)).trans (by omega)),HOWN.out,HALL.out,HTRI.out,HFR2.out,HS1.out,HBW1.out⟩
        case measure =>
        have hn1:=HN1.out;have hm1:=HM1.out
        have hwm:=Go.IntWalk.wrap64_in ((m:Int)+1) (by have:=HM8.out;omega)
        simp[intOf];omega
       ·have HME:Hid ((m:Int)=1):=by show _=_;omega
        have HTR2:Hid (l2.map Flw.tri=(p.roles.take (j+1)).flatMap (qdg p)):=by
         show _=_
         have h1:qdg p R0=(List.range m).map (λi=>(qgq R0 i,star,F0)):=by
          rw[qdg,HNT.out,show (1:Int).toNat=m by have:=HME.out;omega,HRR.out]
          simp only[HF0.out]
         rw[qmk p j hlt,HR0.out,h1,HL2.out.1,HL.out.2.1]
        have HLO:Hid (∀k (hk:k<p.roles.length),k<j+1->qg7 p p.roles[k].body=0):=λk hk h=>by
         by_cases hkj:k=j
         ·subst hkj;rw[HR0.out,HE0.out]
         ·exact HL.out.1 k hk (by omega)
        have HLE:Hid (l2.length<=8*(j+1)):=by show _<=_;have:=HL2.out.2;have:=HL.out.2.2;have:=HME.out;have:=HN1.out;omega
        clear hszx
        go_wp2
        go_roundw
        case rel=>exact⟨j+1,l2,hlt,by go_num,hown2,HI2,⟨HLO.out,HTR2.out,HLE.out⟩,BW⟩
        case measure=>simp[intOf];omega
    ·have hen:¬ e0=0:=by simpa using hee
     have hlrE:Calls Tryz.prog 17 #[.agg #[.slice p.mad p.mons.length p.mcap,.slice (some ⟨rb,roff,none⟩) p.roles.length p.rcap],.slice bad bbody.length bcap] Wr λr w'=>r=.returned (.tuple #[.agg #[.string ⟨#[]⟩,.bool false,.int .i64 0,.slice none 0 0,.slice none 0 0],.int .i64 e0])/\Below Wr.heap.size Wr w':=hlr1.mono λr w' h=>by
      obtain⟨locs,ead,ecap,es,gad,gcap,gs,h1,h2,-,-,h5⟩:=h
      have h6:=h5 hen
      unfold zeroF at h6
      injection h6 with i1 i2 i3 i4 i5 i6 i7 i8 i9
      subst i3 i4 i5 i6 i7 i8 i9
      exact⟨h1,h2⟩
     clear hlr1
     have hwl:wr.heap.size<Wr.heap.size:=by have:=HZR.out;omega
     go_upto_region 10 with (go_at_call 17;(with_reducible refine hlrE.mono ?_);rintro r u1 ⟨rfl,b10⟩;obtain⟨-,-,-,-,rr4,-⟩:=qd0 (HRB.out _ b10);have hwu:wr.heap.size<u1.heap.size:=Nat.lt_of_lt_of_le hwl b10.size)
     go_quiet (fail)
     go_wp2
     refine bodyPost_ret (v:=.tuple #[.slice none 0 0,.int .i64 e0,.int .i64 pos]) (by simp[results,Tryz.results6,go_sem]) rfl ⟨.inr (.inl ⟨trivial,j,hlt,HL.out.1,?_,?_⟩),?_⟩
     ·rw[HR0.out,HE0.out];exact hen
     ·rw[HR0.out,HE0.out,HRR.out]
     ·have HQB:=λo=>((bwF.trans ((HBr.out.trans (b10.mono (by omega))).mono bwF.size)).alloc (by have:=bwF.size;omega) o)
      first|exact HQB _|exact below_drewN (HQB _) _
   ·have hje:j=p.roles.length:=by omega
    obtain⟨ad,cp,hv,hsl⟩:=SlAt.own Flw.len hown
    subst hv
    have HSL:=hid ((hsl (λ_=>true) (λ_ _ _=>rfl)).imp (Y:=wr) Flw.len qfx (Nat.le_refl _))
    have HAL:=hid (λf hf=>(HIS.out f hf).imp (Y:=wr) (n':=wr.heap.size) qfx (Nat.le_refl _))
    have HLZ:Hid (∀x∈p.roles,qg7 p x.body=0):=λx hx=>by
     obtain⟨k,hk,rfl⟩:=List.getElem_of_mem hx
     exact (HL.out.1 k hk (by omega):qg7 p p.roles[k].body=0)
    have HTR:=HL.out.2.1
    rw[hje,List.take_length] at HTR
    have HTR:=hid HTR
    have HBW:=hid (HB0.out.trans (bw.mono (by have:=HZ.out;omega)))
    clear hown hsl HL HIS
    go_wp2
    refine bodyPost_ret (v:=.tuple #[.slice ad l.length cp,.int .i64 0,.int .i64 0]) (by simp[results,Tryz.results6,go_sem]) rfl ⟨.inr (.inr ⟨trivial,HLZ.out,ad,cp,l,rfl,?_,?_,HTR.out⟩),?_⟩
    ·exact HSL.out.below (Below.refl _ _)
    ·exact HAL.out
    ·exact HBW.out
 ·have hcn:¬ tc1=0:=by simpa using hce
  go_enter Tryz.func6,Tryz.ntmps6
  go_wp2_with (go_at_call 16;(with_reducible refine hoc1.mono ?_);rintro r u1 ⟨rfl,bb⟩)
  refine bodyPost_ret (v:=.tuple #[.slice none 0 0,.int .i64 tc1,.int .i64 tc2]) (by simp[results,Tryz.results6,go_sem]) rfl ⟨.inl ⟨hcn,rfl⟩,HB0.out.trans (bb.mono (by have:=HZ.out;omega))⟩
open Go.RowKit
theorem qnl (p:Pr) (nz:Nat) (w:World) (hn:nz<=w.heap.size) (hp:p.Is nz w) (hS:Shapes w) (ht:Tab w) (hS3:6<=w.heap.size) (h1:p.size<=400) (h2:p.mons.length<=20) (h3:∀m∈p.mons,m.vars.length<=40) :
  Calls Tryz.prog 6 #[p.val] w λr w'=>qhg p w w' r:=
 qsp p nz w hn hp (λW hW=>qnz p nz W (by have:=hW.size;omega) (hp.below (hW.mono hn)) (λV hV=>qmu p nz V (by have:=hW.size;have:=hV.size;omega) (hp.below ((hW.tr qaa hV).mono hn)) (hS.below (hW.tr qaa hV) hS3) (by have:=(hW.tr qaa hV).size;omega) (qjp _ h2 h3) (qi6 h1) (qey h1).2) (qey h1).2 (qey h1).1)
  (λx hx W hW=>qtu p x.body nz W (by have:=hW.size;omega) (hp.below (hW.mono hn)) ((hp.2.2 x hx).2.2.2.below (hW.mono hn)) (hS.below hW hS3) (by have:=hW.size;omega) (qi6 h1) ((qey h1).2 x hx) (qjp _ h2 h3)) ht hS3
theorem qsq {p:Pr}{l:List Flw}(h:l.map Flw.tri=p.roles.flatMap (qdg p)) (f:Flw) (hf:f∈l):∃r∈p.roles,f.fs=qg8 p r.body:=by
 have h1:f.tri∈p.roles.flatMap (qdg p):=by rw[<- h];exact List.mem_map_of_mem hf
 obtain⟨r,hr,h2⟩:=List.mem_flatMap.1 h1
 unfold qdg at h2
 obtain⟨i,_,h3⟩:=List.mem_map.1 h2
 exact⟨r,hr,(congrArg (λx=>x.2.2) h3).symm⟩
theorem qzn {p:Pr}{l:List Flw}(h:l.map Flw.tri=p.roles.flatMap (qdg p)) (hE:∀x∈p.roles,qg7 p x.body=0) (f:Flw) (hf:f∈l):(∀a:Int,0<=a->PartsOk f.locs a (outs f.es a))/\GuardsOk f.es f.gs/\f.locs<=600/\f.es.length<=20000/\f.gs.length<=20000:=by
 obtain⟨r,hr,h1⟩:=qsq h f hf
 have h0:=hE r hr
 have hs:=qlu h0
 rw[<- h1] at hs
 have hl:=(qh4 h0).2
 rw[<- h1] at hl
 refine⟨λa ha=>qwj h1 a ha,qsr h1 h0,hl,?_,?_⟩
 ·have:=hs.1;rwa [Flw.fs,List.length_map] at this
 ·have:=hs.2;rwa [Flw.fs,List.length_map] at this
