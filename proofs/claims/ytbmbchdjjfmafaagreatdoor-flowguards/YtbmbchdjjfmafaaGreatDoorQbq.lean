/-
  Own texts joined by program: FlZ FpB FpQ FpL FpM.
-/
import Derived.Test.YtbmbchdjjfmafaaGreatDoorQbh
import Derived.Test.YtbmbchdjjfmafaaGreatDoorQbk
import Derived.Test.YtbmbchdjjfmafaaGreatDoorQbp
import Derived.Deep.DeepCutAuto
import Derived.Deep.RegionHeld3
namespace Go.Proofs.YtbmbchdjjfmafaaGreatDoor
open Go.RowKit
def isOne (r:Ro):Bool:=r.star || (r.count==1)
def nThreads (r:Ro):Int:=if isOne r=true then 1 else r.count
def tname (r:Ro) (i:Nat):ByteArray:=if isOne r=true then r.name else r.name++(⟨#[46]⟩:ByteArray)++⟨(Lib.itoa ((i:Int)+1)).toArray⟩
def roleFl (p:Pr) (r:Ro):List (ByteArray × Bool × Fs):=(List.range (nThreads r).toNat).map fun i=>(tname r i,r.star,lowF p r.body)
def Flw.tri (f:Flw):ByteArray × Bool × Fs:=(f.name,f.star,f.fs)
theorem info33:(Tryz.prog.info? 33).map (fun i=>(i.zero,i.size,i.bytes))=some (some (.agg #[.string ⟨#[]⟩,.bool false,.int .i64 0,.slice none 0 0,.slice none 0 0]),5,80):=by kernel_rfl
theorem low_small {p:Pr} {x:Bl} (h:lowE p x=0):(lowF p x).es.length≤20000∧(lowF p x).gs.length≤20000:=by
 have hc:(countOf p x).2=0:=by
  unfold lowE at h
  split at h
  ·assumption
  ·exact h
 obtain⟨h1,h2⟩:=inl_good hc
 obtain⟨-,h3,h4⟩:=Bl.low_gr (monI p.mons) (slotI p.mons) _ (okB_8 h1) noG Fs.new 0
 have e2:Fs.new.es.length=0:=rfl
 have e3:Fs.new.gs.length=0:=rfl
 exact⟨by show ((_:Fs).es).length≤_;unfold lowF;omega,by unfold lowF;omega⟩
theorem roleE_count (l:List Ro):∀ seen,roleE seen l=none→∀ r∈l,r.star=false→1≤r.count∧r.count≤8:=by
 induction l with
 | nil=>intro seen _ r hr;cases hr
 | cons x l ih =>
  intro seen h r hr hs
  rw[roleE] at h
  split at h
  ·cases h
  split at h
  ·cases h
  ·rename_i h1
   rcases List.mem_cons.1 hr with rfl|hr
   ·have h2:¬ (r.count<1∨8<r.count):=fun hh=>h1 ⟨hs,hh⟩
    omega
   ·exact ih _ h r hr hs
theorem ochk_parts {p:Pr} (h:p.ochk.1=0):p.roles.length≤8∧∀ r∈p.roles,r.star=false→1≤r.count∧r.count≤8:=by
 have hc:p.cchk.1=0:=by
  unfold Pr.ochk at h
  split at h
  ·assumption
  ·exact h
 have ht:p.tchk.1=0:=by
  unfold Pr.cchk at hc
  split at hc
  ·assumption
  ·exact hc
 obtain⟨h1,-,h3,-⟩:=chk_parts (tchk_pos ht)
 refine⟨?_,roleE_count _ _ h3⟩
 unfold Pr.ok Pr.decl at h1
 simp only[Bool.and_eq_true,decide_eq_true_eq] at h1
 exact h1.1.1.1.2
def Fr7 (u3:World) (v0 v:Value) (wx:World):Prop:=(∀ i,i<u3.heap.size→v0.ownBlock≠some i→wx.heap[i]?=u3.heap[i]?)∧∀ i,v.ownBlock=some i→v0.ownBlock=some i∨u3.heap.size≤i
theorem Fr7.next {u3 wx w1:World} {v0 v v':Value} (h:Fr7 u3 v0 v wx) (hb:∀ i,i<u3.heap.size→v.ownBlock≠some i→w1.heap[i]?=wx.heap[i]?) (hv:∀ i,v'.ownBlock=some i→v.ownBlock=some i∨u3.heap.size≤i):Fr7 u3 v0 v' w1:=by
 refine⟨fun i hi hne=>(hb i hi fun e=>?_).trans (h.1 i hi hne),fun i e=>?_⟩
 ·rcases h.2 i e with e|e
  ·exact hne e
  ·omega
 ·rcases hv i e with e|e
  ·exact h.2 i e
  ·exact .inr e
theorem take_flat (p:Pr) (j:Nat) (h:j<p.roles.length):(p.roles.take (j+1)).flatMap (roleFl p)=(p.roles.take j).flatMap (roleFl p)++roleFl p p.roles[j]:=by
 rw[List.take_succ_eq_append_getElem h,List.flatMap_append];simp
theorem measI {m:Nat} {z:Int} (hz:z=(m:Int)+1) (h:(m:Int)+1≤8):8-(intOf (.int .i64 z)).toNat<8-(intOf (.int .i64 (m:Int))).toNat:=by
 subst hz;simp[intOf];omega
def FlowsBack (p:Pr) (w w':World) (r:Ending):Prop:=
 ((p.ochk.1≠0∧r=.returned (.tuple #[.slice none 0 0,.int .i64 p.ochk.1,.int .i64 p.ochk.2]))∨(p.ochk.1=0∧∃ (j:Nat) (h:j<p.roles.length),(∀ k (hk:k<p.roles.length),k<j→lowE p p.roles[k].body=0)∧lowE p p.roles[j].body≠0∧r=.returned (.tuple #[.slice none 0 0,.int .i64 (lowE p p.roles[j].body),.int .i64 p.roles[j].pos])) ∨
  (p.ochk.1=0∧(∀ x∈p.roles,lowE p x.body=0)∧∃ ad cp l,r=.returned (.tuple #[.slice ad l.length cp,.int .i64 0,.int .i64 0])∧SlAt 5 Flw.cells w'.heap.size w' ad cp l∧(∀ f∈l,f.Is w'.heap.size w')∧l.map Flw.tri=p.roles.flatMap (roleFl p)))∧Below w.heap.size w w'
set_option maxRecDepth 100000 in
set_option maxHeartbeats 16000000 in
theorem flows_any (p:Pr) (n₀:Nat) (w:World) (hn:n₀≤w.heap.size) (hp:p.Is n₀ w) (hoc:∀ W,Below w.heap.size w W→Calls Tryz.prog 30 #[p.val] W fun r w'=>ChkBack p.ochk W w' r) (hlow:∀ x∈p.roles,∀ W,Below w.heap.size w W→Calls Tryz.prog 10 #[p.val,x.body.slice] W fun r w'=>LowBack p x.body n₀ W w' r) (ht:Tab w) (h6:6≤w.heap.size) :
  Calls Tryz.prog 14 #[p.val] w fun r w'=>FlowsBack p w w' r:=by
 have HCN:=hid (fun (h:p.ochk.1=0)=>ochk_parts h)
 obtain⟨tc,htc⟩:∃ tc,p.ochk=tc:=⟨_,rfl⟩
 simp only[FlowsBack,htc] at hoc HCN ⊢
 obtain⟨tc1,tc2⟩:=tc
 simp only[ChkBack] at hoc
 have hB:=(Below.refl w.heap.size w).al le_rfl' (.cells #[.slice p.mad p.mons.length p.mcap,.slice p.rad p.roles.length p.rcap] 25)
 have b0:=heapNew w (.cells #[.slice p.mad p.mons.length p.mcap,.slice p.rad p.roles.length p.rcap] 25)
 have hz1:(w.alloc (.cells #[.slice p.mad p.mons.length p.mcap,.slice p.rad p.roles.length p.rcap] 25)).heap.size=w.heap.size+1:=by simp
 obtain⟨W1,hW1⟩:∃ W1,w.alloc (.cells #[.slice p.mad p.mons.length p.mcap,.slice p.rad p.roles.length p.rcap] 25)=W1:=⟨_,rfl⟩
 rw[hW1] at hB b0 hz1
 have hoc1:=hoc W1 hB
 have HZ:=hid hz1
 have HB0:=hid hB
 obtain⟨⟨-,-⟩,hr5,hr6⟩:=hp
 have hl1:=hr5.1;have hl2:=hr5.2.1
 unfold maxLen at hl2
 have HBX:=hid (fun (W:World) (hW:Below W1.heap.size W1 W)=>(hW.block w.heap.size (by omega)).trans b0)
 have p0:=cellOf b0 0
 have p1:=cellOf b0 1
 simp at p0 p1
 obtain⟨i0,hi,iz0,iz1,iz2⟩:=info_parts info33
 simp only[Pr.val] at hoc1 hlow ⊢
 clear hoc htc hz1 hB b0
 obtain⟨prad,hprad⟩:∃ r,p.rad=r:=⟨_,rfl⟩
 simp only[hprad] at hoc1 hlow hr5 p1 hW1 HBX ⊢
 clear hprad
 cases hce:(tc1 != 0:Bool)
 ·have hc0:tc1=0:=by simpa using hce
  subst hc0
  obtain⟨hrl,hcount⟩:=HCN.out rfl
  go_enter Tryz.func14,Tryz.ntmps14
  go_upto_region 6 with (go_at_call 30;(with_reducible refine hoc1.mono ?_);rintro r u1 ⟨rfl,bb⟩;have x0:=cellOf (HBX.out _ bb) 0;have x1:=cellOf (HBX.out _ bb) 1;simp at x0 x1)
  go_loopw [7,27] (fun v i wr=>∃ (j:Nat) (l:List Flw),j≤p.roles.length∧i=.int .i64 j∧wr.ownsRow W1.heap.size 33 5 v l.length (l.flatMap Flw.cells)∧Hid (∀ f∈l,f.Is wr.heap.size (only (bt n₀ W1.heap.size v) wr))∧Hid ((∀ k (hk:k<p.roles.length),k<j→lowE p p.roles[k].body=0)∧l.map Flw.tri=(p.roles.take j).flatMap (roleFl p)∧l.length≤8*j)∧Below W1.heap.size W1 wr)
   (fun _ i _=>p.roles.length-(intOf i).toNat)
  case atStart=>exact⟨0,[],by omega,rfl,World.ownsRow_nil _ _ _ _,(fun f hf=>by cases hf),⟨(fun k hk h=>by omega),by simp,by simp⟩,bb⟩
  case round =>
   obtain⟨j,l,hj,rfl,hown,HIS,HL,bw⟩:=hrel
   by_cases hlt:j<p.roles.length
   ·rcases hr5.2.2 with h|⟨rb,roff,rfl,hrn,hrow⟩
    ·rw[h] at hlt;simp at hlt
    have bwF:Below w.heap.size w wr:=HB0.out.trans (bw.mono (by have:=HZ.out;omega))
    have hIr:=hr6 _ (List.getElem_mem hlt)
    have hlr:=hlow _ (List.getElem_mem hlt)
    have hcr:=hcount _ (List.getElem_mem hlt)
    have hrj:=hrow.below (bwF.mono hn) hrn
    obtain⟨R0,hR0⟩:∃ R0,p.roles[j]=R0:=⟨_,rfl⟩
    have HR0:=hid hR0
    rw[hR0] at hIr hlr hcr
    obtain⟨e0,he0⟩:∃ e0,lowE p R0.body=e0:=⟨_,rfl⟩
    have HE0:=hid he0
    rcases hRR:R0 with ⟨name,star,count,⟨bad,bcap,bbody⟩,pos⟩
    have HRR:=hid hRR
    rw[hRR] at hlr
    obtain⟨c0,c1,c2,c3,c4⟩:=row5 hrj j hlt (c0:=.string name) (c1:=.bool star) (c2:=.int .i64 count) (c3:=.slice bad bbody.length bcap) (c4:=.int .i64 pos) (by rw[hR0,hRR];rfl)
    simp only[Bl.slice] at hlr
    clear hrj hR0 hrow
    have hlr1:=hlr (wr.alloc (.cells #[.string name,.bool star,.int .i64 count,.slice bad bbody.length bcap,.int .i64 pos] 39)) (bwF.al le_rfl' _)
    have he1:lowE p (Bl.mk bad bcap bbody)=e0:=by rw[← he0,hRR]
    obtain⟨F0,hF0⟩:∃ F0,lowF p (Bl.mk bad bcap bbody)=F0:=⟨_,rfl⟩
    simp only[LowBack,he1,hF0] at hlr1
    have HF0:=hid hF0
    have HSM:Hid (e0=0→F0.es.length≤20000∧F0.gs.length≤20000):=fun h=>by rw[← hF0];exact low_small (he1.trans h)
    have hbr:(wr.alloc (.cells #[.string name,.bool star,.int .i64 count,.slice bad bbody.length bcap,.int .i64 pos] 39)).heap[wr.heap.size]?=some (.cells #[.string name,.bool star,.int .i64 count,.slice bad bbody.length bcap,.int .i64 pos] 39 (0,0)):=heapNew wr _
    obtain⟨Wr,hWr⟩:∃ Wr,wr.alloc (.cells #[.string name,.bool star,.int .i64 count,.slice bad bbody.length bcap,.int .i64 pos] 39)=Wr:=⟨_,rfl⟩
    have hBr:Below wr.heap.size wr Wr:=by rw[← hWr];exact (Below.refl _ wr).al le_rfl' _
    have hzr:Wr.heap.size=wr.heap.size+1:=by rw[← hWr];simp
    rw[hWr] at hlr1 hbr
    have HZR:=hid hzr
    have HRB:=hid (fun (u:World) (k:Below Wr.heap.size Wr u)=>(k.block wr.heap.size (by omega)).trans hbr)
    have HBr:=hid hBr
    obtain⟨rr0,rr1,rr2,rr3,rr4,rrf⟩:=fiveQ hbr
    clear he1 hF0 he0 hzr hbr hBr hlr
    have q0:=cellOf (HBX.out _ (bw.tr le_rfl' HBr.out)) 0
    have q1:=cellOf (HBX.out _ (bw.tr le_rfl' HBr.out)) 1
    simp at q0 q1
    cases hee:(e0 != 0:Bool)
    ·have hez:e0=0:=by simpa using hee
     subst hez
     have hwl:wr.heap.size<Wr.heap.size:=by have:=HZR.out;omega
     go_upto_region 11 with (go_at_call 10;(with_reducible refine hlr1.mono ?_);rintro r u1 ⟨locs,ead,ecap,es,gad,gcap,gs,rfl,b10,HN,HF,-⟩;obtain⟨rr0,rr1,rr2,rr3,rr4,rrf⟩:=fiveQ (HRB.out _ b10);have hwu:wr.heap.size<u1.heap.size:=Nat.lt_of_lt_of_le hwl b10.size)
     have hbW:(u1.alloc (.cells #[.string ⟨#[]⟩,.bool false,.int .i64 locs,.slice ead es.length ecap,.slice gad gs.length gcap] 33)).heap[u1.heap.size]?=some (.cells #[.string ⟨#[]⟩,.bool false,.int .i64 locs,.slice ead es.length ecap,.slice gad gs.length gcap] 33 (0,0)):=heapNew u1 _
     have hBW:Below u1.heap.size u1 (u1.alloc (.cells #[.string ⟨#[]⟩,.bool false,.int .i64 locs,.slice ead es.length ecap,.slice gad gs.length gcap] 33)):=(Below.refl _ u1).al le_rfl' _
     have hzW:(u1.alloc (.cells #[.string ⟨#[]⟩,.bool false,.int .i64 locs,.slice ead es.length ecap,.slice gad gs.length gcap] 33)).heap.size=u1.heap.size+1:=by simp
     obtain⟨W2,hW2⟩:∃ W2,u1.alloc (.cells #[.string ⟨#[]⟩,.bool false,.int .i64 locs,.slice ead es.length ecap,.slice gad gs.length gcap] 33)=W2:=⟨_,rfl⟩
     rw[hW2] at hbW hBW hzW ⊢
     have HZW:=hid hzW
     have HBW:=hid hBW
     have bR2:=(hBW.block wr.heap.size hwu).trans (HRB.out _ b10)
     have htn:=threadNames_any ⟨name,star,count,.mk bad bcap bbody,pos⟩ W2
     obtain⟨rr0,rr1,rr2,rr3,rr4,rrf⟩:=fiveQ bR2
     have HBWF:Hid (Below w.heap.size w W2):=(bwF.trans ((HBr.out.trans ((b10.trans (hBW.mono b10.size)).mono (by omega))).mono bwF.size))
     have HLN:Hid (Len name):=by have:=hIr.1;rw[HRR.out] at this;exact this
     have HCR:Hid (star=false→1≤count∧count≤8):=by rw[HRR.out] at hcr;exact hcr
     have HFS:=hid (HF trivial)
     have HEG:Hid (es.length≤20000∧gs.length≤20000):=by
      obtain⟨a1,a2⟩:=HSM.out trivial
      rw[← HFS.out] at a1 a2
      simp only[Flw.fs,List.length_map] at a1 a2
      exact⟨a1,a2⟩
     simp only[Ro.val,Ro.cells,Bl.slice,TnBack] at htn
     clear hW2 hzW hBW hlr1 hIr hcr HF
     cases hone:(star || (count==1))
     ·have hstar:star=false:=by cases star <;> simp_all
      have hcnt:¬ count=1:=by intro h;subst h;simp at hone
      have HONE:Hid (¬ isOne R0=true):=by show ¬ _;rw[HRR.out];simp[isOne,hone]
      have htn2:Calls Tryz.prog 31 #[.agg #[.string name,.bool star,.int .i64 count,.slice bad bbody.length bcap,.int .i64 pos]] W2 fun r w'=>∃ k,r=.returned (.tuple #[.int .i64 count,.func (.func 54) #[] #[.pointer (some ⟨k,0,none⟩)]])∧W2.heap.size≤k∧w'.heap[k]?=some (.cells #[.string name,.bool star,.int .i64 count,.slice bad bbody.length bcap,.int .i64 pos] 39 (0,0))∧Below W2.heap.size W2 w':=htn.mono fun r w' h=>by
       obtain⟨k,h1,h2,h3,h4⟩:=h
       rcases h1 with ⟨h1,-⟩|⟨-,h1⟩
       ·rcases h1 with h1|h1
        ·rw[hstar] at h1;cases h1
        ·exact absurd h1 hcnt
       ·exact⟨k,h1,h2,h3,h4⟩
      clear htn
      have HST0:=hid hstar
      have HC0:=hid hcnt
      clear hstar hcnt
      have HNT:Hid (nThreads R0=count):=by show _=_;rw[nThreads,if_neg HONE.out,HRR.out]
      have HTN:Hid (∀ m:Nat,tname R0 m=name++(⟨#[46]⟩:ByteArray)++⟨(Lib.itoa ((m:Int)+1)).toArray⟩):=fun m=>by rw[tname,if_neg HONE.out,HRR.out]
      go_upto_region 12 with (go_at_call 31;(with_reducible refine htn2.mono ?_);rintro r u3 ⟨k,rfl,hkW,hk3,bb3⟩)
      have hkl:=(Array.getElem?_eq_some_iff.1 hk3).1
      have hnm:=fun (m:Nat) (hm:m≤8) (W:World) (hk:W.heap[k]?=some (.cells #[.string name,.bool star,.int .i64 count,.slice bad bbody.length bcap,.int .i64 pos] 39 (0,0))) (hW:Below w.heap.size w W)=>name2_any (m:Int) k W name star count bad bcap bbody pos hk (by omega) (by omega) HLN.out (ht.below hW (by omega)) (by have:=hW.size;omega)
      have HOW:=hid hown
      have HSZ:Hid (wr.heap.size<Wr.heap.size∧Wr.heap.size≤u1.heap.size∧u1.heap.size<W2.heap.size∧W2.heap.size≤u3.heap.size∧W1.heap.size≤wr.heap.size∧n₀≤W1.heap.size):=⟨hwl,b10.size,by have:=HZW.out;omega,bb3.size,bw.size,by have:=HZ.out;omega⟩
      have HKB:=hid (fun (X:World) (h:∀ i,i<u3.heap.size→u7.ownBlock≠some i→X.heap[i]?=u3.heap[i]?)=>(h k hkl (fun e=>by have:=own_lt hown e;have:=HSZ.out;omega)).trans hk3)
      have HFX:=hid (fun (X:World) (h:∀ i,i<u3.heap.size→u7.ownBlock≠some i→X.heap[i]?=u3.heap[i]?)=>(h u1.heap.size (by have:=HSZ.out;omega) (fun e=>by have:=own_lt hown e;have:=HSZ.out;omega)).trans ((bb3.block u1.heap.size (by have:=HSZ.out;omega)).trans hbW))
      have HRX:=hid (fun (X:World) (h:∀ i,i<u3.heap.size→u7.ownBlock≠some i→X.heap[i]?=u3.heap[i]?)=>(h wr.heap.size (by have:=HSZ.out;omega) (fun e=>by have:=own_lt hown e;have:=HSZ.out;omega)).trans ((bb3.block wr.heap.size (by have:=HSZ.out;omega)).trans bR2))
      have HNX:=hid (fun (X:World) (h:∀ i,i<u3.heap.size→u7.ownBlock≠some i→X.heap[i]?=u3.heap[i]?) (hs:u3.heap.size≤X.heap.size)=>HN.kept (w':=X) (by have:=HSZ.out;omega) (fun i hi hq=>(h i (by have:=HSZ.out;omega) (fun e=>by have:=own_lt hown e;have:=HSZ.out;omega)).trans ((bb3.block i (by have:=HSZ.out;omega)).trans (HBW.out.block i hi))))
      have BW0:Below W1.heap.size W1 u3:=bw.trans ((HBr.out.trans ((b10.trans ((HBW.out.trans (bb3.mono HBW.out.size)).mono b10.size)).mono (by omega))).mono bw.size)
      have HBF:=hid (fun (X:World) (h:Below W1.heap.size W1 X)=>(HB0.out.trans (h.mono (by have:=HZ.out;omega)):Below w.heap.size w X))
      have HN1:Hid (0≤count∧count≤8):=by have:=HCR.out HST0.out;exact⟨by omega,this.2⟩
      have HI3:=hid (fun f hf=>(HIS.out f hf).imp (Y:=only (bt n₀ W1.heap.size u7) u3) (n':=u3.heap.size) (only_imp fun i hi hq=>⟨hq,((HBr.out.trans ((b10.trans ((HBW.out.trans (bb3.mono HBW.out.size)).mono b10.size)).mono (by omega))).block i hi)⟩) (by have:=HSZ.out;omega))
      have HO3:=hid (owns_below hown (HBr.out.trans ((b10.trans ((HBW.out.trans (bb3.mono HBW.out.size)).mono b10.size)).mono (by omega))))
      clear hown hbW bR2 hk3 bb3 HN b10 rr0 rr1 rr2 rr3 rr4 rrf c0 c1 c2 c3 c4 q0 q1
      obtain⟨wo,hwo⟩:∃ wo:World,wo=wr:=⟨_,rfl⟩
      subst hwo
      go_wp2
      go_loopw [7,49] (fun v i wx=>∃ (m:Nat) (l2:List Flw),(m:Int)≤count∧i=.int .i64 m∧wx.ownsRow W1.heap.size 33 5 v l2.length (l2.flatMap Flw.cells)∧Hid (∀ f∈l2,f.Is wx.heap.size (only (bt n₀ W1.heap.size v) wx))∧Hid (l2.map Flw.tri=l.map Flw.tri++(List.range m).map (fun i=>(tname R0 i,star,F0))∧l2.length=l.length+m)∧Hid (Fr7 u3 u7 v wx)∧u3.heap.size≤wx.heap.size∧Below W1.heap.size W1 wx)
       (fun _ i _=>8-(intOf i).toNat)
      case atStart=>exact⟨0,l,by have:=HN1.out;omega,rfl,HO3.out,HI3.out,⟨by simp,by omega⟩,⟨fun _ _ _=>rfl,fun _ e=>.inl e⟩,Nat.le_refl _,BW0⟩
      case round =>
       obtain⟨m,l2,hmN,rfl,hown2,HI2,HL2,FRM,hszx,BW⟩:=hrel
       by_cases hlt2:(m:Int)<count
       ·have HM1:Hid ((m:Int)+1≤count):=by show _≤_;omega
        have HM8:Hid (m≤8):=by have:=HN1.out;show m≤8;omega
        have hnm2:=fun (W:World) (hW:Below wr.heap.size wr W)=>hnm m HM8.out W ((hW.block k (by omega)).trans (HKB.out _ FRM.out.1)) (HBF.out _ (BW.trans (hW.mono BW.size)))
        have HNw:=HNX.out wr FRM.out.1 hszx
        have hal:=fun (W:World) (hW:Below wr.heap.size wr W) (sn:ByteArray)=>alike_any ⟨#[]⟩ false locs ead ecap es gad gcap gs sn star W.heap.size W (Nat.le_refl _) (HNw.kept hW.size (fun i hi _=>hW.block i hi)).is.1.1 (HNw.kept hW.size (fun i hi _=>hW.block i hi)).is.2.1 (by have:=HEG.out.1;omega) (by have:=HEG.out.2;omega)
        simp only[AlBack] at hal
        have HF5:=hid (HFX.out _ FRM.out.1)
        have HR5:=hid (HRX.out _ FRM.out.1)
        have HOW2:=hid hown2
        have HOF:Hid (∀ i,W1.heap.size≤i→i<u3.heap.size→wo.heap.size≤i→u7.ownBlock≠some i):=fun i h1 h2 h3 e=>by
         rcases FRM.out.2 i e with e|e
         ·have:=own_lt HOW.out e;omega
         ·omega
        have HS15:Hid (∀ W,Below wr.heap.size wr W→(W.cell? ⟨u1.heap.size,0,none⟩=some (.string ⟨#[]⟩)∧W.cell? ⟨u1.heap.size,1,none⟩=some (.bool false)∧W.cell? ⟨u1.heap.size,2,none⟩=some (.int .i64 locs)∧W.cell? ⟨u1.heap.size,3,none⟩=some (.slice ead es.length ecap)∧W.cell? ⟨u1.heap.size,4,none⟩=some (.slice gad gs.length gcap))∧W.cell? ⟨wo.heap.size,1,none⟩=some (.bool star)):=fun W hW=>by
         obtain⟨a0,a1,a2,a3,a4,-⟩:=fiveQ ((hW.block u1.heap.size (by have:=HSZ.out;omega)).trans HF5.out)
         obtain⟨-,b1,-⟩:=fiveQ ((hW.block wo.heap.size (by have:=HSZ.out;omega)).trans HR5.out)
         exact⟨⟨a0,a1,a2,a3,a4⟩,b1⟩
        have HKG:Hid (∀ (Y W:World),Below wr.heap.size wr Y→Y.grownBy W u7.ownBlock→(W.cell? ⟨u1.heap.size,0,none⟩=some (.string ⟨#[]⟩)∧W.cell? ⟨u1.heap.size,1,none⟩=some (.bool false)∧W.cell? ⟨u1.heap.size,2,none⟩=some (.int .i64 locs)∧W.cell? ⟨u1.heap.size,3,none⟩=some (.slice ead es.length ecap)∧W.cell? ⟨u1.heap.size,4,none⟩=some (.slice gad gs.length gcap))∧W.cell? ⟨wo.heap.size,1,none⟩=some (.bool star)):=fun Y W hY hg=>by
         have hys:=hY.size
         have hz:=HSZ.out
         obtain⟨a0,a1,a2,a3,a4,-⟩:=fiveQ ((hg.block u1.heap.size (by omega) (fun e=>HOF.out _ (by omega) (by omega) (by omega) e.symm)).trans ((hY.block u1.heap.size (by omega)).trans HF5.out))
         obtain⟨-,b1,-⟩:=fiveQ ((hg.block wo.heap.size (by omega) (fun e=>HOF.out _ (by omega) (by omega) (by omega) e.symm)).trans ((hY.block wo.heap.size (by omega)).trans HR5.out))
         exact⟨⟨a0,a1,a2,a3,a4⟩,b1⟩
        have HL64:Hid (l2.length≤1000):=by
         show l2.length≤1000
         have:=HL2.out.2;have:=HL.out.2.2;have:=HM8.out;omega
        have hl64:=HL64.out
        have hWlt:W1.heap.size≤wr.heap.size:=BW.size
        have B:=(Below.refl wr.heap.size wr).drew
        go_upto_region 15 with fail
        go_region_held3 (fun W=>(W.cell? ⟨u1.heap.size,0,none⟩=some (.string ⟨#[]⟩)∧W.cell? ⟨u1.heap.size,1,none⟩=some (.bool false)∧W.cell? ⟨u1.heap.size,2,none⟩=some (.int .i64 locs)∧W.cell? ⟨u1.heap.size,3,none⟩=some (.slice ead es.length ecap)∧W.cell? ⟨u1.heap.size,4,none⟩=some (.slice gad gs.length gcap))∧W.cell? ⟨wo.heap.size,1,none⟩=some (.bool star)) (first|exact KS|exact HS15.out _ B|exact HS15.out _ (B.al le_rfl' _))
         (first
         | (go_at_call 54;(with_reducible refine (hnm2 _ B).mono ?_);rintro r ua ⟨sn,rfl,HSN,bba⟩;have B:=B.tr le_rfl' bba)
         | (go_at_call 32;(with_reducible refine (hal _ B sn).mono ?_);rintro r ub ⟨ead',ecap',gad',gcap',rfl,hoe,hog,bbb⟩;have BA:=B;have B:=B.tr le_rfl' bbb;have hown4:=(owns_below hown2 B).alloc (.cells #[.string sn,.bool star,.int .i64 locs,.slice ead' es.length ecap',.slice gad' gs.length gcap'] 33);have hcn:=World.news_of_block (heapNew ub (.cells #[.string sn,.bool star,.int .i64 locs,.slice ead' es.length ecap',.slice gad' gs.length gcap'] 33));have hszb:=B.size)
         | (refine step_append_lies _ (by rfl) _ _ 45 (by rfl) W1.heap.size 33 i0 _ 5 80 Tryz.underlying45 hi iz0 iz1 iz2 rfl (by decide) u7 l2.length (l2.flatMap Flw.cells) (by rfl) hown4 ⟨ub.heap.size,0,none⟩ 1 1 (#[.string sn,.bool star,.int .i64 locs,.slice ead' es.length ecap',.slice gad' gs.length gcap']:Array Value).toList (by rfl) (by rfl) hcn (by simp[Value.oneCell']) (by decide) (by unfold maxLen;omega) (by omega) (by simp;omega) (ub.heap.size+1) (by simp) ?_;intro g gcp w1 hown' hgrow hat hltg;have KS:=HKG.out _ _ (B.al le_rfl' (.cells #[.string sn,.bool star,.int .i64 locs,.slice ead' es.length ecap',.slice gad' gs.length gcap'] 33)) hgrow))
        all_goals
         have BC:=B.al le_rfl' (.cells #[.string sn,.bool star,.int .i64 locs,.slice ead' es.length ecap',.slice gad' gs.length gcap'] 33)
         have hgs:=hgrow.size
         have hac:=bba.size
         have hbc:=bbb.size
         have hz4:(ub.alloc (.cells #[.string sn,.bool star,.int .i64 locs,.slice ead' es.length ecap',.slice gad' gs.length gcap'] 33)).heap.size=ub.heap.size+1:=by simp
         have hat2:u7.ownBlock=some g∨ub.heap.size≤g:=hat.imp id (fun e=>by omega)
         have hsz5:=HSZ.out
         have hua:wr.heap.size≤ua.heap.size:=by simpa using hac
         have hblk:∀ i,i<wr.heap.size→u7.ownBlock≠some i→w1.heap[i]?=wr.heap[i]?:=fun i hi hne=>(hgrow.block i (by omega) (fun e=>hne e.symm)).trans (BC.block i hi)
         have HN3:=HNX.out u3 (fun _ _ _=>rfl) (Nat.le_refl _)
         have hex:∀ {e:Ex},e.Is u3.heap.size (only (fun i=>decide (i<n₀∨Wr.heap.size≤i)) u3)→e.Is w1.heap.size (only (bt n₀ W1.heap.size (.slice (some ⟨g,0,none⟩) (l2.length+1) gcp)) w1):=fun h=>h.imp (only_imp fun i hi hq=>by
          have hq:i<n₀∨Wr.heap.size≤i:=of_decide_eq_true hq
          have hne:u7.ownBlock≠some i:=fun e=>by
           rcases hq with hq|hq
           ·have:=own_lt HOW2.out e;omega
           ·exact HOF.out i (by omega) hi (by omega) e
          refine⟨bt_iff.2 ?_,(hblk i (by omega) hne).trans (FRM.out.1 i hi (fun e=>by have:=own_lt HOW.out e;omega))⟩
          rcases hq with hq|hq
          ·exact .inl hq
          ·refine .inr ⟨by omega,fun e=>?_⟩
           have e:g=i:=by simpa[Value.ownBlock] using e
           subst e
           rcases hat2 with e|e
           ·exact hne e
           ·omega) (by omega)
         have hfi:=HN3 (fun i=>decide (i<n₀∨Wr.heap.size≤i)) (fun i hi=>by simp[hi]) (fun i hi _=>by simp[hi])
         have hrow:∀ (a:Addr) v,a.block<ub.heap.size→(only (fun i=>decide (ua.heap.size≤i)) ub).cell? a=some v→(only (bt n₀ W1.heap.size (.slice (some ⟨g,0,none⟩) (l2.length+1) gcp)) w1).cell? a=some v:=only_imp fun i hi hq=>by
          have hq:ua.heap.size≤i:=of_decide_eq_true hq
          refine⟨bt_iff.2 (.inr ⟨by omega,fun e=>?_⟩),(hgrow.block i (by omega) (fun e=>by have:=own_lt HOW2.out e.symm;omega)).trans (Below.heap_alloc _ _ _ hi)⟩
          have e:g=i:=by simpa[Value.ownBlock] using e
          subst e
          rcases hat2 with e|e
          ·have:=own_lt HOW2.out e;omega
          ·omega
         have HG1:Hid ((⟨sn,star,locs,ead',ecap',es,gad',gcap',gs⟩:Flw).Is w1.heap.size (only (bt n₀ W1.heap.size (.slice (some ⟨g,0,none⟩) (l2.length+1) gcp)) w1)):=by
          obtain⟨ad1,cp1,e1,f1⟩:=SlAt.own Ed.len hoe
          obtain⟨ad2,cp2,e2,f2⟩:=SlAt.own Gu.len hog
          injection e1 with e11 e12 e13
          injection e2 with e21 e22 e23
          subst e11 e13 e21 e23
          exact⟨⟨(f1 (fun i=>decide (ua.heap.size≤i)) (fun i hi _=>by simpa using hi)).imp Ed.len hrow (by omega),fun x hx=>hex (hfi.1.2 x hx)⟩,(f2 (fun i=>decide (ua.heap.size≤i)) (fun i hi _=>by simpa using hi)).imp Gu.len hrow (by omega),fun x hx=>hex (hfi.2.2 x hx)⟩
         have HALL:Hid (∀ f∈l2++[(⟨sn,star,locs,ead',ecap',es,gad',gcap',gs⟩:Flw)],f.Is w1.heap.size (only (bt n₀ W1.heap.size (.slice (some ⟨g,0,none⟩) (l2.length+1) gcp)) w1)):=by
          intro f hf
          rcases List.mem_append.1 hf with hf|hf
          ·refine (HI2.out f hf).imp (only_imp fun i hi hq=>?_) (by omega)
           have hne:u7.ownBlock≠some i:=fun e=>by
            rcases bt_iff.1 hq with hq|hq
            ·have:=own_lt HOW2.out e;omega
            ·exact hq.2 e
           refine⟨bt_iff.2 ?_,hblk i hi hne⟩
           rcases bt_iff.1 hq with hq|hq
           ·exact .inl hq
           ·refine .inr ⟨hq.1,fun e=>?_⟩
            have e:g=i:=by simpa[Value.ownBlock] using e
            subst e
            rcases hat2 with e|e
            ·exact hne e
            ·omega
          ·rw[List.mem_singleton.1 hf];exact HG1.out
         have HTRI:Hid ((l2++[(⟨sn,star,locs,ead',ecap',es,gad',gcap',gs⟩:Flw)]).map Flw.tri=l.map Flw.tri++(List.range (m+1)).map (fun i=>(tname R0 i,star,F0))∧(l2++[(⟨sn,star,locs,ead',ecap',es,gad',gcap',gs⟩:Flw)]).length=l.length+(m+1)):=by
          refine⟨?_,by rw[List.length_append,HL2.out.2];rfl⟩
          have hg:Flw.tri (⟨sn,star,locs,ead',ecap',es,gad',gcap',gs⟩:Flw)=(tname R0 m,star,F0):=by
           show (sn,star,_)=_
           rw[HTN.out m,HSN.out,← HFS.out];rfl
          rw[List.map_append,List.range_succ,List.map_append,HL2.out.1,List.append_assoc,List.map_cons,List.map_nil,hg,List.map_cons,List.map_nil]
         have HOWN:Hid (w1.ownsRow W1.heap.size 33 5 (.slice (some ⟨g,0,none⟩) (l2.length+1) gcp) (l2++[(⟨sn,star,locs,ead',ecap',es,gad',gcap',gs⟩:Flw)]).length ((l2++[(⟨sn,star,locs,ead',ecap',es,gad',gcap',gs⟩:Flw)]).flatMap Flw.cells)):=by
          have h1:(l2++[(⟨sn,star,locs,ead',ecap',es,gad',gcap',gs⟩:Flw)]).flatMap Flw.cells=l2.flatMap Flw.cells++(#[.string sn,.bool star,.int .i64 locs,.slice ead' es.length ecap',.slice gad' gs.length gcap']:Array Value).toList:=by rw[List.flatMap_append];rfl
          rw[h1,List.length_append]
          exact hown'
         have HFR2:=hid (FRM.out.next (v':=.slice (some ⟨g,0,none⟩) (l2.length+1) gcp) (w1:=w1) (fun i hi hne=>hblk i (by omega) hne) (fun i e=>by
          have e:g=i:=by simpa[Value.ownBlock] using e
          subst e
          rcases hat2 with e|e
          ·exact .inl e
          ·exact .inr (by omega)))
         have HBW1:Hid (Below W1.heap.size W1 w1):=Below.grown (BW.trans (BC.mono BW.size)) hgrow (by omega) (fun i e=>(own_lt HOW2.out e).1)
         have HS1:Hid (u3.heap.size≤w1.heap.size):=by show _≤_;omega
         clear hat hat2 hgrow hown' hown4 hcn hoe hog bba bbb BA B BC KS hblk hex hfi hrow HN3 hgs hac hbc hz4 hsz5 hua hltg hszb
         go_wp2
         go_roundw
        case rel=>exact⟨m+1,_,by have:=HM1.out;omega,by first|go_num|exact congrArg (Value.int .i64) ((Go.IntWalk.wrap64_in ((m:Int)+1) (by have:=HM8.out;omega)).trans (by omega)),HOWN.out,HALL.out,HTRI.out,HFR2.out,HS1.out,HBW1.out⟩
        case measure =>
        have hn1:=HN1.out;have hm1:=HM1.out
        have hwm:=Go.IntWalk.wrap64_in ((m:Int)+1) (by have:=HM8.out;omega)
        have h8:(m:Int)+1≤8:=Int.le_trans hm1 hn1.2
        exact measI hwm h8
       ·have HME:Hid ((m:Int)=count):=by show _=_;omega
        have HTR2:Hid (l2.map Flw.tri=(p.roles.take (j+1)).flatMap (roleFl p)):=by
         show _=_
         have h1:roleFl p R0=(List.range m).map (fun i=>(tname R0 i,star,F0)):=by
          rw[roleFl,HNT.out,show (count:Int).toNat=m by have:=HME.out;omega,HRR.out]
          simp only[HF0.out]
         rw[take_flat p j hlt,HR0.out,h1,HL2.out.1,HL.out.2.1]
        have HLO:Hid (∀ k (hk:k<p.roles.length),k<j+1→lowE p p.roles[k].body=0):=fun k hk h=>by
         by_cases hkj:k=j
         ·subst hkj;rw[HR0.out,HE0.out]
         ·exact HL.out.1 k hk (by omega)
        have HLE:Hid (l2.length≤8*(j+1)):=by show _≤_;have:=HL2.out.2;have:=HL.out.2.2;have:=HME.out;have:=HN1.out;omega
        clear hszx
        go_wp2
        go_roundw
        case rel=>exact⟨j+1,l2,hlt,by go_num,hown2,HI2,⟨HLO.out,HTR2.out,HLE.out⟩,BW⟩
        case measure=>simp[intOf];omega
     ·have HONE:Hid (isOne R0=true):=by show _=_;rw[HRR.out];simp[isOne,hone]
      have htn2:Calls Tryz.prog 31 #[.agg #[.string name,.bool star,.int .i64 count,.slice bad bbody.length bcap,.int .i64 pos]] W2 fun r w'=>∃ k,r=.returned (.tuple #[.int .i64 1,.func (.func 53) #[] #[.pointer (some ⟨k,0,none⟩)]])∧W2.heap.size≤k∧w'.heap[k]?=some (.cells #[.string name,.bool star,.int .i64 count,.slice bad bbody.length bcap,.int .i64 pos] 39 (0,0))∧Below W2.heap.size W2 w':=htn.mono fun r w' h=>by
       obtain⟨k,h1,h2,h3,h4⟩:=h
       rcases h1 with ⟨-,h1⟩|⟨h1,-⟩
       ·exact⟨k,h1,h2,h3,h4⟩
       ·exact absurd (by simpa using hone) h1
      clear htn
      have HNT:Hid (nThreads R0=1):=by show _=_;rw[nThreads,if_pos HONE.out]
      have HTN:Hid (∀ m:Nat,tname R0 m=name):=fun m=>by rw[tname,if_pos HONE.out,HRR.out]
      go_upto_region 12 with (go_at_call 31;(with_reducible refine htn2.mono ?_);rintro r u3 ⟨k,rfl,hkW,hk3,bb3⟩)
      have hkl:=(Array.getElem?_eq_some_iff.1 hk3).1
      have hnm:=fun (m:Nat) (W:World) (hk:W.heap[k]?=some (.cells #[.string name,.bool star,.int .i64 count,.slice bad bbody.length bcap,.int .i64 pos] 39 (0,0)))=>name1_any (m:Int) k W name star count bad bcap bbody pos hk
      have HOW:=hid hown
      have HSZ:Hid (wr.heap.size<Wr.heap.size∧Wr.heap.size≤u1.heap.size∧u1.heap.size<W2.heap.size∧W2.heap.size≤u3.heap.size∧W1.heap.size≤wr.heap.size∧n₀≤W1.heap.size):=⟨hwl,b10.size,by have:=HZW.out;omega,bb3.size,bw.size,by have:=HZ.out;omega⟩
      have HKB:=hid (fun (X:World) (h:∀ i,i<u3.heap.size→u7.ownBlock≠some i→X.heap[i]?=u3.heap[i]?)=>(h k hkl (fun e=>by have:=own_lt hown e;have:=HSZ.out;omega)).trans hk3)
      have HFX:=hid (fun (X:World) (h:∀ i,i<u3.heap.size→u7.ownBlock≠some i→X.heap[i]?=u3.heap[i]?)=>(h u1.heap.size (by have:=HSZ.out;omega) (fun e=>by have:=own_lt hown e;have:=HSZ.out;omega)).trans ((bb3.block u1.heap.size (by have:=HSZ.out;omega)).trans hbW))
      have HRX:=hid (fun (X:World) (h:∀ i,i<u3.heap.size→u7.ownBlock≠some i→X.heap[i]?=u3.heap[i]?)=>(h wr.heap.size (by have:=HSZ.out;omega) (fun e=>by have:=own_lt hown e;have:=HSZ.out;omega)).trans ((bb3.block wr.heap.size (by have:=HSZ.out;omega)).trans bR2))
      have HNX:=hid (fun (X:World) (h:∀ i,i<u3.heap.size→u7.ownBlock≠some i→X.heap[i]?=u3.heap[i]?) (hs:u3.heap.size≤X.heap.size)=>HN.kept (w':=X) (by have:=HSZ.out;omega) (fun i hi hq=>(h i (by have:=HSZ.out;omega) (fun e=>by have:=own_lt hown e;have:=HSZ.out;omega)).trans ((bb3.block i (by have:=HSZ.out;omega)).trans (HBW.out.block i hi))))
      have BW0:Below W1.heap.size W1 u3:=bw.trans ((HBr.out.trans ((b10.trans ((HBW.out.trans (bb3.mono HBW.out.size)).mono b10.size)).mono (by omega))).mono bw.size)
      have HBF:=hid (fun (X:World) (h:Below W1.heap.size W1 X)=>(HB0.out.trans (h.mono (by have:=HZ.out;omega)):Below w.heap.size w X))
      have HN1:Hid (0≤1∧1≤8):=⟨by decide,by decide⟩
      have HI3:=hid (fun f hf=>(HIS.out f hf).imp (Y:=only (bt n₀ W1.heap.size u7) u3) (n':=u3.heap.size) (only_imp fun i hi hq=>⟨hq,((HBr.out.trans ((b10.trans ((HBW.out.trans (bb3.mono HBW.out.size)).mono b10.size)).mono (by omega))).block i hi)⟩) (by have:=HSZ.out;omega))
      have HO3:=hid (owns_below hown (HBr.out.trans ((b10.trans ((HBW.out.trans (bb3.mono HBW.out.size)).mono b10.size)).mono (by omega))))
      clear hown hbW bR2 hk3 bb3 HN b10 rr0 rr1 rr2 rr3 rr4 rrf c0 c1 c2 c3 c4 q0 q1
      obtain⟨wo,hwo⟩:∃ wo:World,wo=wr:=⟨_,rfl⟩
      subst hwo
      go_wp2
      go_loopw [7,49] (fun v i wx=>∃ (m:Nat) (l2:List Flw),(m:Int)≤1∧i=.int .i64 m∧wx.ownsRow W1.heap.size 33 5 v l2.length (l2.flatMap Flw.cells)∧Hid (∀ f∈l2,f.Is wx.heap.size (only (bt n₀ W1.heap.size v) wx))∧Hid (l2.map Flw.tri=l.map Flw.tri++(List.range m).map (fun i=>(tname R0 i,star,F0))∧l2.length=l.length+m)∧Hid (Fr7 u3 u7 v wx)∧u3.heap.size≤wx.heap.size∧Below W1.heap.size W1 wx)
       (fun _ i _=>8-(intOf i).toNat)
      case atStart=>exact⟨0,l,by have:=HN1.out;omega,rfl,HO3.out,HI3.out,⟨by simp,by omega⟩,⟨fun _ _ _=>rfl,fun _ e=>.inl e⟩,Nat.le_refl _,BW0⟩
      case round =>
       obtain⟨m,l2,hmN,rfl,hown2,HI2,HL2,FRM,hszx,BW⟩:=hrel
       by_cases hlt2:(m:Int)<1
       ·have HM1:Hid ((m:Int)+1≤1):=by show _≤_;omega
        have HM8:Hid (m≤8):=by have:=HN1.out;show m≤8;omega
        have hnm2:=fun (W:World) (hW:Below wr.heap.size wr W)=>hnm m W ((hW.block k (by omega)).trans (HKB.out _ FRM.out.1))
        have HNw:=HNX.out wr FRM.out.1 hszx
        have hal:=fun (W:World) (hW:Below wr.heap.size wr W) (sn:ByteArray)=>alike_any ⟨#[]⟩ false locs ead ecap es gad gcap gs sn star W.heap.size W (Nat.le_refl _) (HNw.kept hW.size (fun i hi _=>hW.block i hi)).is.1.1 (HNw.kept hW.size (fun i hi _=>hW.block i hi)).is.2.1 (by have:=HEG.out.1;omega) (by have:=HEG.out.2;omega)
        simp only[AlBack] at hal
        have HF5:=hid (HFX.out _ FRM.out.1)
        have HR5:=hid (HRX.out _ FRM.out.1)
        have HOW2:=hid hown2
        have HOF:Hid (∀ i,W1.heap.size≤i→i<u3.heap.size→wo.heap.size≤i→u7.ownBlock≠some i):=fun i h1 h2 h3 e=>by
         rcases FRM.out.2 i e with e|e
         ·have:=own_lt HOW.out e;omega
         ·omega
        have HS15:Hid (∀ W,Below wr.heap.size wr W→(W.cell? ⟨u1.heap.size,0,none⟩=some (.string ⟨#[]⟩)∧W.cell? ⟨u1.heap.size,1,none⟩=some (.bool false)∧W.cell? ⟨u1.heap.size,2,none⟩=some (.int .i64 locs)∧W.cell? ⟨u1.heap.size,3,none⟩=some (.slice ead es.length ecap)∧W.cell? ⟨u1.heap.size,4,none⟩=some (.slice gad gs.length gcap))∧W.cell? ⟨wo.heap.size,1,none⟩=some (.bool star)):=fun W hW=>by
         obtain⟨a0,a1,a2,a3,a4,-⟩:=fiveQ ((hW.block u1.heap.size (by have:=HSZ.out;omega)).trans HF5.out)
         obtain⟨-,b1,-⟩:=fiveQ ((hW.block wo.heap.size (by have:=HSZ.out;omega)).trans HR5.out)
         exact⟨⟨a0,a1,a2,a3,a4⟩,b1⟩
        have HKG:Hid (∀ (Y W:World),Below wr.heap.size wr Y→Y.grownBy W u7.ownBlock→(W.cell? ⟨u1.heap.size,0,none⟩=some (.string ⟨#[]⟩)∧W.cell? ⟨u1.heap.size,1,none⟩=some (.bool false)∧W.cell? ⟨u1.heap.size,2,none⟩=some (.int .i64 locs)∧W.cell? ⟨u1.heap.size,3,none⟩=some (.slice ead es.length ecap)∧W.cell? ⟨u1.heap.size,4,none⟩=some (.slice gad gs.length gcap))∧W.cell? ⟨wo.heap.size,1,none⟩=some (.bool star)):=fun Y W hY hg=>by
         have hys:=hY.size
         have hz:=HSZ.out
         obtain⟨a0,a1,a2,a3,a4,-⟩:=fiveQ ((hg.block u1.heap.size (by omega) (fun e=>HOF.out _ (by omega) (by omega) (by omega) e.symm)).trans ((hY.block u1.heap.size (by omega)).trans HF5.out))
         obtain⟨-,b1,-⟩:=fiveQ ((hg.block wo.heap.size (by omega) (fun e=>HOF.out _ (by omega) (by omega) (by omega) e.symm)).trans ((hY.block wo.heap.size (by omega)).trans HR5.out))
         exact⟨⟨a0,a1,a2,a3,a4⟩,b1⟩
        have HL64:Hid (l2.length≤1000):=by
         show l2.length≤1000
         have:=HL2.out.2;have:=HL.out.2.2;have:=HM8.out;omega
        have hl64:=HL64.out
        have hWlt:W1.heap.size≤wr.heap.size:=BW.size
        have B:=(Below.refl wr.heap.size wr).drew
        go_upto_region 15 with fail
        go_region_held3 (fun W=>(W.cell? ⟨u1.heap.size,0,none⟩=some (.string ⟨#[]⟩)∧W.cell? ⟨u1.heap.size,1,none⟩=some (.bool false)∧W.cell? ⟨u1.heap.size,2,none⟩=some (.int .i64 locs)∧W.cell? ⟨u1.heap.size,3,none⟩=some (.slice ead es.length ecap)∧W.cell? ⟨u1.heap.size,4,none⟩=some (.slice gad gs.length gcap))∧W.cell? ⟨wo.heap.size,1,none⟩=some (.bool star)) (first|exact KS|exact HS15.out _ B|exact HS15.out _ (B.al le_rfl' _))
         (first
         | (go_at_call 53;(with_reducible refine (hnm2 _ B).mono ?_);rintro r ua ⟨sn,rfl,HSN,bba⟩;have B:=B.tr le_rfl' bba)
         | (go_at_call 32;(with_reducible refine (hal _ B sn).mono ?_);rintro r ub ⟨ead',ecap',gad',gcap',rfl,hoe,hog,bbb⟩;have BA:=B;have B:=B.tr le_rfl' bbb;have hown4:=(owns_below hown2 B).alloc (.cells #[.string sn,.bool star,.int .i64 locs,.slice ead' es.length ecap',.slice gad' gs.length gcap'] 33);have hcn:=World.news_of_block (heapNew ub (.cells #[.string sn,.bool star,.int .i64 locs,.slice ead' es.length ecap',.slice gad' gs.length gcap'] 33));have hszb:=B.size)
         | (refine step_append_lies _ (by rfl) _ _ 45 (by rfl) W1.heap.size 33 i0 _ 5 80 Tryz.underlying45 hi iz0 iz1 iz2 rfl (by decide) u7 l2.length (l2.flatMap Flw.cells) (by rfl) hown4 ⟨ub.heap.size,0,none⟩ 1 1 (#[.string sn,.bool star,.int .i64 locs,.slice ead' es.length ecap',.slice gad' gs.length gcap']:Array Value).toList (by rfl) (by rfl) hcn (by simp[Value.oneCell']) (by decide) (by unfold maxLen;omega) (by omega) (by simp;omega) (ub.heap.size+1) (by simp) ?_;intro g gcp w1 hown' hgrow hat hltg;have KS:=HKG.out _ _ (B.al le_rfl' (.cells #[.string sn,.bool star,.int .i64 locs,.slice ead' es.length ecap',.slice gad' gs.length gcap'] 33)) hgrow))
        all_goals
         have BC:=B.al le_rfl' (.cells #[.string sn,.bool star,.int .i64 locs,.slice ead' es.length ecap',.slice gad' gs.length gcap'] 33)
         have hgs:=hgrow.size
         have hac:=bba.size
         have hbc:=bbb.size
         have hz4:(ub.alloc (.cells #[.string sn,.bool star,.int .i64 locs,.slice ead' es.length ecap',.slice gad' gs.length gcap'] 33)).heap.size=ub.heap.size+1:=by simp
         have hat2:u7.ownBlock=some g∨ub.heap.size≤g:=hat.imp id (fun e=>by omega)
         have hsz5:=HSZ.out
         have hua:wr.heap.size≤ua.heap.size:=by simpa using hac
         have hblk:∀ i,i<wr.heap.size→u7.ownBlock≠some i→w1.heap[i]?=wr.heap[i]?:=fun i hi hne=>(hgrow.block i (by omega) (fun e=>hne e.symm)).trans (BC.block i hi)
         have HN3:=HNX.out u3 (fun _ _ _=>rfl) (Nat.le_refl _)
         have hex:∀ {e:Ex},e.Is u3.heap.size (only (fun i=>decide (i<n₀∨Wr.heap.size≤i)) u3)→e.Is w1.heap.size (only (bt n₀ W1.heap.size (.slice (some ⟨g,0,none⟩) (l2.length+1) gcp)) w1):=fun h=>h.imp (only_imp fun i hi hq=>by
          have hq:i<n₀∨Wr.heap.size≤i:=of_decide_eq_true hq
          have hne:u7.ownBlock≠some i:=fun e=>by
           rcases hq with hq|hq
           ·have:=own_lt HOW2.out e;omega
           ·exact HOF.out i (by omega) hi (by omega) e
          refine⟨bt_iff.2 ?_,(hblk i (by omega) hne).trans (FRM.out.1 i hi (fun e=>by have:=own_lt HOW.out e;omega))⟩
          rcases hq with hq|hq
          ·exact .inl hq
          ·refine .inr ⟨by omega,fun e=>?_⟩
           have e:g=i:=by simpa[Value.ownBlock] using e
           subst e
           rcases hat2 with e|e
           ·exact hne e
           ·omega) (by omega)
         have hfi:=HN3 (fun i=>decide (i<n₀∨Wr.heap.size≤i)) (fun i hi=>by simp[hi]) (fun i hi _=>by simp[hi])
         have hrow:∀ (a:Addr) v,a.block<ub.heap.size→(only (fun i=>decide (ua.heap.size≤i)) ub).cell? a=some v→(only (bt n₀ W1.heap.size (.slice (some ⟨g,0,none⟩) (l2.length+1) gcp)) w1).cell? a=some v:=only_imp fun i hi hq=>by
          have hq:ua.heap.size≤i:=of_decide_eq_true hq
          refine⟨bt_iff.2 (.inr ⟨by omega,fun e=>?_⟩),(hgrow.block i (by omega) (fun e=>by have:=own_lt HOW2.out e.symm;omega)).trans (Below.heap_alloc _ _ _ hi)⟩
          have e:g=i:=by simpa[Value.ownBlock] using e
          subst e
          rcases hat2 with e|e
          ·have:=own_lt HOW2.out e;omega
          ·omega
         have HG1:Hid ((⟨sn,star,locs,ead',ecap',es,gad',gcap',gs⟩:Flw).Is w1.heap.size (only (bt n₀ W1.heap.size (.slice (some ⟨g,0,none⟩) (l2.length+1) gcp)) w1)):=by
          obtain⟨ad1,cp1,e1,f1⟩:=SlAt.own Ed.len hoe
          obtain⟨ad2,cp2,e2,f2⟩:=SlAt.own Gu.len hog
          injection e1 with e11 e12 e13
          injection e2 with e21 e22 e23
          subst e11 e13 e21 e23
          exact⟨⟨(f1 (fun i=>decide (ua.heap.size≤i)) (fun i hi _=>by simpa using hi)).imp Ed.len hrow (by omega),fun x hx=>hex (hfi.1.2 x hx)⟩,(f2 (fun i=>decide (ua.heap.size≤i)) (fun i hi _=>by simpa using hi)).imp Gu.len hrow (by omega),fun x hx=>hex (hfi.2.2 x hx)⟩
         have HALL:Hid (∀ f∈l2++[(⟨sn,star,locs,ead',ecap',es,gad',gcap',gs⟩:Flw)],f.Is w1.heap.size (only (bt n₀ W1.heap.size (.slice (some ⟨g,0,none⟩) (l2.length+1) gcp)) w1)):=by
          intro f hf
          rcases List.mem_append.1 hf with hf|hf
          ·refine (HI2.out f hf).imp (only_imp fun i hi hq=>?_) (by omega)
           have hne:u7.ownBlock≠some i:=fun e=>by
            rcases bt_iff.1 hq with hq|hq
            ·have:=own_lt HOW2.out e;omega
            ·exact hq.2 e
           refine⟨bt_iff.2 ?_,hblk i hi hne⟩
           rcases bt_iff.1 hq with hq|hq
           ·exact .inl hq
           ·refine .inr ⟨hq.1,fun e=>?_⟩
            have e:g=i:=by simpa[Value.ownBlock] using e
            subst e
            rcases hat2 with e|e
            ·exact hne e
            ·omega
          ·rw[List.mem_singleton.1 hf];exact HG1.out
         have HTRI:Hid ((l2++[(⟨sn,star,locs,ead',ecap',es,gad',gcap',gs⟩:Flw)]).map Flw.tri=l.map Flw.tri++(List.range (m+1)).map (fun i=>(tname R0 i,star,F0))∧(l2++[(⟨sn,star,locs,ead',ecap',es,gad',gcap',gs⟩:Flw)]).length=l.length+(m+1)):=by
          refine⟨?_,by rw[List.length_append,HL2.out.2];rfl⟩
          have hg:Flw.tri (⟨sn,star,locs,ead',ecap',es,gad',gcap',gs⟩:Flw)=(tname R0 m,star,F0):=by
           show (sn,star,_)=_
           rw[HTN.out m,HSN.out,← HFS.out];rfl
          rw[List.map_append,List.range_succ,List.map_append,HL2.out.1,List.append_assoc,List.map_cons,List.map_nil,hg,List.map_cons,List.map_nil]
         have HOWN:Hid (w1.ownsRow W1.heap.size 33 5 (.slice (some ⟨g,0,none⟩) (l2.length+1) gcp) (l2++[(⟨sn,star,locs,ead',ecap',es,gad',gcap',gs⟩:Flw)]).length ((l2++[(⟨sn,star,locs,ead',ecap',es,gad',gcap',gs⟩:Flw)]).flatMap Flw.cells)):=by
          have h1:(l2++[(⟨sn,star,locs,ead',ecap',es,gad',gcap',gs⟩:Flw)]).flatMap Flw.cells=l2.flatMap Flw.cells++(#[.string sn,.bool star,.int .i64 locs,.slice ead' es.length ecap',.slice gad' gs.length gcap']:Array Value).toList:=by rw[List.flatMap_append];rfl
          rw[h1,List.length_append]
          exact hown'
         have HFR2:=hid (FRM.out.next (v':=.slice (some ⟨g,0,none⟩) (l2.length+1) gcp) (w1:=w1) (fun i hi hne=>hblk i (by omega) hne) (fun i e=>by
          have e:g=i:=by simpa[Value.ownBlock] using e
          subst e
          rcases hat2 with e|e
          ·exact .inl e
          ·exact .inr (by omega)))
         have HBW1:Hid (Below W1.heap.size W1 w1):=Below.grown (BW.trans (BC.mono BW.size)) hgrow (by omega) (fun i e=>(own_lt HOW2.out e).1)
         have HS1:Hid (u3.heap.size≤w1.heap.size):=by show _≤_;omega
         clear hat hat2 hgrow hown' hown4 hcn hoe hog bba bbb BA B BC KS hblk hex hfi hrow HN3 hgs hac hbc hz4 hsz5 hua hltg hszb
         go_wp2
         go_roundw
        case rel=>exact⟨m+1,_,by have:=HM1.out;omega,by first|go_num|exact congrArg (Value.int .i64) ((Go.IntWalk.wrap64_in ((m:Int)+1) (by have:=HM8.out;omega)).trans (by omega)),HOWN.out,HALL.out,HTRI.out,HFR2.out,HS1.out,HBW1.out⟩
        case measure =>
        have hn1:=HN1.out;have hm1:=HM1.out
        have hwm:=Go.IntWalk.wrap64_in ((m:Int)+1) (by have:=HM8.out;omega)
        simp[intOf];omega
       ·have HME:Hid ((m:Int)=1):=by show _=_;omega
        have HTR2:Hid (l2.map Flw.tri=(p.roles.take (j+1)).flatMap (roleFl p)):=by
         show _=_
         have h1:roleFl p R0=(List.range m).map (fun i=>(tname R0 i,star,F0)):=by
          rw[roleFl,HNT.out,show (1:Int).toNat=m by have:=HME.out;omega,HRR.out]
          simp only[HF0.out]
         rw[take_flat p j hlt,HR0.out,h1,HL2.out.1,HL.out.2.1]
        have HLO:Hid (∀ k (hk:k<p.roles.length),k<j+1→lowE p p.roles[k].body=0):=fun k hk h=>by
         by_cases hkj:k=j
         ·subst hkj;rw[HR0.out,HE0.out]
         ·exact HL.out.1 k hk (by omega)
        have HLE:Hid (l2.length≤8*(j+1)):=by show _≤_;have:=HL2.out.2;have:=HL.out.2.2;have:=HME.out;have:=HN1.out;omega
        clear hszx
        go_wp2
        go_roundw
        case rel=>exact⟨j+1,l2,hlt,by go_num,hown2,HI2,⟨HLO.out,HTR2.out,HLE.out⟩,BW⟩
        case measure=>simp[intOf];omega
    ·have hen:¬ e0=0:=by simpa using hee
     have hlrE:Calls Tryz.prog 10 #[.agg #[.slice p.mad p.mons.length p.mcap,.slice (some ⟨rb,roff,none⟩) p.roles.length p.rcap],.slice bad bbody.length bcap] Wr fun r w'=>r=.returned (.tuple #[.agg #[.string ⟨#[]⟩,.bool false,.int .i64 0,.slice none 0 0,.slice none 0 0],.int .i64 e0])∧Below Wr.heap.size Wr w':=hlr1.mono fun r w' h=>by
      obtain⟨locs,ead,ecap,es,gad,gcap,gs,h1,h2,-,-,h5⟩:=h
      have h6:=h5 hen
      unfold zeroF at h6
      injection h6 with i1 i2 i3 i4 i5 i6 i7 i8 i9
      subst i3 i4 i5 i6 i7 i8 i9
      exact⟨h1,h2⟩
     clear hlr1
     have hwl:wr.heap.size<Wr.heap.size:=by have:=HZR.out;omega
     go_upto_region 10 with (go_at_call 10;(with_reducible refine hlrE.mono ?_);rintro r u1 ⟨rfl,b10⟩;obtain⟨-,-,-,-,rr4,-⟩:=fiveQ (HRB.out _ b10);have hwu:wr.heap.size<u1.heap.size:=Nat.lt_of_lt_of_le hwl b10.size)
     go_quiet (fail)
     go_wp2
     refine bodyPost_ret (v:=.tuple #[.slice none 0 0,.int .i64 e0,.int .i64 pos]) (by simp[results,Tryz.results14,go_sem]) rfl ⟨.inr (.inl ⟨trivial,j,hlt,HL.out.1,?_,?_⟩),?_⟩
     ·rw[HR0.out,HE0.out];exact hen
     ·rw[HR0.out,HE0.out,HRR.out]
     ·have HQB:=fun o=>((bwF.trans ((HBr.out.trans (b10.mono (by omega))).mono bwF.size)).alloc (by have:=bwF.size;omega) o)
      first|exact HQB _|exact below_drewN (HQB _) _
   ·have hje:j=p.roles.length:=by omega
    obtain⟨ad,cp,hv,hsl⟩:=SlAt.own Flw.len hown
    subst hv
    have HSL:=hid ((hsl (fun _=>true) (fun _ _ _=>rfl)).imp (Y:=wr) Flw.len only_open (Nat.le_refl _))
    have HAL:=hid (fun f hf=>(HIS.out f hf).imp (Y:=wr) (n':=wr.heap.size) only_open (Nat.le_refl _))
    have HLZ:Hid (∀ x∈p.roles,lowE p x.body=0):=fun x hx=>by
     obtain⟨k,hk,rfl⟩:=List.getElem_of_mem hx
     exact (HL.out.1 k hk (by omega):lowE p p.roles[k].body=0)
    have HTR:=HL.out.2.1
    rw[hje,List.take_length] at HTR
    have HTR:=hid HTR
    have HBW:=hid (HB0.out.trans (bw.mono (by have:=HZ.out;omega)))
    clear hown hsl HL HIS
    go_wp2
    refine bodyPost_ret (v:=.tuple #[.slice ad l.length cp,.int .i64 0,.int .i64 0]) (by simp[results,Tryz.results14,go_sem]) rfl ⟨.inr (.inr ⟨trivial,HLZ.out,ad,cp,l,rfl,?_,?_,HTR.out⟩),?_⟩
    ·exact HSL.out.below (Below.refl _ _)
    ·exact HAL.out
    ·exact HBW.out
 ·have hcn:¬ tc1=0:=by simpa using hce
  go_enter Tryz.func14,Tryz.ntmps14
  go_wp2_with (go_at_call 30;(with_reducible refine hoc1.mono ?_);rintro r u1 ⟨rfl,bb⟩)
  refine bodyPost_ret (v:=.tuple #[.slice none 0 0,.int .i64 tc1,.int .i64 tc2]) (by simp[results,Tryz.results14,go_sem]) rfl ⟨.inl ⟨hcn,rfl⟩,HB0.out.trans (bb.mono (by have:=HZ.out;omega))⟩
open Go.RowKit
theorem flows_small (p:Pr) (n₀:Nat) (w:World) (hn:n₀≤w.heap.size) (hp:p.Is n₀ w) (hS:Shapes w) (ht:Tab w) (hS3:6≤w.heap.size) (h1:p.size≤400) (h2:p.mons.length≤20) (h3:∀ m∈p.mons,m.vars.length≤40) :
  Calls Tryz.prog 14 #[p.val] w fun r w'=>FlowsBack p w w' r:=
 flows_any p n₀ w hn hp (fun W hW=>ownCheck_of p n₀ W (by have:=hW.size;omega) (hp.below (hW.mono hn)) (fun V hV=>Check_small p n₀ V (by have:=hW.size;have:=hV.size;omega) (hp.below ((hW.tr le_rfl' hV).mono hn)) (hS.below (hW.tr le_rfl' hV) hS3) (by have:=(hW.tr le_rfl' hV).size;omega) (vsum_small _ h2 h3) (fine_small h1) (small_subs h1).2) (small_subs h1).2 (small_subs h1).1)
  (fun x hx W hW=>lower_any p x.body n₀ W (by have:=hW.size;omega) (hp.below (hW.mono hn)) ((hp.2.2 x hx).2.2.2.below (hW.mono hn)) (hS.below hW hS3) (by have:=hW.size;omega) (fine_small h1) ((small_subs h1).2 x hx) (vsum_small _ h2 h3)) ht hS3
theorem flw_low {p:Pr} {l:List Flw} (h:l.map Flw.tri=p.roles.flatMap (roleFl p)) (f:Flw) (hf:f∈l):∃ r∈p.roles,f.fs=lowF p r.body:=by
 have h1:f.tri∈p.roles.flatMap (roleFl p):=by rw[← h];exact List.mem_map_of_mem hf
 obtain⟨r,hr,h2⟩:=List.mem_flatMap.1 h1
 unfold roleFl at h2
 obtain⟨i,_,h3⟩:=List.mem_map.1 h2
 exact⟨r,hr,(congrArg (fun x=>x.2.2) h3).symm⟩
theorem flw_all {p:Pr} {l:List Flw} (h:l.map Flw.tri=p.roles.flatMap (roleFl p)) (hE:∀ x∈p.roles,lowE p x.body=0) (f:Flw) (hf:f∈l):(∀ a:Int,0≤a→PartsOk f.locs a (outs f.es a))∧GuardsOk f.es f.gs∧f.locs≤600∧f.es.length≤20000∧f.gs.length≤20000:=by
 obtain⟨r,hr,h1⟩:=flw_low h f hf
 have h0:=hE r hr
 have hs:=low_small h0
 rw[← h1] at hs
 have hl:=(lowE_zero h0).2
 rw[← h1] at hl
 refine⟨fun a ha=>fs_parts h1 a ha,fs_guards h1 h0,hl,?_,?_⟩
 ·have:=hs.1;rwa [Flw.fs,List.length_map] at this
 ·have:=hs.2;rwa [Flw.fs,List.length_map] at this
open Go.RowKit
structure FlwOk (f:Flw):Prop where
 parts:∀ a:Int,0≤a→PartsOk f.locs a (outs f.es a)
 guards:GuardsOk f.es f.gs
 locs:f.locs≤600
 es:f.es.length≤20000
 gs:f.gs.length≤20000
def FlTold (w w':World) (e:Ending):Prop:=
 ((∃ x y:Int,x≠0∧e=.returned (.tuple #[.slice none 0 0,.int .i64 x,.int .i64 y]))∨∃ ad cp l,e=.returned (.tuple #[.slice ad l.length cp,.int .i64 0,.int .i64 0])∧SlAt 5 Flw.cells w'.heap.size w' ad cp l∧(∀ f∈l,f.Is w'.heap.size w')∧Hid (∀ f∈l,FlwOk f))∧Below w.heap.size w w'
theorem flows_told (p:Pr) (n₀:Nat) (w:World) (hn:n₀≤w.heap.size) (hp:p.Is n₀ w) (hS:Shapes w) (ht:Tab w) (hS3:6≤w.heap.size) (h1:p.size≤400) (h2:p.mons.length≤20) (h3:∀ m∈p.mons,m.vars.length≤40) :
  Calls Tryz.prog 14 #[p.val] w fun r w'=>FlTold w w' r:=by
 refine (flows_small p n₀ w hn hp hS ht hS3 h1 h2 h3).mono ?_
 rintro e w' ⟨hh,hB⟩
 refine⟨?_,hB⟩
 rcases hh with ⟨a1,a2⟩|⟨_,q,hq,_,a1,a2⟩|⟨_,hE,ad,cp,l,a1,a2,a3,a4⟩
 ·exact .inl ⟨_,_,a1,a2⟩
 ·exact .inl ⟨_,_,a1,a2⟩
 ·refine .inr ⟨ad,cp,l,a1,a2,a3,fun f hf=>?_⟩
  obtain⟨b1,b2,b3,b4,b5⟩:=flw_all a4 hE f hf
  exact⟨b1,b2,b3,b4,b5⟩
theorem out_at {locs a:Int} {es:List Ed} (h:PartsOk locs a (outs es a)) (k:Nat) (hk:k<(outI a es 0).length):∃ (j:Nat) (hj:j<es.length) (j0:Nat) (hj0:j0<es.length),(outI a es 0)[k]=(j:Int)∧(outI a es 0)[0]'(by omega)=(j0:Int)∧es[j].src=a∧0≤es[j].dst∧es[j].dst<locs∧(1<(outI a es 0).length→es[j].kind=2∨es[j].kind=9)∧(es[j].kind=9→es[j].n=k)∧es[j].kind=es[j0].kind:=by
 obtain⟨h1,h2⟩:=outI_outs a es 0
 obtain⟨j,hj,b1,b2⟩:=h2 k hk (by omega)
 obtain⟨j0,hj0,c1,c2⟩:=h2 0 (by omega) (by omega)
 obtain⟨d1,d2,d3,d4,d5,d6⟩:=h.each k (by omega)
 rw[← b2] at d1 d2 d3 d4 d5 d6
 rw[← c2] at d6
 rw[Nat.zero_add] at b1 c1
 exact⟨j,hj,j0,hj0,b1,c1,d1,d2,d3,fun h=>d4 (by omega),d5,d6⟩
theorem out_two {locs a:Int} {es:List Ed} (h:PartsOk locs a (outs es a)) (hk:0<(outI a es 0).length):∃ (j0:Nat) (hj0:j0<es.length),(outI a es 0)[0]=(j0:Int)∧(es[j0].kind=2→∃ (h2:(outI a es 0).length=2) (j1:Nat) (hj1:j1<es.length),(outI a es 0)[1]=(j1:Int)∧es[j1].e.opr=5∧∃ q,es[j1].e.kids=[q]∧q.same es[j0].e=true):=by
 obtain⟨h1,h2⟩:=outI_outs a es 0
 obtain⟨j0,hj0,c1,c2⟩:=h2 0 hk (by omega)
 rw[Nat.zero_add] at c1
 refine⟨j0,hj0,c1,fun hk2=>?_⟩
 rw[c2] at hk2
 obtain⟨d1,d2,q,d3,d4⟩:=h.test (by omega) hk2
 have h3:(outI a es 0).length=2:=by omega
 obtain⟨j1,hj1,b1,b2⟩:=h2 1 (by omega) (by omega)
 rw[Nat.zero_add] at b1
 refine⟨h3,j1,hj1,b1,by rw[b2];exact d2,q,by rw[b2];exact d3,by rw[c2];exact d4⟩
theorem out_at2 {locs a:Int} {es:List Ed} (h:PartsOk locs a (outs es a)) {o:List Int} (ho:outI a es 0=o) (k:Nat) (hk:k<o.length):∃ (j:Nat) (hj:j<es.length) (j0:Nat) (hj0:j0<es.length),o[k]=(j:Int)∧o[0]'(by omega)=(j0:Int)∧es[j].src=a∧0≤es[j].dst∧es[j].dst<locs∧(1<o.length→es[j].kind=2∨es[j].kind=9)∧(es[j].kind=9→es[j].n=k)∧es[j].kind=es[j0].kind:=by
 subst ho;exact out_at h k hk
theorem out_two2 {locs a:Int} {es:List Ed} (h:PartsOk locs a (outs es a)) {o:List Int} (ho:outI a es 0=o) (hk:0<o.length):∃ (j0:Nat) (hj0:j0<es.length),o[0]=(j0:Int)∧(es[j0].kind=2→∃ (h2:o.length=2) (j1:Nat) (hj1:j1<es.length),o[1]=(j1:Int)∧es[j1].e.opr=5∧∃ q,es[j1].e.kids=[q]∧q.same es[j0].e=true):=by
 subst ho;exact out_two h hk
open Go.RowKit
def smE:Ex:=.mk 4 ⟨#[97]⟩ ⟨#[98]⟩ 0 none 0 [] 0
def soloB (g:Nat) (s:St):Bl:=.mk (some ⟨g,0,none⟩) 1 [s]
def smWt:St:=.mk 9 ⟨#[97]⟩ ⟨#[]⟩ 0 zeroEx none 0 [] 0
def smWh (g h:Nat):St:=.mk 4 ⟨#[]⟩ ⟨#[]⟩ 0 smE (some ⟨h,0,none⟩) 1 [soloB g smWt] 0
def smSy (g h j k:Nat):St:=.mk 7 ⟨#[97]⟩ ⟨#[]⟩ 0 zeroEx (some ⟨k,0,none⟩) 1 [soloB j (smWh g h)] 0
def smRo (g h j k i:Nat):Ro:=⟨⟨#[114]⟩,false,2,soloB i (smSy g h j k),0⟩
def smVa:Va:=⟨⟨#[98]⟩,1,0,0,0,0⟩
def smMo (v:Nat):Mo:=⟨⟨#[97]⟩,some ⟨v,0,none⟩,1,[smVa],none,0,[],0⟩
def smP (g h j k i v m r:Nat):Pr:=⟨some ⟨m,0,none⟩,1,[smMo v],some ⟨r,0,none⟩,1,[smRo g h j k i]⟩
theorem smE_is (n:Nat) (W:World):smE.Is n W:=Ex.Is.up ⟨⟨by unfold I64;omega,by unfold I64;omega,by unfold I64;omega,by unfold Len;decide,by unfold Len;decide⟩,slAt_nil,fun x hx=>by cases hx⟩
theorem zeroEx_is2 (n:Nat) (W:World):zeroEx.Is n W:=Ex.Is.up ⟨⟨by unfold I64;omega,by unfold I64;omega,by unfold I64;omega,by unfold Len;decide,by unfold Len;decide⟩,slAt_nil,fun x hx=>by cases hx⟩
theorem soloB_is {W:World} {g n:Nat} {s:St} {z:Nat × Nat} (hg:W.heap[g]?=some (.cells s.cells.toArray 95 z)) (hn:g<n) (hs:s.Is n W):(soloB g s).Is n W:=
 Bl.Is.up ⟨slAt_of_block (cells:=St.cells) (size:=12) (l:=[s]) (cap:=1) stCells_len hg (by simp) hn (by simp) (by omega),fun t ht=>by rw[List.mem_singleton.1 ht];exact hs⟩
theorem soloBs {W:World} {h n:Nat} {b:Bl} {z:Nat × Nat} (hg:W.heap[h]?=some (.cells #[b.slice] 37 z)) (hn:h<n):SlAt 1 Bl.cells n W (some ⟨h,0,none⟩) 1 [b]:=
 slAt_of_block (cells:=Bl.cells) (size:=1) (l:=[b]) (cap:=1) (fun _=>rfl) hg (by simp[Bl.cells]) hn (by simp) (by omega)
theorem smWt_is (n:Nat) (W:World):smWt.Is n W:=St.Is.up ⟨⟨by unfold I64;omega,by unfold I64;omega,by unfold I64;omega,by unfold Len;decide,by unfold Len;decide⟩,zeroEx_is2 _ _,slAt_nil,fun x hx=>by cases hx⟩
theorem smWh_is {W:World} {g h n:Nat} {z1 z2:Nat × Nat} (hg:W.heap[g]?=some (.cells smWt.cells.toArray 95 z1)) (hh:W.heap[h]?=some (.cells #[(soloB g smWt).slice] 37 z2)) (hn:g<n∧h<n):(smWh g h).Is n W:=
 St.Is.up ⟨⟨by unfold I64;omega,by unfold I64;omega,by unfold I64;omega,by unfold Len;decide,by unfold Len;decide⟩,smE_is _ _,soloBs hh hn.2,fun x hx=>by rw[List.mem_singleton.1 hx];exact soloB_is hg hn.1 (smWt_is _ _)⟩
theorem smP_is {W:World} {g h j k i v m r n:Nat} {z1 z2 z3 z4 z5 z6 z7 z8:Nat × Nat} (hg:W.heap[g]?=some (.cells smWt.cells.toArray 95 z1)) (hh:W.heap[h]?=some (.cells #[(soloB g smWt).slice] 37 z2)) (hj:W.heap[j]?=some (.cells (smWh g h).cells.toArray 95 z3)) (hk:W.heap[k]?=some (.cells #[(soloB j (smWh g h)).slice] 37 z4)) (hi:W.heap[i]?=some (.cells (smSy g h j k).cells.toArray 95 z5))
  (hv:W.heap[v]?=some (.cells smVa.cells.toArray 66 z6)) (hm:W.heap[m]?=some (.cells (smMo v).cells.toArray 64 z7)) (hr:W.heap[r]?=some (.cells (smRo g h j k i).cells.toArray 39 z8)) (hn:W.heap.size=n):(smP g h j k i v m r).Is n W:=by
 have lt:∀ {b:Nat} {o:Obj},W.heap[b]?=some o→b<n:=fun e=>by rw[← hn];exact (Array.getElem?_eq_some_iff.1 e).1
 refine⟨⟨slAt_of_block (cells:=Mo.cells) (size:=4) (l:=[smMo v]) (cap:=1) (fun _=>rfl) hm (by simp) (lt hm) (by simp) (by omega),fun x hx=>?_⟩,slAt_of_block (cells:=Ro.cells) (size:=5) (l:=[smRo g h j k i]) (cap:=1) (fun _=>rfl) hr (by simp) (lt hr) (by simp) (by omega),fun x hx=>?_⟩
 ·rw[List.mem_singleton.1 hx]
  refine⟨⟨show (ByteArray.mk #[97]).size≤140737488351232 by decide,show I64 0 by unfold I64;omega⟩,⟨slAt_of_block (cells:=Va.cells) (size:=6) (l:=[smVa]) (cap:=1) (fun _=>rfl) hv (by simp) (lt hv) (by simp) (by omega),fun y hy=>?_⟩,slAt_nil,fun x hx=>by cases hx⟩
  rw[List.mem_singleton.1 hy]
  exact⟨by unfold Len;decide,show I64 1 by unfold I64;omega,show I64 0 by unfold I64;omega,show I64 0 by unfold I64;omega,show I64 0 by unfold I64;omega,show I64 0 by unfold I64;omega⟩
 ·rw[List.mem_singleton.1 hx]
  refine⟨show (ByteArray.mk #[114]).size≤140737488351232 by decide,show I64 2 by unfold I64;omega,show I64 0 by unfold I64;omega,soloB_is hi (lt hi) ?_⟩
  exact St.Is.up ⟨⟨by unfold I64;omega,by unfold I64;omega,by unfold I64;omega,by unfold Len;decide,by unfold Len;decide⟩,zeroEx_is2 _ _,soloBs hk (lt hk),fun x hx=>by rw[List.mem_singleton.1 hx];exact soloB_is hj (lt hj) (smWh_is hg hh ⟨lt hg,lt hh⟩)⟩
theorem sm_size (g h j k i v m r:Nat):(smP g h j k i v m r).size=4:=by kernel_rfl
theorem sm_ochk (g h j k i v m r:Nat):(smP g h j k i v m r).ochk=(0,0):=by kernel_rfl
theorem sm_lowE (g h j k i v m r:Nat):lowE (smP g h j k i v m r) (soloB i (smSy g h j k))=0:=by kernel_rfl
theorem sm_locs (g h j k i v m r:Nat):(lowF (smP g h j k i v m r) (soloB i (smSy g h j k))).locs=6:=by kernel_rfl
theorem sm_es (g h j k i v m r:Nat):(lowF (smP g h j k i v m r) (soloB i (smSy g h j k))).es.map (fun x=>(x.src,x.out))=[(0,0),(1,0),(2,0),(3,0),(1,1),(4,0)]:=by kernel_rfl
theorem sm_gs (g h j k i v m r:Nat):(lowF (smP g h j k i v m r) (soloB i (smSy g h j k))).gs.map (fun x=>x.loop)=[true]:=by kernel_rfl
theorem sm_tri (g h j k i v m r:Nat):((smP g h j k i v m r).roles.flatMap (roleFl (smP g h j k i v m r))).map (fun x=>x.1)=[⟨#[114,46,49]⟩,⟨#[114,46,50]⟩]:=by kernel_rfl
theorem lower_small (p:Pr) (x:Ro) (hx:x∈p.roles) (n₀:Nat) (w:World) (hn:n₀≤w.heap.size) (hp:p.Is n₀ w) (hS:Shapes w) (hS3:6≤w.heap.size) (h1:p.size≤400) (h2:p.mons.length≤20) (h3:∀ m∈p.mons,m.vars.length≤40) :
  Calls Tryz.prog 10 #[p.val,x.body.slice] w fun r w'=>LowBack p x.body n₀ w w' r:=
 lower_any p x.body n₀ w hn hp (hp.2.2 x hx).2.2.2 hS hS3 (fine_small h1) ((small_subs h1).2 x hx) (vsum_small _ h2 h3)
theorem num_flow (x:Int) (w:World):Calls Tryz.prog 13 #[.int .i64 x] w fun r w'=>r=.returned (.int .i64 x)∧w'=w:=by
 go_enter Tryz.func13,Tryz.ntmps13
 go_wp2
 go_ret
 exact⟨rfl,rfl⟩
theorem sm_lower (g h j k i v m r:Nat) (n₀:Nat) (w:World) (hn:n₀≤w.heap.size) (hp:(smP g h j k i v m r).Is n₀ w) (hS:Shapes w) (hS3:6≤w.heap.size) :
  Calls Tryz.prog 10 #[(smP g h j k i v m r).val,.slice (some ⟨i,0,none⟩) 1 1] w fun e w'=>∃ ead ecap es gb goff gcap,e=.returned (.tuple #[.agg #[.string ⟨#[]⟩,.bool false,.int .i64 6,.slice ead es.length ecap,.slice (some ⟨gb,goff,none⟩) 1 gcap],.int .i64 0])∧es.length=6∧Hid (es.map (fun x=>(x.src,x.out))=[(0,0),(1,0),(2,0),(3,0),(1,1),(4,0)])∧(1≤gcap∧gcap≤maxLen)∧Hid (∀ X:World,w'.heap.size≤X.heap.size→(∀ k,k<w'.heap.size→k<n₀∨w.heap.size≤k→X.heap[k]?=w'.heap[k]?)→SlAt 15 Ed.cells X.heap.size X ead ecap es∧gb<X.heap.size∧X.cell? ⟨gb,goff+7,none⟩=some (.bool true))∧Below w.heap.size w w':=by
 refine (lower_small (smP g h j k i v m r) (smRo g h j k i) (by simp[smP]) n₀ w hn hp hS hS3 (by rw[sm_size];omega) (by simp[smP]) (fun x hx=>by
  have:x=smMo v:=by simpa[smP] using hx
  subst this;simp[smMo])).mono ?_
 rintro e w' ⟨locs,ead,ecap,es,gad,gcap,gs,rfl,hB,hN,hF,-⟩
 have he:lowE (smP g h j k i v m r) (smRo g h j k i).body=0:=sm_lowE ..
 have hF:=hF he
 have e1:locs=6:=(congrArg Fs.locs hF).trans (sm_locs ..)
 have e2:=(congrArg (fun s:Fs=>s.es.map (fun x=>(x.src,x.out))) hF).trans (sm_es ..)
 have e3:=(congrArg (fun s:Fs=>s.gs.map (fun x=>x.loop)) hF).trans (sm_gs ..)
 simp only[Flw.fs,List.map_map] at e2 e3
 have e2:es.map (fun x=>(x.src,x.out))=[(0,0),(1,0),(2,0),(3,0),(1,1),(4,0)]:=e2
 have e3:gs.map (fun x=>x.loop)=[true]:=e3
 have l2:es.length=6:=by simpa using congrArg List.length e2
 have l3:gs.length=1:=by simpa using congrArg List.length e3
 obtain⟨-,hg,-⟩:=hN.is
 obtain⟨g1,g2,g3⟩:=hg
 simp only at g1 g2 g3
 rcases g3 with g3|⟨gb,goff,rfl,-,-⟩
 ·rw[g3] at l3;simp at l3
 subst e1
 refine⟨ead,ecap,es,gb,goff,gcap,?_,l2,e2,⟨by omega,g2⟩,fun X hX hk=>?_,hB⟩
 ·rw[he];simp only[l3]
 ·obtain⟨⟨k1,-⟩,⟨k2,k3,k4⟩,-⟩:=(hN.kept hX hk).is
  refine⟨k1,?_⟩
  rcases k4 with k4|⟨b',off',k5,k6,k7⟩
  ·simp only at k4;rw[k4] at l3;simp at l3
  ·obtain⟨rfl,rfl⟩:gb=b'∧goff=off':=by
    have k5:some (⟨gb,goff,none⟩:Addr)=some ⟨b',off',none⟩:=k5
    injection k5 with k5;injection k5 with k5 k8;exact⟨k5,k8⟩
   refine⟨k6,?_⟩
   have:=k7 0 (by show 0<gs.length;omega) 7 (by omega)
   rw[Nat.zero_mul,Nat.add_zero] at this
   rw[this]
   rcases gs with _|⟨q,t⟩
   ·simp at l3
   ·have hq:q.loop=true:=by simp at e3;exact e3.1
    rcases q with ⟨q1,⟨y1,y2,y3,y4,y5,y6,y7,y8⟩,q3⟩
    simp only at hq
    subst hq
    rfl
theorem sm_flows (g h j k i v m r:Nat) (w:World) (hp:(smP g h j k i v m r).Is w.heap.size w) (hS:Shapes w) (ht:Tab w) (hS3:6≤w.heap.size) :
  Calls Tryz.prog 14 #[(smP g h j k i v m r).val] w fun e w'=>∃ lb loff lcap,e=.returned (.tuple #[.slice (some ⟨lb,loff,none⟩) 2 lcap,.int .i64 0,.int .i64 0])∧(2≤lcap∧lcap≤maxLen)∧lb<w'.heap.size∧w'.cell? ⟨lb,loff+5,none⟩=some (.string ⟨#[114,46,50]⟩)∧Below w.heap.size w w':=by
 refine (flows_small (smP g h j k i v m r) w.heap.size w (Nat.le_refl _) hp hS ht hS3 (by rw[sm_size];omega) (by simp[smP]) (fun x hx=>by
  have:x=smMo v:=by simpa[smP] using hx
  subst this;simp[smMo])).mono ?_
 rintro e w' ⟨hh,hB⟩
 rcases hh with ⟨h1,-⟩|⟨-,q,hq,-,h1,-⟩|⟨-,-,ad,cp,l,rfl,hs,-,hl⟩
 ·rw[sm_ochk] at h1;exact absurd rfl h1
 ·obtain rfl:q=0:=by simpa[smP] using hq
  exact absurd (sm_lowE ..) h1
 ·have e1:=(congrArg (List.map (fun x=>x.1)) hl).trans (sm_tri ..)
  rw[List.map_map] at e1
  have e1:l.map (fun f=>f.name)=[⟨#[114,46,49]⟩,⟨#[114,46,50]⟩]:=e1
  have l1:l.length=2:=by simpa using congrArg List.length e1
  obtain⟨g1,g2,g3⟩:=hs
  rcases g3 with g3|⟨gb,goff,rfl,g4,g5⟩
  ·rw[g3] at l1;simp at l1
  refine⟨gb,goff,cp,by rw[l1],⟨by omega,g2⟩,g4,?_,hB⟩
  have:=g5 1 (by omega) 0 (by omega)
  rw[Nat.one_mul,Nat.add_zero] at this
  rw[this]
  rcases l with _|⟨q1,_|⟨q2,t⟩⟩
  ·simp at l1
  ·simp at l1
  ·have hq:q2.name=⟨#[114,46,50]⟩:=by simp at e1;exact e1.2.1
   simp[Flw.cells,hq]
theorem outI_src (loc:Int):∀ (es:List Ed) (l:List (Int × Int)) (i:Nat),es.map (fun x=>(x.src,x.out))=l→outI loc es i=outI loc (l.map fun x=>{ (⟨0,0,0,0,0,zeroEx,0,0,0,0⟩:Ed) with src:=x.1 }) i:=by
 intro es
 induction es with
 | nil=>intro l i h;subst h;rfl
 | cons x es ih =>
  intro l i h
  subst h
  simp only[List.map_cons,outI]
  rw[ih _ (i+1) rfl]
open Go.RowKit
def allocs (W:World):List Obj→World
 | []=>W
 | o::l=>allocs (W.alloc o) l
theorem allocs_below (l:List Obj):∀ W:World,Below W.heap.size W (allocs W l):=by
 induction l with
 | nil=>intro W;exact Below.refl _ _
 | cons o l ih=>intro W;exact ((Below.refl W.heap.size W).al le_rfl' o).tr le_rfl' (ih _)
theorem pick_alloc (l:List Obj) (W:World) (o:Obj) {k:Nat} (h:k=W.heap.size):(allocs (W.alloc o) l).heap[k]?=some o:=by
 subst h
 rw[(allocs_below l (W.alloc o)).block _ (by simp)]
 exact World.alloc_heap_new W o
set_option maxRecDepth 100000 in
set_option maxHeartbeats 8000000 in
theorem small_prog (w:World):Calls Tryz.prog 21 #[] w fun e w'=>∃ g h j k i v m r,e=.returned (smP g h j k i v m r).val∧(smP g h j k i v m r).Is w'.heap.size w'∧Below w.heap.size w w':=by
 go_enter Tryz.func21,Tryz.ntmps21
 go_wp2
 refine bodyPost_ret (v:=(smP (w.heap.size+1+1) (w.heap.size+1+1+1) (w.heap.size+1+1+1+1+1+1+1) (w.heap.size+1+1+1+1+1+1+1+1) (w.heap.size+1+1+1+1+1+1+1+1+1) (w.heap.size+1+1+1+1+1) (w.heap.size+1+1+1+1+1+1) (w.heap.size+1+1+1+1+1+1+1+1+1+1)).val) ?_ rfl ?_
 ·simp[results,Tryz.results21,go_sem,smP,smMo,smRo,Pr.val]
 refine⟨w.heap.size+1+1,w.heap.size+1+1+1,w.heap.size+1+1+1+1+1+1+1,w.heap.size+1+1+1+1+1+1+1+1,w.heap.size+1+1+1+1+1+1+1+1+1,w.heap.size+1+1+1+1+1,w.heap.size+1+1+1+1+1+1,w.heap.size+1+1+1+1+1+1+1+1+1+1,rfl,smP_is (z1:=(0,0)) (z2:=(0,0)) (z3:=(0,0)) (z4:=(0,0)) (z5:=(0,0)) (z6:=(0,0)) (z7:=(0,0)) (z8:=(0,0)) ?_ ?_ ?_ ?_ ?_ ?_ ?_ ?_ rfl,?_⟩
 ·exact pick_alloc [_,_,_,_,_,_,_,_] _ _ (by simp)
 ·exact pick_alloc [_,_,_,_,_,_,_] _ _ (by simp)
 ·exact pick_alloc [_,_,_] _ _ (by simp)
 ·exact pick_alloc [_,_] _ _ (by simp)
 ·exact pick_alloc [_] _ _ (by simp)
 ·exact pick_alloc [_,_,_,_,_] _ _ (by simp)
 ·exact pick_alloc [_,_,_,_] _ _ (by simp)
 ·exact pick_alloc [] _ _ (by simp)
 ·exact ((((((((((((Below.refl _ _).al le_rfl' _).al le_rfl' _).al le_rfl' _).al le_rfl' _).al le_rfl' _).al le_rfl' _).al le_rfl' _).al le_rfl' _).al le_rfl' _).al le_rfl' _).al le_rfl' _)
end Go.Proofs.YtbmbchdjjfmafaaGreatDoor
