import Derived.Test.YthdkgfmlihgceaaGreatDoorHao
namespace Go.Proofs.YthdkgfmlihgceaaGreatDoor
set_option maxRecDepth 100000
set_option maxHeartbeats 16000000
open Go.RowKit
theorem qmp (l:List Mo) (i j:Nat) (h:j<=i):qcj (l.take j)<=qcj (l.take i):=by
 have:=qim (l.take i) j
 rw[List.take_take,Nat.min_eq_left h] at this
 exact this
def VarBack (o:Option Int) (w w':World) (r:Ending):Prop:=((o=none/\r=.returned (.tuple #[.int .i64 0,.bool false]))\/(∃t,(t=1\/t=2)/\o=some t/\r=.returned (.tuple #[.int .i64 t,.bool true])))/\Below w.heap.size w w'
theorem VarBack.no {f:FuncId}{args:Array Value}{o:Option Int}{w:World}(h:Calls Tryz.prog f args w λr w'=>VarBack o w w' r) (ho:o=none):Calls Tryz.prog f args w λr w'=>r=.returned (.tuple #[.int .i64 0,.bool false])/\Below w.heap.size w w':=
 h.mono λr w' hh=>by
  rcases hh.1 with ⟨_,h2⟩|⟨t,_,h1,_⟩
  ·exact⟨h2,hh.2⟩
  ·rw[ho] at h1;cases h1
theorem VarBack.yes {f:FuncId}{args:Array Value}{o:Option Int}{w:World}(h:Calls Tryz.prog f args w λr w'=>VarBack o w w' r) {t:Int}(ho:o=some t):Calls Tryz.prog f args w λr w'=>r=.returned (.tuple #[.int .i64 t,.bool true])/\Below w.heap.size w w':=
 h.mono λr w' hh=>by
  rcases hh.1 with ⟨h1,_⟩|⟨t',_,h1,h2⟩
  ·rw[ho] at h1;cases h1
  ·rw[ho] at h1;cases h1;exact⟨h2,hh.2⟩
theorem qgx (p:Pr) (mon name:ByteArray) (nz:Nat) (w:World) (hn:nz<=w.heap.size) (hp:p.Is nz w) (hvs:qcj p.mons<=1000000) :
  Calls Tryz.prog 127 #[p.val,.string mon,.string name] w λr w'=>VarBack (qei p.mons mon name) w w' r:=by
 have h58:∀W,Below w.heap.size w W->Calls Tryz.prog 67 #[p.val,.string mon,.string name] W λr w'=>FirstBack (qcs p.mons mon name) W w' r:=λW hW=>qpg p mon name nz W (by have:=hW.size;omega) (hp.below (hW.mono hn)) hvs
 rcases p with ⟨mad,mcap,mons,rad,rcap,roles⟩
 obtain⟨⟨h3,h4⟩,-⟩:=hp
 simp only[Pr.val] at h3 h4 h58 hvs ⊢
 have hl1:=h3.1;have hl2:=h3.2.1
 unfold maxLen at hl2
 go_enter Tryz.func127,Tryz.ntmps127
 go_upto_region 1 with fail
 obtain⟨bP,hB,hz⟩:=qal w #[.slice mad mons.length mcap,.slice rad roles.length rcap] 25
 obtain⟨W0,hW0⟩:∃W0,w.alloc (.cells #[.slice mad mons.length mcap,.slice rad roles.length rcap] 25)=W0:=⟨_,rfl⟩
 rw[hW0] at bP hB hz ⊢
 clear hW0
 have s0:=cellOf bP 0
 have s1:=cellOf bP 1
 simp at s0 s1
 have HZ:=hid hz
 clear hz bP
 have hq:=h58 W0 hB
 clear h58
 rcases hs:qcs mons mon name with _|s
 ·have hq:=FirstBack.no hq hs
  have HV:=hid (qjo hs)
  clear hs
  go_wp2_with (go_at_call 67;(with_reducible refine hq.mono ?_);rintro r u ⟨rfl,bb⟩)
  go_ret2
  exact⟨.inl ⟨HV.out,rfl⟩,hB.tr qaa bb⟩
 have hq:=FirstBack.yes hq hs
 obtain⟨i,hi,k,hk,hsk,-,-⟩:=qgw hs
 subst hsk
 have HV:=hid (qpn hs hi hk)
 clear hs
 have hsb:k+qcj (mons.take i)<=1000000:=by
  have h1:=qes mons i hi
  have h2:=qim mons (i+1)
  omega
 obtain⟨s,hs⟩:∃s,k+qcj (mons.take i)=s:=⟨_,rfl⟩
 rw[hs] at hq hsb
 have HS:=hid hs
 clear hs
 have hmi:=(h4 _ (List.getElem_mem hi)).2.1.1
 rcases h3.2.2 with h|⟨kb,koff,rfl,hbn,hrow⟩
 ·subst h;simp at hi
 go_wp2_with (go_at_call 67;(with_reducible refine hq.mono ?_);rintro r u1 ⟨rfl,bb1⟩;have hz1:=bb1.size;have x0:=(bb1.cell (p:=⟨w.heap.size,0,none⟩) (by show w.heap.size<_;have:=HZ.out;omega)).trans s0)
 have hB1:=hB.tr qaa bb1
 have hB1z:=hB1.size
 go_loopw [8,10] (λm o wr=>∃(j c:Nat),j<=i/\o=.int .i64 j/\m=.int .i64 (c:Int)/\c<=1000000/\Hid (c+qcj (mons.take j)=k+qcj (mons.take i))/\wr=u1)
  (λ_ o _=>i-(intOf o).toNat)
 case atStart=>exact⟨0,s,by omega,rfl,rfl,hsb,(by show _=_;rw[HS.out];simp[qcj]),rfl⟩
 case round =>
  obtain⟨j,c,hj,rfl,rfl,hc,HC,hwr⟩:=hrel
  have hw2:=hwr.symm
  subst hw2
  have hjl:j<mons.length:=by omega
  have hji:(j:Int)<(mons.length:Int):=by omega
  have hrj:=hrow.below (hB1.mono hn) hbn
  obtain⟨-,c1,-⟩:=qAa (nz:=nz) hrj j hjl
  by_cases hlt:j<i
  ·have hcl:mons[j].vars.length<=c:=by
    have h1:=HC.out
    have h2:=qes mons j hjl
    have h3:=qmp mons i (j+1) (by omega)
    omega
   have HN:Hid (c-mons[j].vars.length+qcj (mons.take (j+1))=k+qcj (mons.take i)):=by
    show _=_
    have h1:=HC.out
    have h2:=qes mons j hjl
    omega
   have hvj:=qok mons j hjl
   obtain⟨vl,hvl⟩:∃vl,mons[j].vars.length=vl:=⟨_,rfl⟩
   rw[hvl] at c1 hcl hvj
   rw[hvl] at HN
   clear hvl
   have hcl2:(vl:Int)<=(c:Int):=by omega
   have hcl3:decide ((c:Int)<(vl:Int))=false:=by simp;omega
   go_wp2
   go_roundw
   case rel=>exact⟨j+1,c-vl,by omega,by go_num,by go_num,by omega,HN,(by trivial)⟩
   case measure=>simp[intOf];omega
  ·obtain rfl:j=i:=by omega
   have hck:c=k:=by have:=HC.out;omega
   subst hck
   obtain⟨va,hva⟩:∃va,mons[j].vars[c]=va:=⟨_,rfl⟩
   rw[hva] at HV
   obtain⟨vars,hvars⟩:∃vars,mons[j].vars=vars:=⟨_,rfl⟩
   obtain⟨vad,hvad⟩:∃vad,mons[j].vad=vad:=⟨_,rfl⟩
   obtain⟨vcap,hvcap⟩:∃vcap,mons[j].vcap=vcap:=⟨_,rfl⟩
   have hkv:c<vars.length:=by rw[<- hvars];exact hk
   have hva2:vars[c]=va:=by subst hvars;exact hva
   rw[hvars,hvad,hvcap] at c1 hmi
   clear hva hvars hvad hvcap
   have hw1:=hmi.1;have hw2:=hmi.2.1
   unfold maxLen at hw2
   rcases hmi.2.2 with h|⟨mb,moff,rfl,hmn,hmrow⟩
   ·subst h;simp at hkv
   have hmr:=hmrow.below (hB1.mono hn) hmn
   have d1:=hmr c hkv 1 (by omega)
   rcases va with ⟨vn,vt,vlo,vhi,vin,vps⟩
   have e1:(Va.cells vars[c])[1]?=some (.int .i64 vt):=by rw[hva2];rfl
   rw[e1] at d1
   clear e1 hva2 hmr hmrow
   have hck1:(c:Int)<(vars.length:Int):=by omega
   have hck2:decide ((vars.length:Int)<=(c:Int))=false:=by simp;omega
   have hck3:¬ vars.length<=c:=by omega
   by_cases t2:vt=2
   ·subst t2
    go_wp2
    go_ret2
    exact⟨.inr ⟨2,.inr rfl,HV.out,rfl⟩,hB1⟩
   ·have t2':(vt==2)=false:=by rw[beq_eq_false_iff_ne];exact t2
    by_cases t3:vt=3
    ·subst t3
     clear t2
     go_wp2
     go_ret2
     exact⟨.inr ⟨2,.inr rfl,HV.out,rfl⟩,hB1⟩
    ·have t3':(vt==3)=false:=by rw[beq_eq_false_iff_ne];exact t3
     have HV2:Hid (qei mons mon name=some 1):=by
      show _=_
      rw[HV.out,Va.is,if_neg (by simp;exact⟨t2,t3⟩)]
     clear t2 t3
     go_wp2
     go_ret2
     exact⟨.inr ⟨1,.inl rfl,HV2.out,rfl⟩,hB1⟩
open Go.RowKit
theorem qAe {op:Int}{mon name:ByteArray}{n:Int}{ad:Option Addr}{cap:Nat}{kids:List Ex}{pos:Int}(h:(Ex.mk op mon name n ad cap kids pos).ok=true):(Ex.mk op mon name n ad cap kids pos).ok1=true/\∀x∈kids,x.ok=true:=by
 rw[Ex.ok,Ex.subs_mk,List.all_cons,Bool.and_eq_true,Ex.subsL_eq,List.all_flatMap] at h
 exact⟨h.1,λx hx=>List.all_eq_true.1 h.2 x hx⟩
theorem qt3 {op:Int}{mon name:ByteArray}{n:Int}{ad:Option Addr}{cap:Nat}{kids:List Ex}{pos:Int}(h:(Ex.mk op mon name n ad cap kids pos).ok1=true):1<=op/\op<=17/\kids.length=qda op.toNat:=by
 simp only[Ex.ok1,Bool.and_eq_true,decide_eq_true_eq,beq_iff_eq] at h
 omega
theorem qAu (k:Nat) (h1:1<=k) (h4:k≠4):qv2 k=qDj (k:Int):=by
 unfold qv2 qDj
 split
 ·omega
 ·split
  ·rw[if_pos (by omega)]
  ·rw[if_neg (by omega)]
theorem qta (l:List Mo) (k:Nat) (mon name:ByteArray) (n:Int) (ad:Option Addr) (cap:Nat) (kids:List Ex) (pos:Int) (h1:1<=k) (h4:k≠4):Ex.is l (.mk (k:Int) mon name n ad cap kids pos)=qv2 k:=by
 rw[Ex.is,if_neg (by omega),qAu k h1 h4]
theorem qvr (l:List Mo) (k:Nat) (kids:List Ex) (h1:1<=k) (h2:k<18) (hk:kids.length=qda k) (hr:qcd k≠-1):misfit l (qgy l (k:Int) kids) kids=misfit l (qcd k) kids:=by
 by_cases h5:k<5
 ·have:kids=[]:=by
   apply List.eq_nil_of_length_eq_zero
   rw[hk,qda,if_pos h5]
  subst this
  rfl
 ·have hw:qgy l (k:Int) kids=qcd k:=by
   unfold qcd at hr ⊢
   unfold qgy qo3
   rw[if_neg h5] at hr ⊢
   by_cases h6:k=5\/16<=k
   ·rw[if_pos h6] at hr ⊢
    have h7:(k:Int)=5\/(k:Int)=16\/(k:Int)=17:=by omega
    rw[if_pos h7];rfl
   ·rw[if_neg h6] at hr ⊢
    have h7:¬ ((k:Int)=5\/(k:Int)=16\/(k:Int)=17):=by omega
    rw[if_neg h7]
    by_cases h8:k=10\/k=11
    ·rw[if_pos h8] at hr
     exact absurd rfl hr
    ·rw[if_neg h8] at hr ⊢
     have h9:¬ ((k:Int)=10\/(k:Int)=11):=by omega
     rw[if_neg h9];rfl
  rw[hw]
theorem qrq (l:List Mo) (k:Nat) (kids:List Ex) (h2:k<18) (hk:kids.length=qda k) (hr:qcd k=-1):∃h:0<kids.length,qgy l (k:Int) kids=kids[0].is l:=by
 have h10:k=10\/k=11:=by
  unfold qcd at hr
  split at hr
  ·omega
  ·split at hr
   ·omega
   ·split at hr
    ·assumption
    ·omega
 have h2k:kids.length=2:=by rw[hk];rcases h10 with rfl|rfl <;> rfl
 refine⟨by omega,?_⟩
 unfold qgy qo3
 have h7:¬ ((k:Int)=5\/(k:Int)=16\/(k:Int)=17):=by omega
 have h9:(k:Int)=10\/(k:Int)=11:=by omega
 rw[if_neg h7,if_pos h9,if_pos rfl]
 cases kids with
 | nil=>simp at h2k
 | cons a r=>rfl
theorem qro (p:Pr) (hvs:qcj p.mons<=1000000) (e:Ex):∀(nz:Nat) (w:World),nz<=w.heap.size->p.Is nz w->e.Is nz w->Shapes w->e.ok=true ->
  Calls Tryz.prog 129 #[p.val,e.val] w λr w'=>TyBack (e.is p.mons) (e.ter p.mons) w w' r:=by
 induction e using Ex.ind with
 | h op mon name n ad cap kids pos ih =>
 intro nz w hn hp hI hS hok
 have HU:=hid (Ex.ter_mk p.mons op mon name n ad cap kids pos)
 obtain⟨hok1,hokk⟩:=qAe hok
 obtain⟨ho1,ho2,hkl⟩:=qt3 hok1
 have HKL:=hid hkl
 clear hok hok1
 have hs3:=hS.size
 have hsl:=hI.down.2.1
 have hIk:=hI.down.2.2
 have hl1:=hsl.1;have hl2:=hsl.2.1
 unfold maxLen at hl2
 have hk2l:kids.length<=2:=by
  rw[hkl,qda]
  split
  ·omega
  ·split <;> omega
 clear hkl
 have h35:∀W,Below w.heap.size w W->Calls Tryz.prog 127 #[p.val,.string mon,.string name] W λr w'=>VarBack (qei p.mons mon name) W w' r:=λW hW=>qgx p mon name nz W (by have:=hW.size;omega) (hp.below (hW.mono hn)) hvs
 have h21:∀x∈kids,∀W,Below w.heap.size w W->Calls Tryz.prog 129 #[p.val,x.val] W λr w'=>TyBack (x.is p.mons) (x.ter p.mons) W w' r:=λx hx W hW=>ih x hx nz W (by have:=hW.size;omega) (hp.below (hW.mono hn)) ((hIk x hx).below (hW.mono hn)) (hS.below hW hs3) (hokk x hx)
 clear ih hIk hokk hI
 obtain⟨pad,hpad⟩:∃a,p.mad=a:=⟨_,rfl⟩
 obtain⟨pml,hpml⟩:∃a,p.mons.length=a:=⟨_,rfl⟩
 obtain⟨pmc,hpmc⟩:∃a,p.mcap=a:=⟨_,rfl⟩
 obtain⟨prd,hprd⟩:∃a,p.rad=a:=⟨_,rfl⟩
 obtain⟨prl,hprl⟩:∃a,p.roles.length=a:=⟨_,rfl⟩
 obtain⟨prc,hprc⟩:∃a,p.rcap=a:=⟨_,rfl⟩
 simp only[Pr.val,Ex.val,hpad,hpml,hpmc,hprd,hprl,hprc] at h35 h21 ⊢
 clear hpad hpml hpmc hprd hprl hprc hp
 simp only[Ex.cells] at ⊢
 go_enter Tryz.func129,Tryz.ntmps129
 go_upto_region 1 with fail
 obtain⟨bP,bE,hB,hz⟩:=qch w #[.slice pad pml pmc,.slice prd prl prc] #[.int .i64 op,.string mon,.string name,.int .i64 n,.slice ad kids.length cap,.int .i64 pos] 25 48
 obtain⟨W0,hW0⟩:∃W0,(w.alloc (.cells #[.slice pad pml pmc,.slice prd prl prc] 25)).alloc (.cells #[.int .i64 op,.string mon,.string name,.int .i64 n,.slice ad kids.length cap,.int .i64 pos] 48)=W0:=⟨_,rfl⟩
 rw[hW0] at bP bE hB hz ⊢
 clear hW0
 have r0:=cellOf bP 0
 have r1:=cellOf bP 1
 have s0:=cellOf bE 0
 have s1:=cellOf bE 1
 have s2:=cellOf bE 2
 have s4:=cellOf bE 4
 have s5:=cellOf bE 5
 simp at r0 r1 s0 s1 s2 s4 s5
 have HZ:=hid hz
 clear hz bP bE
 by_cases h4:op=4
 ·subst h4
  have HU2:=hid (HU.out.trans (if_pos rfl))
  have HIS:Hid (Ex.is p.mons (.mk 4 mon name n ad cap kids pos)=(qei p.mons mon name).getD 0):=by show _=_;rw[Ex.is,if_pos rfl]
  clear HU h21
  have hq:=h35 W0 hB
  clear h35
  rcases hv:qei p.mons mon name with _|t
  ·have hq:=VarBack.no hq hv
   have HU3:Hid (Ex.ter p.mons (.mk 4 mon name n ad cap kids pos)=some (61,pos)):=by show _=_;rw[HU2.out,hv];rfl
   clear hv HU2 HIS
   go_upto_region 4 with (go_at_call 127;(with_reducible refine hq.mono ?_);rintro r u1 ⟨rfl,bb1⟩;have hz1:=bb1.size;have x5:=(bb1.cell (p:=⟨w.heap.size+1,5,none⟩) (by show w.heap.size+1<_;have:=HZ.out;omega)).trans s5)
   go_quiet (fail)
   go_wp2
   go_ret3
   have hbf:=hB.tr qaa bb1
   exact qc0 rfl HU3.out ⟨hbf.os,hbf.tape,hbf.output,hbf.size,hbf.block⟩
  ·have hq:=VarBack.yes hq hv
   have HU3:Hid (Ex.ter p.mons (.mk 4 mon name n ad cap kids pos)=none):=by show _=_;rw[HU2.out,hv];rfl
   have HI3:Hid (Ex.is p.mons (.mk 4 mon name n ad cap kids pos)=t):=by show _=_;rw[HIS.out,hv];rfl
   clear hv HU2 HIS
   go_wp2_with (go_at_call 127;(with_reducible refine hq.mono ?_);rintro r u1 ⟨rfl,bb1⟩)
   go_ret3
   rw[HI3.out]
   exact qf2 HU3.out (hB.tr qaa bb1)
 have h4':(op==4)=false:=by rw[beq_eq_false_iff_ne];exact h4
 have HU2:=hid (HU.out.trans (if_neg h4))
 clear HU h35
 obtain⟨k,rfl⟩:∃k:Nat,op=(k:Int):=⟨op.toNat,by omega⟩
 have hk1:1<=k:=by omega
 have hk2:k<18:=by omega
 have hk4:k≠4:=by omega
 have HKL':Hid (kids.length=qda k):=HKL
 clear HKL h4
 have HU:=HU2
 clear HU2
 go_upto_region 7 with fail
 obtain⟨bA,hBA,hzA⟩:=qal W0 #[.int .i64 0,.int .i64 0] 222
 have hz0:=HZ.out
 rw[hz0] at bA
 have t0:=(hBA.cell (p:=⟨w.heap.size,0,none⟩) (by show w.heap.size<_;omega)).trans r0
 have t1:=(hBA.cell (p:=⟨w.heap.size,1,none⟩) (by show w.heap.size<_;omega)).trans r1
 have x0:=(hBA.cell (p:=⟨w.heap.size+1,0,none⟩) (by show w.heap.size+1<_;omega)).trans s0
 have x4:=(hBA.cell (p:=⟨w.heap.size+1,4,none⟩) (by show w.heap.size+1<_;omega)).trans s4
 have hBw:Below w.heap.size w (W0.alloc (.cells #[.int .i64 0,.int .i64 0] 222)):=hB.trans (hBA.mono (by omega))
 obtain⟨W1,hW1⟩:∃W1,W0.alloc (.cells #[.int .i64 0,.int .i64 0] 222)=W1:=⟨_,rfl⟩
 rw[hW1] at bA hzA t0 t1 x0 x4 hBw ⊢
 clear hW1 r0 r1 s0 s1 s2 s4 s5 hB hBA
 simp only[hz0] at hzA ⊢
 clear hz0 HZ
 have HZA:=hid hzA
 have hzA2:w.heap.size+2<W1.heap.size:=by omega
 clear hzA
 go_wp2
 go_loopw [38] (λi wr=>∃(j:Nat) (cs:Array Value),j<=kids.length/\i=.int .i64 j/\cs.size=2/\wr.heap[w.heap.size+2]?=some (.cells cs 222 (0,0))/\Hid (∀k (h:k<kids.length),k<j->cs[k]?=some (.int .i64 (kids[k].is p.mons)))/\Hid (Ex.terL p.mons kids=Ex.terL p.mons (kids.drop j))/\Below (w.heap.size+2) W1 wr)
  (λi _=>kids.length-(intOf i).toNat)
 case atStart=>exact⟨0,_,by omega,rfl,rfl,bA,(λ_ _ h=>by omega),rfl,Below.refl _ _⟩
 case round =>
  obtain⟨j,cs,hj,rfl,hcs,bA1,HP,HQ,hbw⟩:=hrel
  have hz3:=hbw.size
  have hbF:Below w.heap.size w wr:=hBw.trans (hbw.mono (by omega))
  have hb0:Below nz w wr:=hbF.mono hn
  have y0:=(hbw.cell (p:=⟨w.heap.size,0,none⟩) (by show w.heap.size<_;omega)).trans t0
  have y1:=(hbw.cell (p:=⟨w.heap.size,1,none⟩) (by show w.heap.size<_;omega)).trans t1
  by_cases hlt:j<kids.length
  ·rcases hsl.2.2 with h|⟨kb,koff,rfl,hbn,hrow⟩
   ·subst h;simp at hlt
   have hbn2:kb<wr.heap.size:=by omega
   have hj2:j<2:=by omega
   have hj2i:(j:Int)<2:=by omega
   have HD:=hid (Ex.terL_drop p.mons kids j hlt)
   have hrj:=hrow.below hb0 hbn
   have hq:=h21 _ (List.getElem_mem hlt) (wr.alloc (.cells (kids[j]).cells.toArray 48)) (hbF.al qaa _)
   have HPO:=hid (Ex.ter_pos p.mons kids[j])
   have HPN:Hid (∀ki,kids[j].is p.mons=ki->∀k (h:k<kids.length),k<j+1->(cs.setIfInBounds j (.int .i64 ki))[k]?=some (.int .i64 (kids[k].is p.mons))):=λki hki k h hk=>by
    by_cases e:k=j
    ·subst e;rw[Array.getElem?_setIfInBounds_self_of_lt (by omega),hki]
    ·rw[Array.getElem?_setIfInBounds_ne (by omega)];exact HP.out k h (by omega)
   obtain⟨ki,hki⟩:∃ki,kids[j].is p.mons=ki:=⟨_,rfl⟩
   have HPN2:=hid (HPN.out ki hki)
   obtain⟨u,hu⟩:∃u,kids[j].ter p.mons=u:=⟨_,rfl⟩
   rw[hu] at HPO
   rw[hu] at HD
   rw[hu,hki] at hq
   clear hu hki HPN
   have z0:∀o,(wr.alloc o).cell? ⟨w.heap.size,0,none⟩=_:=λo=>(((Below.refl _ wr).al qaa o).cell (p:=⟨w.heap.size,0,none⟩) (by show w.heap.size<_;omega)).trans y0
   have z1:∀o,(wr.alloc o).cell? ⟨w.heap.size,1,none⟩=_:=λo=>(((Below.refl _ wr).al qaa o).cell (p:=⟨w.heap.size,1,none⟩) (by show w.heap.size<_;omega)).trans y1
   rcases he':kids[j] with ⟨op',ai',name',n',ad',cap',am',pos'⟩
   obtain⟨c0,c1,c2,c3,c4,c5⟩:=qkt hrj j hlt (by rw[he'];rfl)
   simp only[he',Ex.cells] at hq
   clear he' h21
   rcases u with _|⟨c,a⟩
   ·have hq:=TyBack.no hq rfl
    obtain⟨v,hv⟩:∃v,cs[j]?=some v:=⟨cs[j],by rw[Array.getElem?_eq_getElem (by omega)]⟩
    have HV:=hid hv
    clear hv
    go_wp2_with (go_at_call 129;(with_reducible refine hq.mono ?_);rintro r u1 ⟨rfl,bb1⟩;have bA2:=(bb1.block (w.heap.size+2) (by simp;omega)).trans ((((Below.refl _ wr).al qaa _).block (w.heap.size+2) (by omega)).trans bA1);have f2:=qat bA2 j;have g2:=(cellOf bA2 j).trans HV.out)
    have hs1:=bb1.size
    go_roundw
    case rel=>exact⟨j+1,cs.setIfInBounds j (.int .i64 ki),by omega,by go_num,by simpa using hcs,heap_setCell_same u1 _ j cs 222 _ bA2,HPN2,by show _=_;rw[HQ.out,HD.out];rfl,((hbw.al (by omega) _).trans (bb1.mono (by simp;omega))).setCell (p:=⟨w.heap.size+2,j,none⟩) (by show w.heap.size+2<=w.heap.size+2;omega) _⟩
    case measure=>simp[intOf];omega
   ·have hq:=TyBack.yes hq rfl
    have hcb:(c != 0)=true:=by rw[bne_iff_ne];rcases HPO.out c a rfl with rfl|rfl <;> decide
    go_wp2_with (go_at_call 129;(with_reducible refine hq.mono ?_);rintro r u1 ⟨rfl,bb1⟩)
    go_ret3
    exact qc0 hcb (by rw[HU.out,HQ.out,HD.out];rfl) ((hbF.al qaa _).tr qaa bb1)
  ·have hjd:decide ((j:Int)<(kids.length:Int))=false:=by simp;omega
   obtain rfl:j=kids.length:=by omega
   have HT:Hid (Ex.terL p.mons kids=none):=by show _=_;rw[HQ.out,Ex.terL_end _ _ _ (by omega)]
   clear h21 HQ y0 y1
   obtain⟨W2,hW2⟩:∃W2,wr=W2:=⟨_,rfl⟩
   subst hW2
   have HP2:Hid (∀k (h:k<kids.length),wr.cell? ⟨w.heap.size+2,k,none⟩=some (.int .i64 (kids[k].is p.mons))):=λk h=>(cellOf bA1 k).trans (HP.out k h h)
   have y0:=(hbw.cell (p:=⟨w.heap.size+1,0,none⟩) (by show w.heap.size+1<_;omega)).trans x0
   have y4:=(hbw.cell (p:=⟨w.heap.size+1,4,none⟩) (by show w.heap.size+1<_;omega)).trans x4
   obtain⟨ru0,ru1⟩:=(hS.below hbF hs3).ru k hk2
   have hB2:=hbF
   clear HP hbF hb0 hbw t0 t1 x0 x4 bA hBw
   obtain⟨W2,hW2⟩:∃W2,wr=W2:=⟨_,rfl⟩
   rw[hW2] at bA1 HP2 y0 y4 ru0 ru1 hB2 hz3 ⊢
   clear hW2
   by_cases hal:qcd k=-1
   ·obtain⟨h0l,hwa⟩:=qrq p.mons k kids hk2 HKL'.out hal
    have g0:=HP2.out 0 h0l
    obtain⟨WANT,hWANT⟩:∃WANT,kids[0].is p.mons=WANT:=⟨_,rfl⟩
    rw[hWANT] at g0 hwa
    have HWANT:Hid (misfit p.mons (qgy p.mons (k:Int) kids) kids=misfit p.mons WANT kids):=by show _=_;rw[hwa]
    rw[hal] at ru1
    clear hWANT hwa hal ru0
    go_wp2
    go_loopw [70] (λi wr=>∃j:Nat,j<=kids.length/\i=.int .i64 j/\Hid (misfit p.mons WANT kids=misfit p.mons WANT (kids.drop j))/\Below (w.heap.size+3) W2 wr)
     (λi _=>kids.length-(intOf i).toNat)
    case atStart=>exact⟨0,by omega,rfl,rfl,Below.refl _ _⟩
    case round =>
     obtain⟨j,hj,rfl,HQ,hbw⟩:=hrel
     have hz3:=hbw.size
     have hbF:Below w.heap.size w wr:=hB2.trans (hbw.mono (by omega))
     have hb0:Below nz w wr:=hbF.mono hn
     by_cases hlt:j<kids.length
     ·rcases hsl.2.2 with h|⟨kb,koff,rfl,hbn,hrow⟩
      ·subst h;simp at hlt
      have hbn2:kb<wr.heap.size:=by omega
      have hj2:j<2:=by omega
      have hj2i:(j:Int)<2:=by omega
      have HD:=hid (qh5 p.mons WANT kids j hlt)
      have hrj:=hrow.below hb0 hbn
      have hpj:=(hbw.cell (p:=⟨w.heap.size+2,j,none⟩) (by show w.heap.size+2<_;omega)).trans (HP2.out j hlt)
      have hpj2:=λo=>(((Below.refl _ wr).al qaa o).cell (p:=⟨w.heap.size+2,j,none⟩) (by show w.heap.size+2<_;omega)).trans hpj
      obtain⟨ki,hki⟩:∃ki,kids[j].is p.mons=ki:=⟨_,rfl⟩
      rw[hki] at HD
      rw[hki] at hpj
      simp only[hki] at hpj2
      clear hki
      rcases he':kids[j] with ⟨op',ai',name',n',ad',cap',am',pos'⟩
      obtain⟨c0,c1,c2,c3,c4,c5⟩:=qkt hrj j hlt (by rw[he'];rfl)
      rw[he'] at HD
      simp only[Ex.pos] at HD
      clear he'
      by_cases hkw:ki=WANT
      ·have HD2:=hid (HD.out.trans (if_pos hkw))
       subst hkw
       clear HD
       go_wp2
       go_roundw
       case rel=>exact⟨j+1,by omega,by go_num,by show _=_;rw[HQ.out,HD2.out],hbw.al (by omega) _⟩
       case measure=>simp[intOf];omega
      ·have hkb:(ki != WANT)=true:=by rw[bne_iff_ne];exact hkw
       have HD2:=hid (HD.out.trans (if_neg hkw))
       clear HD hkw
       go_upto_region 22 with fail
       go_quiet (fail)
       go_wp2
       go_ret3
       have hbf:=hbF.al qaa (.cells #[.int .i64 op',.string ai',.string name',.int .i64 n',.slice ad' am'.length cap',.int .i64 pos'] 48)
       exact qc0 rfl (by rw[HU.out,HT.out,HWANT.out,HQ.out,HD2.out];rfl) ⟨hbf.os,hbf.tape,hbf.output,hbf.size,hbf.block⟩
     ·have hjd:decide ((j:Int)<(kids.length:Int))=false:=by simp;omega
      have q0:=(hbw.cell (p:=⟨w.heap.size+1,0,none⟩) (by show w.heap.size+1<_;omega)).trans y0
      obtain⟨ru0,-⟩:=(hS.below hbF hs3).ru k hk2
      go_wp2
      go_ret3
      have HR:Hid (Ex.is p.mons (.mk (k:Int) mon name n ad cap kids pos)=qv2 k):=hid (qta p.mons k mon name n ad cap kids pos hk1 hk4)
      rw[HR.out]
      exact qf2 (by rw[HU.out,HT.out,HWANT.out,HQ.out,qjb _ _ _ _ (by omega)];rfl) hbF
   ·have HWANT:=hid (qvr p.mons k kids hk1 hk2 HKL'.out hal)
    have ay':(qcd k==-1)=false:=by rw[beq_eq_false_iff_ne];exact hal
    obtain⟨WANT,hWANT⟩:∃WANT,qcd k=WANT:=⟨_,rfl⟩
    rw[hWANT] at ru1 ay'
    rw[hWANT] at HWANT
    clear hWANT hal ru0
    go_wp2
    go_loopw [70] (λi wr=>∃j:Nat,j<=kids.length/\i=.int .i64 j/\Hid (misfit p.mons WANT kids=misfit p.mons WANT (kids.drop j))/\Below (w.heap.size+3) W2 wr)
     (λi _=>kids.length-(intOf i).toNat)
    case atStart=>exact⟨0,by omega,rfl,rfl,Below.refl _ _⟩
    case round =>
     obtain⟨j,hj,rfl,HQ,hbw⟩:=hrel
     have hz3:=hbw.size
     have hbF:Below w.heap.size w wr:=hB2.trans (hbw.mono (by omega))
     have hb0:Below nz w wr:=hbF.mono hn
     by_cases hlt:j<kids.length
     ·rcases hsl.2.2 with h|⟨kb,koff,rfl,hbn,hrow⟩
      ·subst h;simp at hlt
      have hbn2:kb<wr.heap.size:=by omega
      have hj2:j<2:=by omega
      have hj2i:(j:Int)<2:=by omega
      have HD:=hid (qh5 p.mons WANT kids j hlt)
      have hrj:=hrow.below hb0 hbn
      have hpj:=(hbw.cell (p:=⟨w.heap.size+2,j,none⟩) (by show w.heap.size+2<_;omega)).trans (HP2.out j hlt)
      have hpj2:=λo=>(((Below.refl _ wr).al qaa o).cell (p:=⟨w.heap.size+2,j,none⟩) (by show w.heap.size+2<_;omega)).trans hpj
      obtain⟨ki,hki⟩:∃ki,kids[j].is p.mons=ki:=⟨_,rfl⟩
      rw[hki] at HD
      rw[hki] at hpj
      simp only[hki] at hpj2
      clear hki
      rcases he':kids[j] with ⟨op',ai',name',n',ad',cap',am',pos'⟩
      obtain⟨c0,c1,c2,c3,c4,c5⟩:=qkt hrj j hlt (by rw[he'];rfl)
      rw[he'] at HD
      simp only[Ex.pos] at HD
      clear he'
      by_cases hkw:ki=WANT
      ·have HD2:=hid (HD.out.trans (if_pos hkw))
       subst hkw
       clear HD
       go_wp2
       go_roundw
       case rel=>exact⟨j+1,by omega,by go_num,by show _=_;rw[HQ.out,HD2.out],hbw.al (by omega) _⟩
       case measure=>simp[intOf];omega
      ·have hkb:(ki != WANT)=true:=by rw[bne_iff_ne];exact hkw
       have HD2:=hid (HD.out.trans (if_neg hkw))
       clear HD hkw
       go_upto_region 22 with fail
       go_quiet (fail)
       go_wp2
       go_ret3
       have hbf:=hbF.al qaa (.cells #[.int .i64 op',.string ai',.string name',.int .i64 n',.slice ad' am'.length cap',.int .i64 pos'] 48)
       exact qc0 rfl (by rw[HU.out,HT.out,HWANT.out,HQ.out,HD2.out];rfl) ⟨hbf.os,hbf.tape,hbf.output,hbf.size,hbf.block⟩
     ·have hjd:decide ((j:Int)<(kids.length:Int))=false:=by simp;omega
      have q0:=(hbw.cell (p:=⟨w.heap.size+1,0,none⟩) (by show w.heap.size+1<_;omega)).trans y0
      obtain⟨ru0,-⟩:=(hS.below hbF hs3).ru k hk2
      go_wp2
      go_ret3
      have HR:Hid (Ex.is p.mons (.mk (k:Int) mon name n ad cap kids pos)=qv2 k):=hid (qta p.mons k mon name n ad cap kids pos hk1 hk4)
      rw[HR.out]
      exact qf2 (by rw[HU.out,HT.out,HWANT.out,HQ.out,qjb _ _ _ _ (by omega)];rfl) hbF
theorem qyh (p:Pr) (hvs:qcj p.mons<=1000000) (e:Ex) (nz:Nat) (w:World) (hn:nz<=w.heap.size) (hp:p.Is nz w) (he:e.Is nz w) (hS:Shapes w) :
  Calls Tryz.prog 111 #[p.val,e.val] w λr w'=>TyBack (e.is p.mons) (e.tero p.mons) w w' r:=by
 have hs3:=hS.size
 have h20:∀W,Below w.heap.size w W->Calls Tryz.prog 128 #[e.val] W λr w'=>r=.returned (.int .i64 (if e.ok then 0 else 20))/\Below W.heap.size W w':=λW hW=>qfk e nz W (by have:=hW.size;omega) (he.below (hW.mono hn)) (hS.below hW hs3)
 have h21:e.ok=true->∀W,Below w.heap.size w W->Calls Tryz.prog 129 #[p.val,e.val] W λr w'=>TyBack (e.is p.mons) (e.ter p.mons) W w' r:=λhok W hW=>qro p hvs e nz W (by have:=hW.size;omega) (hp.below (hW.mono hn)) (he.below (hW.mono hn)) (hS.below hW hs3) hok
 have HPO:=hid (Ex.ter_pos p.mons e)
 have HTE:Hid (e.tero p.mons=if e.ok then e.ter p.mons else some (20,0)):=by show _=_;rw[Ex.tero]
 obtain⟨ok,hok⟩:∃ok,e.ok=ok:=⟨_,rfl⟩
 obtain⟨is,his⟩:∃is,e.is p.mons=is:=⟨_,rfl⟩
 obtain⟨u,hu⟩:∃u,e.ter p.mons=u:=⟨_,rfl⟩
 obtain⟨T,hT⟩:∃T,e.tero p.mons=T:=⟨_,rfl⟩
 rw[hT,hok,hu] at HTE
 rw[hu] at HPO
 rw[hT,his]
 simp only[hok,his,hu] at h20 h21
 clear hok his hu hT
 rcases p with ⟨mad,mcap,mons,rad,rcap,roles⟩
 rcases e with ⟨op,mon,name,n,ad,cap,kids,pos⟩
 simp only[Pr.val,Ex.val,Ex.cells] at h20 h21 ⊢
 clear hp he hvs
 go_enter Tryz.func111,Tryz.ntmps111
 go_upto_region 1 with fail
 obtain⟨bP,bE,hB,hz⟩:=qch w #[.slice mad mons.length mcap,.slice rad roles.length rcap] #[.int .i64 op,.string mon,.string name,.int .i64 n,.slice ad kids.length cap,.int .i64 pos] 25 48
 obtain⟨W0,hW0⟩:∃W0,(w.alloc (.cells #[.slice mad mons.length mcap,.slice rad roles.length rcap] 25)).alloc (.cells #[.int .i64 op,.string mon,.string name,.int .i64 n,.slice ad kids.length cap,.int .i64 pos] 48)=W0:=⟨_,rfl⟩
 rw[hW0] at bP bE hB hz ⊢
 clear hW0
 have r0:=cellOf bP 0
 have r1:=cellOf bP 1
 have s0:=cellOf bE 0
 have s1:=cellOf bE 1
 have s2:=cellOf bE 2
 have s3:=cellOf bE 3
 have s4:=cellOf bE 4
 have s5:=cellOf bE 5
 simp at r0 r1 s0 s1 s2 s3 s4 s5
 have HZ:=hid hz
 clear hz bP bE
 have hq:=h20 W0 hB
 clear h20
 cases ok
 ·have HT:Hid (T=some (20,0)):=hid (HTE.out.trans (if_neg (by simp)))
  go_wp2_with (go_at_call 128;(with_reducible refine hq.mono ?_);rintro r u1 ⟨rfl,bb1⟩)
  go_ret3
  exact qc0 rfl HT.out (hB.tr qaa bb1)
 ·have HT:Hid (T=u):=hid (HTE.out.trans (if_pos rfl))
  have hq21:=h21 rfl
  clear h21
  rcases u with _|⟨c,a⟩
  ·go_wp2_with (first
    | (go_at_call 128;(with_reducible refine hq.mono ?_);rintro r u1 ⟨rfl,bb1⟩;have hz1:=bb1.size;have hz0:=HZ.out;have x0:=(bb1.cell (p:=⟨w.heap.size,0,none⟩) (by show w.heap.size<_;omega)).trans r0;have x1:=(bb1.cell (p:=⟨w.heap.size,1,none⟩) (by show w.heap.size<_;omega)).trans r1;have y0:=(bb1.cell (p:=⟨w.heap.size+1,0,none⟩) (by show w.heap.size+1<_;omega)).trans s0;have y1:=(bb1.cell (p:=⟨w.heap.size+1,1,none⟩) (by show w.heap.size+1<_;omega)).trans s1;have y2:=(bb1.cell (p:=⟨w.heap.size+1,2,none⟩) (by show w.heap.size+1<_;omega)).trans s2;have y3:=(bb1.cell (p:=⟨w.heap.size+1,3,none⟩) (by show w.heap.size+1<_;omega)).trans s3;have y4:=(bb1.cell (p:=⟨w.heap.size+1,4,none⟩) (by show w.heap.size+1<_;omega)).trans s4;have y5:=(bb1.cell (p:=⟨w.heap.size+1,5,none⟩) (by show w.heap.size+1<_;omega)).trans s5;clear hz0;have hq2:=TyBack.no (hq21 u1 (hB.tr qaa bb1)) rfl)
    | (go_at_call 129;(with_reducible refine hq2.mono ?_);rintro r u2 ⟨rfl,bb2⟩))
   go_ret3
   exact qf2 HT.out ((hB.tr qaa bb1).tr qaa bb2)
  ·have hcb:(c != 0)=true:=by rw[bne_iff_ne];rcases HPO.out c a rfl with rfl|rfl <;> decide
   go_wp2_with (first
    | (go_at_call 128;(with_reducible refine hq.mono ?_);rintro r u1 ⟨rfl,bb1⟩;have hz1:=bb1.size;have hz0:=HZ.out;have x0:=(bb1.cell (p:=⟨w.heap.size,0,none⟩) (by show w.heap.size<_;omega)).trans r0;have x1:=(bb1.cell (p:=⟨w.heap.size,1,none⟩) (by show w.heap.size<_;omega)).trans r1;have y0:=(bb1.cell (p:=⟨w.heap.size+1,0,none⟩) (by show w.heap.size+1<_;omega)).trans s0;have y1:=(bb1.cell (p:=⟨w.heap.size+1,1,none⟩) (by show w.heap.size+1<_;omega)).trans s1;have y2:=(bb1.cell (p:=⟨w.heap.size+1,2,none⟩) (by show w.heap.size+1<_;omega)).trans s2;have y3:=(bb1.cell (p:=⟨w.heap.size+1,3,none⟩) (by show w.heap.size+1<_;omega)).trans s3;have y4:=(bb1.cell (p:=⟨w.heap.size+1,4,none⟩) (by show w.heap.size+1<_;omega)).trans s4;have y5:=(bb1.cell (p:=⟨w.heap.size+1,5,none⟩) (by show w.heap.size+1<_;omega)).trans s5;clear hz0;have hq2:=TyBack.yes (hq21 u1 (hB.tr qaa bb1)) rfl)
    | (go_at_call 129;(with_reducible refine hq2.mono ?_);rintro r u2 ⟨rfl,bb2⟩))
   go_ret3
   exact qc0 hcb HT.out ((hB.tr qaa bb1).tr qaa bb2)
open Go.RowKit
theorem RoleBack.yes2 {f:FuncId}{args:Array Value}{o:Option (Int × Int)}{w:World}(h:Calls Tryz.prog f args w λr w'=>RoleBack o w w' r) {c a:Int}(ho:o=some (c,a)):Calls Tryz.prog f args w λr w'=>r=.returned (.tuple #[.int .i64 c,.int .i64 a])/\(c != 0)=true/\Below w.heap.size w w':=
 h.mono λr w' hh=>by
  rcases hh.1 with ⟨h1,_⟩|⟨c',a',h0,h1,h2⟩
  ·rw[ho] at h1;cases h1
  ·rw[ho] at h1;cases h1;exact⟨h2,by rw[bne_iff_ne];exact h0,hh.2⟩
theorem qeb {o:Option (Int × Int)}{w w':World}(h:o=none) (hb:Below w.heap.size w w'):RoleBack o w w' (.returned (.tuple #[.int .i64 0,.int .i64 0])):=⟨.inl ⟨h,rfl⟩,hb⟩
theorem qbv {o:Option (Int × Int)}{w w':World}{c a:Int}(hc:(c != 0)=true) (h:o=some (c,a)) (hb:Below w.heap.size w w'):RoleBack o w w' (.returned (.tuple #[.int .i64 c,.int .i64 a])):=⟨.inr ⟨c,a,(by rw[bne_iff_ne] at hc;exact hc),h,rfl⟩,hb⟩
theorem qjn {o:Option Int}{w w':World}(h:o=none) (hb:Below w.heap.size w w'):VarBack o w w' (.returned (.tuple #[.int .i64 0,.bool false])):=⟨.inl ⟨h,rfl⟩,hb⟩
theorem qff {o:Option Int}{w w':World}{t:Int}(ht:t=1\/t=2) (h:o=some t) (hb:Below w.heap.size w w'):VarBack o w w' (.returned (.tuple #[.int .i64 t,.bool true])):=⟨.inr ⟨t,ht,h,rfl⟩,hb⟩
theorem qvm {l:List Mo}{mon name:ByteArray}{t:Int}(h:qei l mon name=some t):t=1\/t=2:=by
 cases hs:qcs l mon name with
 | none=>rw[qjo hs] at h;cases h
 | some s =>
  obtain⟨t',h1,h2⟩:=qrp hs
  rw[h] at h1;cases h1;exact h2
theorem qvs (p:Pr) (hvs:qcj p.mons<=1000000) (kind:Int) (mon name:ByteArray) (n:Int) (e:Ex) (ad:Option Addr) (cap:Nat) (blocks:List Bl) (pos:Int) (nz:Nat) (w:World) (hn:nz<=w.heap.size) (hp:p.Is nz w) :
  Calls Tryz.prog 110 #[p.val,(St.mk kind mon name n e ad cap blocks pos).val] w λr w'=>VarBack (qjk p.mons kind mon name) w w' r:=by
 have h35:∀W,Below w.heap.size w W->Calls Tryz.prog 127 #[p.val,.string mon,.string name] W λr w'=>VarBack (qei p.mons mon name) W w' r:=λW hW=>qgx p mon name nz W (by have:=hW.size;omega) (hp.below (hW.mono hn)) hvs
 have HS:Hid (qjk p.mons kind mon name=if kind=2 then qei p.mons mon name else if kind=3\/kind=4 then some 1 else none):=rfl
 obtain⟨pad,hpad⟩:∃a,p.mad=a:=⟨_,rfl⟩
 obtain⟨pml,hpml⟩:∃a,p.mons.length=a:=⟨_,rfl⟩
 obtain⟨pmc,hpmc⟩:∃a,p.mcap=a:=⟨_,rfl⟩
 obtain⟨prd,hprd⟩:∃a,p.rad=a:=⟨_,rfl⟩
 obtain⟨prl,hprl⟩:∃a,p.roles.length=a:=⟨_,rfl⟩
 obtain⟨prc,hprc⟩:∃a,p.rcap=a:=⟨_,rfl⟩
 simp only[Pr.val,hpad,hpml,hpmc,hprd,hprl,hprc] at h35 ⊢
 clear hpad hpml hpmc hprd hprl hprc hp
 rcases e with ⟨eop,emon,ename,en,ead,ecap,ekids,epos⟩
 simp only[St.val,St.cells,Ex.cells,List.cons_append,List.nil_append]
 go_enter Tryz.func110,Tryz.ntmps110
 go_upto_region 1 with fail
 obtain⟨bR,bX,hB,hz⟩:=qch w #[.slice pad pml pmc,.slice prd prl prc] #[.int .i64 kind,.string mon,.string name,.int .i64 n,.int .i64 eop,.string emon,.string ename,.int .i64 en,.slice ead ekids.length ecap,.int .i64 epos,.slice ad blocks.length cap,.int .i64 pos] 25 86
 obtain⟨W0,hW0⟩:∃W0,(w.alloc (.cells #[.slice pad pml pmc,.slice prd prl prc] 25)).alloc (.cells #[.int .i64 kind,.string mon,.string name,.int .i64 n,.int .i64 eop,.string emon,.string ename,.int .i64 en,.slice ead ekids.length ecap,.int .i64 epos,.slice ad blocks.length cap,.int .i64 pos] 86)=W0:=⟨_,rfl⟩
 rw[hW0] at bR bX hB hz ⊢
 clear hW0
 have r0:=cellOf bR 0
 have r1:=cellOf bR 1
 have s0:=cellOf bX 0
 have s1:=cellOf bX 1
 have s2:=cellOf bX 2
 simp at r0 r1 s0 s1 s2
 clear hz bR bX
 by_cases k2:kind=2
 ·subst k2
  have HS2:=hid (HS.out.trans (if_pos rfl))
  have hq:=h35 W0 hB
  clear h35
  rcases hv:qei p.mons mon name with _|t
  ·have hq:=VarBack.no hq hv
   have HS3:=hid (HS2.out.trans hv)
   clear hv HS2 HS
   go_wp2_with (go_at_call 127;(with_reducible refine hq.mono ?_);rintro r u1 ⟨rfl,bb1⟩)
   go_ret2
   exact qjn HS3.out (hB.tr qaa bb1)
  ·have hq:=VarBack.yes hq hv
   have HT:=hid (qvm hv)
   have HS3:=hid (HS2.out.trans hv)
   clear hv HS2 HS
   go_wp2_with (go_at_call 127;(with_reducible refine hq.mono ?_);rintro r u1 ⟨rfl,bb1⟩)
   go_ret2
   exact qff HT.out HS3.out (hB.tr qaa bb1)
 have k2':(kind==2)=false:=by rw[beq_eq_false_iff_ne];exact k2
 have HS2:=hid (HS.out.trans (if_neg k2))
 clear HS h35
 by_cases k3:kind=3
 ·subst k3
  clear k2
  go_wp2
  go_ret2
  exact qff (.inl rfl) HS2.out hB
 have k3':(kind==3)=false:=by rw[beq_eq_false_iff_ne];exact k3
 by_cases k4:kind=4
 ·subst k4
  clear k2 k3
  go_wp2
  go_ret2
  exact qff (.inl rfl) HS2.out hB
 have k4':(kind==4)=false:=by rw[beq_eq_false_iff_ne];exact k4
 have HS3:=hid (HS2.out.trans (if_neg (by simp;exact⟨k3,k4⟩)))
 clear k2 k3 k4 HS2
 go_wp2
 go_ret2
 exact qjn HS3.out hB
def qC0 (p:Pr) (s:St):Prop:=∀(nz:Nat) (w:World),nz<=w.heap.size->p.Is nz w->s.Is nz w->Shapes w->Calls Tryz.prog 83 #[p.val,s.val] w λr w'=>RoleBack (s.tyc p.mons) w w' r
def qCx (p:Pr) (x:Bl):Prop:=∀(nz:Nat) (w:World),nz<=w.heap.size->p.Is nz w->x.Is nz w->Shapes w->Calls Tryz.prog 54 #[p.val,x.slice] w λr w'=>RoleBack (x.tyc p.mons) w w' r
theorem qmn (p:Pr) (ad:Option Addr) (cap:Nat) (body:List St) (ih:∀s∈body,qC0 p s):qCx p (.mk ad cap body):=by
 intro nz w hn hp hI hS
 have hs3:=hS.size
 have HU:=hid (Bl.tyc_mk p.mons ad cap body)
 have hIk:=hI.down.2
 have hsl:=hI.down.1
 have hl1:=hsl.1;have hl2:=hsl.2.1
 unfold maxLen at hl2
 have h45:∀x∈body,∀W,Below w.heap.size w W->Calls Tryz.prog 83 #[p.val,x.val] W λr w'=>RoleBack (x.tyc p.mons) W w' r:=λx hx W hW=>ih x hx nz W (by have:=hW.size;omega) (hp.below (hW.mono hn)) ((hIk x hx).below (hW.mono hn)) (hS.below hW hs3)
 clear ih hIk hI
 obtain⟨pad,hpad⟩:∃a,p.mad=a:=⟨_,rfl⟩
 obtain⟨pml,hpml⟩:∃a,p.mons.length=a:=⟨_,rfl⟩
 obtain⟨pmc,hpmc⟩:∃a,p.mcap=a:=⟨_,rfl⟩
 obtain⟨prd,hprd⟩:∃a,p.rad=a:=⟨_,rfl⟩
 obtain⟨prl,hprl⟩:∃a,p.roles.length=a:=⟨_,rfl⟩
 obtain⟨prc,hprc⟩:∃a,p.rcap=a:=⟨_,rfl⟩
 simp only[Pr.val,hpad,hpml,hpmc,hprd,hprl,hprc] at h45 ⊢
 clear hpad hpml hpmc hprd hprl hprc hp
 simp only[Bl.slice]
 go_enter Tryz.func54,Tryz.ntmps54
 go_upto_region 1 with fail
 obtain⟨bR,hB,hz⟩:=qal w #[.slice pad pml pmc,.slice prd prl prc] 25
 obtain⟨W0,hW0⟩:∃W0,w.alloc (.cells #[.slice pad pml pmc,.slice prd prl prc] 25)=W0:=⟨_,rfl⟩
 rw[hW0] at bR hB hz ⊢
 clear hW0
 have r0:=cellOf bR 0
 have r1:=cellOf bR 1
 simp at r0 r1
 have HZ:=hid hz
 clear hz bR
 go_wp2
 go_loopw [12] (λi wr=>∃j:Nat,j<=body.length/\i=.int .i64 j/\Hid (St.tycL p.mons body=St.tycL p.mons (body.drop j))/\Below W0.heap.size W0 wr)
  (λi _=>body.length-(intOf i).toNat)
 case atStart=>exact⟨0,by omega,rfl,rfl,Below.refl _ _⟩
 case round =>
  obtain⟨j,hj,rfl,HQ,hbw⟩:=hrel
  have hz1:=hbw.size
  have hz0:=HZ.out
  have hbF:Below w.heap.size w wr:=hB.trans (hbw.mono (by omega))
  have hb0:Below nz w wr:=hbF.mono hn
  by_cases hlt:j<body.length
  ·rcases hsl.2.2 with h|⟨kb,koff,rfl,hbn,hrow⟩
   ·subst h;simp at hlt
   have hbn2:kb<wr.heap.size:=by omega
   have HD:=hid (St.tycL_drop p.mons body j hlt)
   have hrj:=hrow.below hb0 hbn
   have hq:=h45 _ (List.getElem_mem hlt) (wr.alloc (.cells (body[j]).cells.toArray 86)) (hbF.al qaa _)
   obtain⟨u,hu⟩:∃u,body[j].tyc p.mons=u:=⟨_,rfl⟩
   rw[hu] at hq HD
   clear hu
   have x0:∀o,(wr.alloc o).cell? ⟨w.heap.size,0,none⟩=_:=λo=>(((Below.refl _ wr).al qaa o).cell (p:=⟨w.heap.size,0,none⟩) (by show w.heap.size<_;omega)).trans ((hbw.cell (p:=⟨w.heap.size,0,none⟩) (by show w.heap.size<_;omega)).trans r0)
   have x1:∀o,(wr.alloc o).cell? ⟨w.heap.size,1,none⟩=_:=λo=>(((Below.refl _ wr).al qaa o).cell (p:=⟨w.heap.size,1,none⟩) (by show w.heap.size<_;omega)).trans ((hbw.cell (p:=⟨w.heap.size,1,none⟩) (by show w.heap.size<_;omega)).trans r1)
   rcases he':body[j] with ⟨kind',ai',name',n',⟨aj',ag',ac',en',ah',af',ab',ae'⟩,ad',cap',aa',pos'⟩
   obtain⟨c0,c1,c2,c3,c4,c5,c6,c7,c8,c9,c10,c11⟩:=qiz hrj j hlt (by rw[he'];rfl)
   simp only[he',St.val,St.cells,Ex.cells,List.cons_append,List.nil_append] at hq
   clear he' h45
   rcases u with _|⟨c,a⟩
   ·have hq:=RoleBack.no hq rfl
    go_wp2_with (go_at_call 83;(with_reducible refine hq.mono ?_);rintro r w1 ⟨rfl,hb1⟩)
    go_roundw
    case rel=>exact⟨j+1,by omega,by go_num,by show _=_;rw[HQ.out,HD.out];rfl,(hbw.al qaa _).tr qaa hb1⟩
    case measure=>simp[intOf];omega
   ·have hq:=RoleBack.yes2 hq rfl
    go_wp2_with (go_at_call 83;(with_reducible refine hq.mono ?_);rintro r w1 ⟨rfl,hcb,hb1⟩)
    go_ret2
    exact qbv hcb (by rw[HU.out,HQ.out,HD.out];rfl) ((hbF.al qaa _).tr qaa hb1)
  ·have hjd:decide ((j:Int)<(body.length:Int))=false:=by simp;omega
   go_wp2
   go_ret2
   exact qeb (by rw[HU.out,HQ.out,St.tycL_end _ _ _ (by omega)]) hbF
theorem qoj (p:Pr) (hvs:qcj p.mons<=1000000) (kind:Int) (mon name:ByteArray) (n:Int) (e:Ex) (ad:Option Addr) (cap:Nat) (blocks:List Bl) (pos:Int) (ih:∀x∈blocks,qCx p x):qC0 p (.mk kind mon name n e ad cap blocks pos):=by
 intro nz w hn hp hI hS
 have hs3:=hS.size
 have HU:=hid (St.tyc_mk p.mons kind mon name n e ad cap blocks pos)
 have hIe:=hI.down.2.1
 have hIk:=hI.down.2.2.2
 have hsl:=hI.down.2.2.1
 have hl1:=hsl.1;have hl2:=hsl.2.1
 unfold maxLen at hl2
 have h66:∀W,Below w.heap.size w W->Calls Tryz.prog 110 #[p.val,(St.mk kind mon name n e ad cap blocks pos).val] W λr w'=>VarBack (qjk p.mons kind mon name) W w' r:=λW hW=>qvs p hvs kind mon name n e ad cap blocks pos nz W (by have:=hW.size;omega) (hp.below (hW.mono hn))
 have h11:∀W,Below w.heap.size w W->Calls Tryz.prog 111 #[p.val,e.val] W λr w'=>TyBack (e.is p.mons) (e.tero p.mons) W w' r:=λW hW=>qyh p hvs e nz W (by have:=hW.size;omega) (hp.below (hW.mono hn)) (hIe.below (hW.mono hn)) (hS.below hW hs3)
 have h26:∀x∈blocks,∀W,Below w.heap.size w W->Calls Tryz.prog 54 #[p.val,x.slice] W λr w'=>RoleBack (x.tyc p.mons) W w' r:=λx hx W hW=>ih x hx nz W (by have:=hW.size;omega) (hp.below (hW.mono hn)) ((hIk x hx).below (hW.mono hn)) (hS.below hW hs3)
 clear ih hIk hI hIe
 have HPO:=hid (Ex.tero_pos p.mons e)
 have HOW:Hid (qof p.mons kind mon name e=match qjk p.mons kind mon name with|none=>none|some t=>(e.tero p.mons).or (if e.is p.mons=t then none else some (70,e.pos))):=rfl
 obtain⟨wa,hwa⟩:∃wa,qjk p.mons kind mon name=wa:=⟨_,rfl⟩
 obtain⟨is,his⟩:∃is,e.is p.mons=is:=⟨_,rfl⟩
 obtain⟨te,hte⟩:∃te,e.tero p.mons=te:=⟨_,rfl⟩
 rw[hwa,his,hte] at HOW
 rw[hte] at HPO
 simp only[hwa,his,hte] at h66 h11
 clear hwa his hte
 obtain⟨pad,hpad⟩:∃a,p.mad=a:=⟨_,rfl⟩
 obtain⟨pml,hpml⟩:∃a,p.mons.length=a:=⟨_,rfl⟩
 obtain⟨pmc,hpmc⟩:∃a,p.mcap=a:=⟨_,rfl⟩
 obtain⟨prd,hprd⟩:∃a,p.rad=a:=⟨_,rfl⟩
 obtain⟨prl,hprl⟩:∃a,p.roles.length=a:=⟨_,rfl⟩
 obtain⟨prc,hprc⟩:∃a,p.rcap=a:=⟨_,rfl⟩
 simp only[Pr.val,hpad,hpml,hpmc,hprd,hprl,hprc] at h66 h11 h26 ⊢
 clear hpad hpml hpmc hprd hprl hprc hp
 rcases e with ⟨eop,emon,ename,en,ead,ecap,ekids,epos⟩
 simp only[Ex.pos] at HOW
 simp only[St.val,St.cells,Ex.val,Ex.cells,List.cons_append,List.nil_append] at h66 h11 ⊢
 go_enter Tryz.func83,Tryz.ntmps83
 go_upto_region 1 with fail
 obtain⟨bR,bX,hB,hz⟩:=qch w #[.slice pad pml pmc,.slice prd prl prc] #[.int .i64 kind,.string mon,.string name,.int .i64 n,.int .i64 eop,.string emon,.string ename,.int .i64 en,.slice ead ekids.length ecap,.int .i64 epos,.slice ad blocks.length cap,.int .i64 pos] 25 86
 obtain⟨W0,hW0⟩:∃W0,(w.alloc (.cells #[.slice pad pml pmc,.slice prd prl prc] 25)).alloc (.cells #[.int .i64 kind,.string mon,.string name,.int .i64 n,.int .i64 eop,.string emon,.string ename,.int .i64 en,.slice ead ekids.length ecap,.int .i64 epos,.slice ad blocks.length cap,.int .i64 pos] 86)=W0:=⟨_,rfl⟩
 rw[hW0] at bR bX hB hz ⊢
 clear hW0
 have r0:=cellOf bR 0
 have r1:=cellOf bR 1
 have s0:=cellOf bX 0
 have s1:=cellOf bX 1
 have s2:=cellOf bX 2
 have s3:=cellOf bX 3
 have s4:=cellOf bX 4
 have s5:=cellOf bX 5
 have s6:=cellOf bX 6
 have s7:=cellOf bX 7
 have s8:=cellOf bX 8
 have s9:=cellOf bX 9
 have s10:=cellOf bX 10
 have s11:=cellOf bX 11
 simp at r0 r1 s0 s1 s2 s3 s4 s5 s6 s7 s8 s9 s10 s11
 have HZ:=hid hz
 clear hz bX bR
 have hK:=h66 W0 hB
 rcases wa with _|t
 ·have hK:=VarBack.no hK rfl
  have HOWN:Hid (qof p.mons kind mon name (.mk eop emon ename en ead ecap ekids epos)=none):=HOW
  go_wp2_with (go_at_call 110;(with_reducible refine hK.mono ?_);rintro r u1 ⟨rfl,bb1⟩;have hz_bb1:=bb1.size;have x0:=(bb1.cell (p:=⟨w.heap.size,0,none⟩) (by show w.heap.size<_;have:=HZ.out;omega)).trans r0;have x1:=(bb1.cell (p:=⟨w.heap.size,1,none⟩) (by show w.heap.size<_;have:=HZ.out;omega)).trans r1;have y4:=(bb1.cell (p:=⟨w.heap.size+1,4,none⟩) (by show w.heap.size+1<_;have:=HZ.out;omega)).trans s4;have y5:=(bb1.cell (p:=⟨w.heap.size+1,5,none⟩) (by show w.heap.size+1<_;have:=HZ.out;omega)).trans s5;have y6:=(bb1.cell (p:=⟨w.heap.size+1,6,none⟩) (by show w.heap.size+1<_;have:=HZ.out;omega)).trans s6;have y7:=(bb1.cell (p:=⟨w.heap.size+1,7,none⟩) (by show w.heap.size+1<_;have:=HZ.out;omega)).trans s7;have y8:=(bb1.cell (p:=⟨w.heap.size+1,8,none⟩) (by show w.heap.size+1<_;have:=HZ.out;omega)).trans s8;have y9:=(bb1.cell (p:=⟨w.heap.size+1,9,none⟩) (by show w.heap.size+1<_;have:=HZ.out;omega)).trans s9;have y10:=(bb1.cell (p:=⟨w.heap.size+1,10,none⟩) (by show w.heap.size+1<_;have:=HZ.out;omega)).trans s10;have y11:=(bb1.cell (p:=⟨w.heap.size+1,11,none⟩) (by show w.heap.size+1<_;have:=HZ.out;omega)).trans s11)
  have hBu:Below W0.heap.size W0 u1:=bb1
  clear h66 h11
  go_loopw [43] (λi wr=>∃j:Nat,j<=blocks.length/\i=.int .i64 j/\Hid (Bl.tycL p.mons blocks=Bl.tycL p.mons (blocks.drop j))/\Below W0.heap.size W0 wr)
   (λi _=>blocks.length-(intOf i).toNat)
  case atStart=>exact⟨0,by omega,rfl,rfl,hBu⟩
  case round =>
   obtain⟨j,hj,rfl,HQ,hbw⟩:=hrel
   have hz3:=hbw.size
   have hz0:=HZ.out
   have hbF:Below w.heap.size w wr:=hB.trans (hbw.mono (by omega))
   have hb0:Below nz w wr:=hbF.mono hn
   by_cases hlt:j<blocks.length
   ·rcases hsl.2.2 with h|⟨kb,koff,rfl,hbn,hrow⟩
    ·subst h;simp at hlt
    have hbn2:kb<wr.heap.size:=by omega
    have HD:=hid (Bl.tycL_drop p.mons blocks j hlt)
    have hrj:=hrow.below hb0 hbn
    have hq:=h26 _ (List.getElem_mem hlt) wr hbF
    obtain⟨u,hu⟩:∃u,blocks[j].tyc p.mons=u:=⟨_,rfl⟩
    rw[hu] at hq HD
    clear hu
    have v0:=(hbw.cell (p:=⟨w.heap.size,0,none⟩) (by show w.heap.size<_;omega)).trans r0
    have v1:=(hbw.cell (p:=⟨w.heap.size,1,none⟩) (by show w.heap.size<_;omega)).trans r1
    rcases he':blocks[j] with ⟨bad,bcap,bbody⟩
    have c0:=hrj j hlt 0 (by omega)
    simp only[he',Bl.cells,Bl.slice,Nat.mul_one,Nat.add_zero,List.getElem?_cons_zero] at hq c0
    clear he' h26
    rcases u with _|⟨c,a⟩
    ·have hq:=RoleBack.no hq rfl
     go_wp2_with (go_at_call 54;(with_reducible refine hq.mono ?_);rintro r w1 ⟨rfl,hb1⟩)
     go_roundw
     case rel=>exact⟨j+1,by omega,by go_num,by show _=_;rw[HQ.out,HD.out];rfl,hbw.tr qaa hb1⟩
     case measure=>simp[intOf];omega
    ·have hq:=RoleBack.yes2 hq rfl
     go_wp2_with (go_at_call 54;(with_reducible refine hq.mono ?_);rintro r w1 ⟨rfl,hcb,hb1⟩)
     go_ret2
     exact qbv hcb (by rw[HU.out,HOWN.out,HQ.out,HD.out];rfl) (hbF.tr qaa hb1)
   ·have hjd:decide ((j:Int)<(blocks.length:Int))=false:=by simp;omega
    go_wp2
    go_ret2
    exact qeb (by rw[HU.out,HOWN.out,HQ.out,Bl.tycL_end _ _ _ (by omega)];rfl) hbF
 ·have hK:=VarBack.yes hK rfl
  rcases te with _|⟨c,a⟩
  ·by_cases hit:is=t
   ·have HOWN:Hid (qof p.mons kind mon name (.mk eop emon ename en ead ecap ekids epos)=none):=by
     show _=_
     rw[HOW.out];simp[hit]
    subst hit
    go_wp2_with (first
     | (go_at_call 110;(with_reducible refine hK.mono ?_);rintro r u1 ⟨rfl,bb1⟩;have hz_bb1:=bb1.size;have x0:=(bb1.cell (p:=⟨w.heap.size,0,none⟩) (by show w.heap.size<_;have:=HZ.out;omega)).trans r0;have x1:=(bb1.cell (p:=⟨w.heap.size,1,none⟩) (by show w.heap.size<_;have:=HZ.out;omega)).trans r1;have y4:=(bb1.cell (p:=⟨w.heap.size+1,4,none⟩) (by show w.heap.size+1<_;have:=HZ.out;omega)).trans s4;have y5:=(bb1.cell (p:=⟨w.heap.size+1,5,none⟩) (by show w.heap.size+1<_;have:=HZ.out;omega)).trans s5;have y6:=(bb1.cell (p:=⟨w.heap.size+1,6,none⟩) (by show w.heap.size+1<_;have:=HZ.out;omega)).trans s6;have y7:=(bb1.cell (p:=⟨w.heap.size+1,7,none⟩) (by show w.heap.size+1<_;have:=HZ.out;omega)).trans s7;have y8:=(bb1.cell (p:=⟨w.heap.size+1,8,none⟩) (by show w.heap.size+1<_;have:=HZ.out;omega)).trans s8;have y9:=(bb1.cell (p:=⟨w.heap.size+1,9,none⟩) (by show w.heap.size+1<_;have:=HZ.out;omega)).trans s9;have y10:=(bb1.cell (p:=⟨w.heap.size+1,10,none⟩) (by show w.heap.size+1<_;have:=HZ.out;omega)).trans s10;have y11:=(bb1.cell (p:=⟨w.heap.size+1,11,none⟩) (by show w.heap.size+1<_;have:=HZ.out;omega)).trans s11;have hE:=TyBack.no (h11 u1 (hB.tr qaa bb1)) rfl)
     | (go_at_call 111;(with_reducible refine hE.mono ?_);rintro r u2 ⟨rfl,bb2⟩;have hz_bb2:=bb2.size;have xx0:=(bb2.cell (p:=⟨w.heap.size,0,none⟩) (by show w.heap.size<_;have:=HZ.out;omega)).trans x0;have xx1:=(bb2.cell (p:=⟨w.heap.size,1,none⟩) (by show w.heap.size<_;have:=HZ.out;omega)).trans x1;have yy9:=(bb2.cell (p:=⟨w.heap.size+1,9,none⟩) (by show w.heap.size+1<_;have:=HZ.out;omega)).trans y9;have yy10:=(bb2.cell (p:=⟨w.heap.size+1,10,none⟩) (by show w.heap.size+1<_;have:=HZ.out;omega)).trans y10))
    have hBu:Below W0.heap.size W0 u2:=bb1.tr qaa bb2
    clear h66 h11
    go_loopw [43] (λi wr=>∃j:Nat,j<=blocks.length/\i=.int .i64 j/\Hid (Bl.tycL p.mons blocks=Bl.tycL p.mons (blocks.drop j))/\Below W0.heap.size W0 wr)
     (λi _=>blocks.length-(intOf i).toNat)
    case atStart=>exact⟨0,by omega,rfl,rfl,hBu⟩
    case round =>
     obtain⟨j,hj,rfl,HQ,hbw⟩:=hrel
     have hz3:=hbw.size
     have hz0:=HZ.out
     have hbF:Below w.heap.size w wr:=hB.trans (hbw.mono (by omega))
     have hb0:Below nz w wr:=hbF.mono hn
     by_cases hlt:j<blocks.length
     ·rcases hsl.2.2 with h|⟨kb,koff,rfl,hbn,hrow⟩
      ·subst h;simp at hlt
      have hbn2:kb<wr.heap.size:=by omega
      have HD:=hid (Bl.tycL_drop p.mons blocks j hlt)
      have hrj:=hrow.below hb0 hbn
      have hq:=h26 _ (List.getElem_mem hlt) wr hbF
      obtain⟨u,hu⟩:∃u,blocks[j].tyc p.mons=u:=⟨_,rfl⟩
      rw[hu] at hq HD
      clear hu
      have v0:=(hbw.cell (p:=⟨w.heap.size,0,none⟩) (by show w.heap.size<_;omega)).trans r0
      have v1:=(hbw.cell (p:=⟨w.heap.size,1,none⟩) (by show w.heap.size<_;omega)).trans r1
      rcases he':blocks[j] with ⟨bad,bcap,bbody⟩
      have c0:=hrj j hlt 0 (by omega)
      simp only[he',Bl.cells,Bl.slice,Nat.mul_one,Nat.add_zero,List.getElem?_cons_zero] at hq c0
      clear he' h26
      rcases u with _|⟨c,a⟩
      ·have hq:=RoleBack.no hq rfl
       go_wp2_with (go_at_call 54;(with_reducible refine hq.mono ?_);rintro r w1 ⟨rfl,hb1⟩)
       go_roundw
       case rel=>exact⟨j+1,by omega,by go_num,by show _=_;rw[HQ.out,HD.out];rfl,hbw.tr qaa hb1⟩
       case measure=>simp[intOf];omega
      ·have hq:=RoleBack.yes2 hq rfl
       go_wp2_with (go_at_call 54;(with_reducible refine hq.mono ?_);rintro r w1 ⟨rfl,hcb,hb1⟩)
       go_ret2
       exact qbv hcb (by rw[HU.out,HOWN.out,HQ.out,HD.out];rfl) (hbF.tr qaa hb1)
     ·have hjd:decide ((j:Int)<(blocks.length:Int))=false:=by simp;omega
      go_wp2
      go_ret2
      exact qeb (by rw[HU.out,HOWN.out,HQ.out,Bl.tycL_end _ _ _ (by omega)];rfl) hbF
   ·have hib:(is != t)=true:=by rw[bne_iff_ne];exact hit
    have HOWN:Hid (qof p.mons kind mon name (.mk eop emon ename en ead ecap ekids epos)=some (70,epos)):=by
     show _=_
     rw[HOW.out];simp[hit]
    clear hit HOW h26
    go_upto_region 7 with (first
     | (go_at_call 110;(with_reducible refine hK.mono ?_);rintro r u1 ⟨rfl,bb1⟩;have hz_bb1:=bb1.size;have x0:=(bb1.cell (p:=⟨w.heap.size,0,none⟩) (by show w.heap.size<_;have:=HZ.out;omega)).trans r0;have x1:=(bb1.cell (p:=⟨w.heap.size,1,none⟩) (by show w.heap.size<_;have:=HZ.out;omega)).trans r1;have y4:=(bb1.cell (p:=⟨w.heap.size+1,4,none⟩) (by show w.heap.size+1<_;have:=HZ.out;omega)).trans s4;have y5:=(bb1.cell (p:=⟨w.heap.size+1,5,none⟩) (by show w.heap.size+1<_;have:=HZ.out;omega)).trans s5;have y6:=(bb1.cell (p:=⟨w.heap.size+1,6,none⟩) (by show w.heap.size+1<_;have:=HZ.out;omega)).trans s6;have y7:=(bb1.cell (p:=⟨w.heap.size+1,7,none⟩) (by show w.heap.size+1<_;have:=HZ.out;omega)).trans s7;have y8:=(bb1.cell (p:=⟨w.heap.size+1,8,none⟩) (by show w.heap.size+1<_;have:=HZ.out;omega)).trans s8;have y9:=(bb1.cell (p:=⟨w.heap.size+1,9,none⟩) (by show w.heap.size+1<_;have:=HZ.out;omega)).trans s9;have y10:=(bb1.cell (p:=⟨w.heap.size+1,10,none⟩) (by show w.heap.size+1<_;have:=HZ.out;omega)).trans s10;have y11:=(bb1.cell (p:=⟨w.heap.size+1,11,none⟩) (by show w.heap.size+1<_;have:=HZ.out;omega)).trans s11;have hE:=TyBack.no (h11 u1 (hB.tr qaa bb1)) rfl)
     | (go_at_call 111;(with_reducible refine hE.mono ?_);rintro r u2 ⟨rfl,bb2⟩;have hz_bb2:=bb2.size;have xx0:=(bb2.cell (p:=⟨w.heap.size,0,none⟩) (by show w.heap.size<_;have:=HZ.out;omega)).trans x0;have xx1:=(bb2.cell (p:=⟨w.heap.size,1,none⟩) (by show w.heap.size<_;have:=HZ.out;omega)).trans x1;have yy9:=(bb2.cell (p:=⟨w.heap.size+1,9,none⟩) (by show w.heap.size+1<_;have:=HZ.out;omega)).trans y9;have yy10:=(bb2.cell (p:=⟨w.heap.size+1,10,none⟩) (by show w.heap.size+1<_;have:=HZ.out;omega)).trans y10))
    go_quiet (fail)
    go_wp2
    go_ret2
    have hbf:=(hB.tr qaa bb1).tr qaa bb2
    exact qbv rfl (by rw[HU.out,HOWN.out];rfl) ⟨hbf.os,hbf.tape,hbf.output,hbf.size,hbf.block⟩
  ·have hcb:(c != 0)=true:=by rw[bne_iff_ne];exact HPO.out c a rfl
   have HOWN:Hid (qof p.mons kind mon name (.mk eop emon ename en ead ecap ekids epos)=some (c,a)):=by
    show _=_
    rw[HOW.out];rfl
   clear HOW h26
   go_wp2_with (first
    | (go_at_call 110;(with_reducible refine hK.mono ?_);rintro r u1 ⟨rfl,bb1⟩;have hz_bb1:=bb1.size;have x0:=(bb1.cell (p:=⟨w.heap.size,0,none⟩) (by show w.heap.size<_;have:=HZ.out;omega)).trans r0;have x1:=(bb1.cell (p:=⟨w.heap.size,1,none⟩) (by show w.heap.size<_;have:=HZ.out;omega)).trans r1;have y4:=(bb1.cell (p:=⟨w.heap.size+1,4,none⟩) (by show w.heap.size+1<_;have:=HZ.out;omega)).trans s4;have y5:=(bb1.cell (p:=⟨w.heap.size+1,5,none⟩) (by show w.heap.size+1<_;have:=HZ.out;omega)).trans s5;have y6:=(bb1.cell (p:=⟨w.heap.size+1,6,none⟩) (by show w.heap.size+1<_;have:=HZ.out;omega)).trans s6;have y7:=(bb1.cell (p:=⟨w.heap.size+1,7,none⟩) (by show w.heap.size+1<_;have:=HZ.out;omega)).trans s7;have y8:=(bb1.cell (p:=⟨w.heap.size+1,8,none⟩) (by show w.heap.size+1<_;have:=HZ.out;omega)).trans s8;have y9:=(bb1.cell (p:=⟨w.heap.size+1,9,none⟩) (by show w.heap.size+1<_;have:=HZ.out;omega)).trans s9;have y10:=(bb1.cell (p:=⟨w.heap.size+1,10,none⟩) (by show w.heap.size+1<_;have:=HZ.out;omega)).trans s10;have y11:=(bb1.cell (p:=⟨w.heap.size+1,11,none⟩) (by show w.heap.size+1<_;have:=HZ.out;omega)).trans s11;have hE:=TyBack.yes (h11 u1 (hB.tr qaa bb1)) rfl)
    | (go_at_call 111;(with_reducible refine hE.mono ?_);rintro r u2 ⟨rfl,bb2⟩))
   go_ret2
   exact qbv hcb (by rw[HU.out,HOWN.out];rfl) ((hB.tr qaa bb1).tr qaa bb2)
theorem qoi (p:Pr) (hvs:qcj p.mons<=1000000) (x:Bl):qCx p x:=
 Bl.ind (P:=qC0 p) (Q:=qCx p) (λkind mon name n e ad cap blocks pos ih=>qoj p hvs kind mon name n e ad cap blocks pos ih) (λad cap body ih=>qmn p ad cap body ih) x
open Go.RowKit
theorem qhk (nz:Nat) (mad:Option Addr) (mcap:Nat) (mons:List Mo) (w:World) (hn:nz<=w.heap.size) (h3:SlAt 4 Mo.cells nz w mad mcap mons) (h4:∀m∈mons,m.Is nz w) :
  Calls Tryz.prog 53 #[.slice mad mons.length mcap] w λr w'=>RoleBack (qas Mo.offs mons) w w' r:=by
 have hl1:=h3.1;have hl2:=h3.2.1
 unfold maxLen at hl2
 go_enter Tryz.func53,Tryz.ntmps53
 go_wp2
 go_loopw [10] (λi wr=>∃j:Nat,j<=mons.length/\i=.int .i64 j/\Hid (qas Mo.offs mons=qas Mo.offs (mons.drop j))/\Below w.heap.size w wr)
  (λi _=>mons.length-(intOf i).toNat)
 case atStart=>exact⟨0,by omega,rfl,rfl,Below.refl _ _⟩
 case round =>
  obtain⟨j,hj,rfl,HQ,hbw⟩:=hrel
  have hz1:=hbw.size
  have hb0:Below nz w wr:=hbw.mono hn
  by_cases hlt:j<mons.length
  ·rcases h3.2.2 with h|⟨kb,koff,rfl,hbn,hrow⟩
   ·subst h;simp at hlt
   have hbn2:kb<wr.heap.size:=by omega
   have HD:=hid (qb6 Mo.offs mons j hlt)
   have HMU:Hid (Mo.offs mons[j]=qas Va.off mons[j].vars):=rfl
   have hrj:=hrow.below hb0 hbn
   have hIm:=(h4 _ (List.getElem_mem hlt)).2.1.1
   rcases he':mons[j] with ⟨mname,mvad,mvcap,mvars,mmad,mmcap,mmeths,mpos⟩
   obtain⟨c0,c1,c2,c3⟩:=qra hrj j hlt (by rw[he'];rfl)
   rw[he'] at HMU hIm
   rw[he'] at HD
   simp only at HMU hIm
   clear he'
   have hml1:=hIm.1;have hml2:=hIm.2.1
   unfold maxLen at hml2
   go_wp2
   obtain⟨bM,hBM,hzM⟩:=qal wr #[.string mname,.slice mvad mvars.length mvcap,.slice mmad mmeths.length mmcap,.int .i64 mpos] 36
   obtain⟨W1,hW1⟩:∃W1,wr.alloc (.cells #[.string mname,.slice mvad mvars.length mvcap,.slice mmad mmeths.length mmcap,.int .i64 mpos] 36)=W1:=⟨_,rfl⟩
   rw[hW1] at bM hBM hzM ⊢
   clear hW1
   have hbw1:Below w.heap.size w W1:=hbw.tr qaa hBM
   clear hzM c0 c1 c2 c3
   obtain⟨wo,hwo⟩:∃wo:World,wo=wr:=⟨_,rfl⟩
   subst hwo
   go_loopw [17] (λi wr=>∃l:Nat,l<=mvars.length/\i=.int .i64 l/\Hid (qas Va.off mvars=qas Va.off (mvars.drop l))/\Below w.heap.size w wr)
    (λi _=>mvars.length-(intOf i).toNat)
   case atStart=>exact⟨0,by omega,rfl,rfl,hbw1⟩
   case round =>
    obtain⟨l,hl,rfl,HQ2,hbv⟩:=hrel
    have hzv:=hbv.size
    have hv0:Below nz w wr:=hbv.mono hn
    by_cases hlt2:l<mvars.length
    ·rcases hIm.2.2 with h|⟨mb,moff,rfl,hmn,hmrow⟩
     ·subst h;simp at hlt2
     have hmn2:mb<wr.heap.size:=by omega
     have HD2:=hid (qb6 Va.off mvars l hlt2)
     have hmr:=hmrow.below hv0 hmn
     have HVO:Hid (Va.off mvars[l]=if mvars[l].type=3/\(mvars[l].init<mvars[l].lo\/mvars[l].hi<mvars[l].init) then some (71,mvars[l].pos) else none):=rfl
     rcases he':mvars[l] with ⟨vn,vt,vlo,vhi,vin,vps⟩
     obtain⟨c0,c1,c2,c3,c4,c5⟩:=qkt hmr l hlt2 (by rw[he'];rfl)
     rw[he'] at HVO
     rw[he'] at HD2
     simp only at HVO
     clear he'
     by_cases ht:vt=3
     ·subst ht
      by_cases hlo:vin<vlo
      ·have HV2:=hid (HVO.out.trans (if_pos ⟨rfl,.inl hlo⟩))
       clear HVO
       have hbf:=hbv.al qaa (.cells #[.string vn,.int .i64 3,.int .i64 vlo,.int .i64 vhi,.int .i64 vin,.int .i64 vps] 53)
       go_upto_region 8 with fail
       go_quiet (fail)
       go_wp2
       go_ret2
       exact qbv rfl (by rw[HQ.out,HD.out,HMU.out,HQ2.out,HD2.out,HV2.out];rfl) ⟨hbf.os,hbf.tape,hbf.output,hbf.size,hbf.block⟩
      ·have bg':decide (vin<vlo)=false:=by simp;omega
       by_cases hhi:vhi<vin
       ·have HV2:=hid (HVO.out.trans (if_pos ⟨rfl,.inr hhi⟩))
        clear HVO hlo
        have hbf:=hbv.al qaa (.cells #[.string vn,.int .i64 3,.int .i64 vlo,.int .i64 vhi,.int .i64 vin,.int .i64 vps] 53)
        go_upto_region 8 with fail
        go_quiet (fail)
        go_wp2
        go_ret2
        exact qbv rfl (by rw[HQ.out,HD.out,HMU.out,HQ2.out,HD2.out,HV2.out];rfl) ⟨hbf.os,hbf.tape,hbf.output,hbf.size,hbf.block⟩
       ·have bf':decide (vhi<vin)=false:=by simp;omega
        have HV2:=hid (HVO.out.trans (if_neg (by omega)))
        clear HVO hlo hhi
        go_wp2
        go_roundw
        case rel=>exact⟨l+1,by omega,by go_num,by show _=_;rw[HQ2.out,HD2.out,HV2.out];rfl,hbv.al qaa _⟩
        case measure=>simp[intOf];omega
     ·have ht':(vt==3)=false:=by rw[beq_eq_false_iff_ne];exact ht
      have HV2:=hid (HVO.out.trans (if_neg (by simp;intro h;exact absurd h ht)))
      clear HVO ht
      go_wp2
      go_roundw
      case rel=>exact⟨l+1,by omega,by go_num,by show _=_;rw[HQ2.out,HD2.out,HV2.out];rfl,hbv.al qaa _⟩
      case measure=>simp[intOf];omega
    ·have hjd:decide ((l:Int)<(mvars.length:Int))=false:=by simp;omega
     go_wp2
     go_roundw
     case rel=>exact⟨j+1,by omega,by go_num,by show _=_;rw[HQ.out,HD.out,HMU.out,HQ2.out,qck _ _ _ (by omega)];rfl,hbv⟩
     case measure=>simp[intOf];omega
  ·have hjd:decide ((j:Int)<(mons.length:Int))=false:=by simp;omega
   go_wp2
   go_ret2
   exact qeb (by rw[HQ.out,qck _ _ _ (by omega)]) hbw
theorem qAc (mons:List Mo) (c a:Int) (h:qas Mo.offs mons=some (c,a)):(c != 0)=true:=by
 have hv:∀l:List Va,qas Va.off l=some (c,a)->c=71:=by
  intro l
  induction l with
  | nil=>intro h;cases h
  | cons x l ih =>
   intro h
   rw[qas] at h
   cases hx:x.off with
   | none=>rw[hx] at h;exact ih h
   | some y =>
    rw[hx] at h
    simp only[Option.some_or,Option.some.injEq] at h
    rw[h,Va.off] at hx
    split at hx
    ·cases hx;rfl
    ·cases hx
 have:c=71:=by
  induction mons with
  | nil=>cases h
  | cons x l ih =>
   rw[qas] at h
   cases hx:x.offs with
   | none=>rw[hx] at h;exact ih h
   | some y =>
    rw[hx] at h
    simp only[Option.some_or,Option.some.injEq] at h
    rw[h] at hx
    exact hv _ hx
 subst this;rfl
theorem qrl {p:Pr}(h:p.nchk.1≠0):p.tchk=p.nchk:=by rw[Pr.tchk,if_neg h]
theorem qvg {p:Pr}{x:Int × Int}(h:p.nchk.1=0) (h2:(qas Mo.offs p.mons).or ((qas (Mo.tyc p.mons) p.mons).or (qas (Ro.tyc p.mons) p.roles))=some x):p.tchk=x:=by rw[Pr.tchk,if_pos h,h2];rfl
theorem qvf {p:Pr}(h:p.nchk.1=0) (h2:(qas Mo.offs p.mons).or ((qas (Mo.tyc p.mons) p.mons).or (qas (Ro.tyc p.mons) p.roles))=none):p.tchk=(0,0):=by rw[Pr.tchk,if_pos h,h2];rfl
def qc8 (x:Int × Int) (w w':World) (r:Ending):Prop:=r=.returned (.tuple #[.int .i64 x.1,.int .i64 x.2])/\Below w.heap.size w w'
theorem qa3 {x:Int × Int}{w w':World}{c a:Int}(h:x=(c,a)) (hb:Below w.heap.size w w'):qc8 x w w' (.returned (.tuple #[.int .i64 c,.int .i64 a])):=by subst h;exact⟨rfl,hb⟩
theorem qe0 (p:Pr) (hvs:qcj p.mons<=1000000) (nz:Nat) (w:World) (hn:nz<=w.heap.size) (hI:p.Is nz w) (hS:Shapes w) :
  Calls Tryz.prog 40 #[p.val] w λr w'=>qc8 p.tchk w w' r:=by
 have hs3:=hS.size
 have h24:∀W,Below w.heap.size w W->Calls Tryz.prog 52 #[p.val] W λr w'=>r=.returned (.tuple #[.int .i64 p.nchk.1,.int .i64 p.nchk.2])/\Below W.heap.size W w':=λW hW=>qiy p nz W (by have:=hW.size;omega) (hI.below (hW.mono hn)) (hS.below hW hs3)
 have h25:∀W,Below w.heap.size w W->Calls Tryz.prog 53 #[.slice p.mad p.mons.length p.mcap] W λr w'=>RoleBack (qas Mo.offs p.mons) W w' r:=λW hW=>qhk nz p.mad p.mcap p.mons W (by have:=hW.size;omega) (hI.below (hW.mono hn)).1.1 (hI.below (hW.mono hn)).1.2
 have h26:∀x:Bl,x.Is nz w->∀W,Below w.heap.size w W->Calls Tryz.prog 54 #[p.val,x.slice] W λr w'=>RoleBack (x.tyc p.mons) W w' r:=λx hx W hW=>qoi p hvs x nz W (by have:=hW.size;omega) (hI.below (hW.mono hn)) (hx.below (hW.mono hn)) (hS.below hW hs3)
 have HNA:Hid (p.nchk.1≠0->p.tchk=p.nchk):=λh=>qrl h
 have HSO:Hid (p.nchk.1=0->∀x,(qas Mo.offs p.mons).or ((qas (Mo.tyc p.mons) p.mons).or (qas (Ro.tyc p.mons) p.roles))=some x->p.tchk=x):=λh x h2=>qvg h h2
 have HNO:Hid (p.nchk.1=0->(qas Mo.offs p.mons).or ((qas (Mo.tyc p.mons) p.mons).or (qas (Ro.tyc p.mons) p.roles))=none->p.tchk=(0,0)):=λh h2=>qvf h h2
 obtain⟨TC,hTC⟩:∃TC,p.tchk=TC:=⟨_,rfl⟩
 rw[hTC]
 rw[hTC] at HNA
 simp only[hTC] at HSO
 rw[hTC] at HNO
 obtain⟨⟨c1,c2⟩,hcc⟩:∃cc,p.nchk=cc:=⟨_,rfl⟩
 rw[hcc] at HNA HSO HNO
 simp only[hcc] at h24 HNA HSO HNO
 clear hTC hcc
 rcases p with ⟨mad,mcap,mons,rad,rcap,roles⟩
 obtain⟨⟨h3,h4⟩,h5,h6⟩:=hI
 simp only[Pr.val] at h3 h4 h5 h6 h24 h25 h26 HSO HNO hvs ⊢
 have hl1:=h3.1;have hl2:=h3.2.1;have hl3:=h5.1;have hl4:=h5.2.1
 unfold maxLen at hl2 hl4
 go_enter Tryz.func40,Tryz.ntmps40
 go_upto_region 1 with fail
 obtain⟨bX,hB,hz⟩:=qal w #[.slice mad mons.length mcap,.slice rad roles.length rcap] 25
 obtain⟨W0,hW0⟩:∃W0,w.alloc (.cells #[.slice mad mons.length mcap,.slice rad roles.length rcap] 25)=W0:=⟨_,rfl⟩
 rw[hW0] at bX hB hz ⊢
 clear hW0
 have s0:=cellOf bX 0
 have s1:=cellOf bX 1
 simp at s0 s1
 have HZ:=hid hz
 clear hz bX
 have hq:=h24 W0 hB
 clear h24
 by_cases hc0:c1=0
 case neg =>
  have hcb:(c1 != 0)=true:=by rw[bne_iff_ne];exact hc0
  have HT:=hid (HNA.out hc0)
  clear hc0
  go_wp2_with (go_at_call 52;(with_reducible refine hq.mono ?_);rintro r u1 ⟨rfl,bb1⟩)
  go_ret2
  exact qa3 HT.out (hB.tr qaa bb1)
 subst hc0
 have HSO2:=hid (HSO.out rfl)
 have HNO2:=hid (HNO.out rfl)
 clear HSO HNO HNA
 have HOP:=hid (qAc mons)
 obtain⟨OF,hOF⟩:∃OF,qas Mo.offs mons=OF:=⟨_,rfl⟩
 rw[hOF] at HOP
 simp only[hOF] at h25 HSO2
 rw[hOF] at HNO2
 clear hOF
 rcases OF with _|⟨c,a⟩
 case some =>
  have hcb:=HOP.out c a rfl
  have HT:=hid (HSO2.out (c,a) rfl)
  go_wp2_with (first
   | (go_at_call 52;(with_reducible refine hq.mono ?_);rintro r u1 ⟨rfl,bb1⟩;have hz_1:=bb1.size;have x0:=(bb1.cell (p:=⟨w.heap.size,0,none⟩) (by show w.heap.size<_;have:=HZ.out;omega)).trans s0;have hF:=RoleBack.yes (h25 u1 (hB.tr qaa bb1)) rfl)
   | (go_at_call 53;(with_reducible refine hF.mono ?_);rintro r u2 ⟨rfl,bb2⟩))
  go_ret2
  exact qa3 HT.out ((hB.tr qaa bb1).tr qaa bb2)
 go_wp2_with (first
  | (go_at_call 52;(with_reducible refine hq.mono ?_);rintro r u1 ⟨rfl,bb1⟩;have hz_1:=bb1.size;have x0:=(bb1.cell (p:=⟨w.heap.size,0,none⟩) (by show w.heap.size<_;have:=HZ.out;omega)).trans s0;have hF:=RoleBack.no (h25 u1 (hB.tr qaa bb1)) rfl)
  | (go_at_call 53;(with_reducible refine hF.mono ?_);rintro r u2 ⟨rfl,bb2⟩;have hz_2:=bb2.size;have xx0:=(bb2.cell (p:=⟨w.heap.size,0,none⟩) (by show w.heap.size<_;have:=HZ.out;omega)).trans x0))
 have hBu:Below W0.heap.size W0 u2:=bb1.tr qaa bb2
 clear h25 hq hF HOP x0 xx0
 go_loopw [40] (λi wr=>∃j:Nat,j<=mons.length/\i=.int .i64 j/\Hid (qas (Mo.tyc mons) mons=qas (Mo.tyc mons) (mons.drop j))/\Below W0.heap.size W0 wr)
  (λi _=>mons.length-(intOf i).toNat)
 case atStart=>exact⟨0,by omega,rfl,rfl,hBu⟩
 case round =>
  obtain⟨j,hj,rfl,HQ,hbw⟩:=hrel
  have hz1:=hbw.size
  have hz0:=HZ.out
  have hbF:Below w.heap.size w wr:=hB.trans (hbw.mono (by omega))
  have hb0:Below nz w wr:=hbF.mono hn
  by_cases hlt:j<mons.length
  ·rcases h3.2.2 with h|⟨kb,koff,rfl,hbn,hrow⟩
   ·subst h;simp at hlt
   have hbn2:kb<wr.heap.size:=by omega
   have HD:=hid (qb6 (Mo.tyc mons) mons j hlt)
   have HMU:Hid (Mo.tyc mons mons[j]=qas (Me.tyc mons) mons[j].meths):=rfl
   have hrj:=hrow.below hb0 hbn
   have hIm:=(h4 _ (List.getElem_mem hlt)).2.2
   rcases he':mons[j] with ⟨mname,mvad,mvcap,mvars,mmad,mmcap,mmeths,mpos⟩
   obtain⟨c0,c1,c2,c3⟩:=qra hrj j hlt (by rw[he'];rfl)
   rw[he'] at HMU hIm
   rw[he'] at HD
   simp only at HMU hIm
   clear he'
   have hml1:=hIm.1.1;have hml2:=hIm.1.2.1
   unfold maxLen at hml2
   go_wp2
   obtain⟨bM,hBM,hzM⟩:=qal wr #[.string mname,.slice mvad mvars.length mvcap,.slice mmad mmeths.length mmcap,.int .i64 mpos] 36
   obtain⟨W1,hW1⟩:∃W1,wr.alloc (.cells #[.string mname,.slice mvad mvars.length mvcap,.slice mmad mmeths.length mmcap,.int .i64 mpos] 36)=W1:=⟨_,rfl⟩
   rw[hW1] at bM hBM hzM ⊢
   clear hW1
   have hbw1:Below W0.heap.size W0 W1:=hbw.tr qaa hBM
   clear hzM c0 c1 c2 c3
   obtain⟨wo,hwo⟩:∃wo:World,wo=wr:=⟨_,rfl⟩
   subst hwo
   go_loopw [47] (λi wr=>∃l:Nat,l<=mmeths.length/\i=.int .i64 l/\Hid (qas (Me.tyc mons) mmeths=qas (Me.tyc mons) (mmeths.drop l))/\Below W0.heap.size W0 wr)
    (λi _=>mmeths.length-(intOf i).toNat)
   case atStart=>exact⟨0,by omega,rfl,rfl,hbw1⟩
   case round =>
    obtain⟨l,hl,rfl,HQ2,hbv⟩:=hrel
    have hzv:=hbv.size
    have hvF:Below w.heap.size w wr:=hB.trans (hbv.mono (by omega))
    have hv0:Below nz w wr:=hvF.mono hn
    by_cases hlt2:l<mmeths.length
    ·rcases hIm.1.2.2 with h|⟨mb,moff,rfl,hmn,hmrow⟩
     ·subst h;simp at hlt2
     have hmn2:mb<wr.heap.size:=by omega
     have HD2:=hid (qb6 (Me.tyc mons) mmeths l hlt2)
     have hmr:=hmrow.below hv0 hmn
     have hq:=h26 mmeths[l].body (hIm.2 _ (List.getElem_mem hlt2)).2.2 (wr.alloc (.cells (mmeths[l]).cells.toArray 56)) (hvF.al qaa _)
     have HMe:Hid (Me.tyc mons mmeths[l]=mmeths[l].body.tyc mons):=rfl
     obtain⟨u,hu⟩:∃u,mmeths[l].body.tyc mons=u:=⟨_,rfl⟩
     rw[hu] at hq HMe
     clear hu
     have x0:∀o,(wr.alloc o).cell? ⟨w.heap.size,0,none⟩=_:=λo=>(((Below.refl _ wr).al qaa o).cell (p:=⟨w.heap.size,0,none⟩) (by show w.heap.size<_;omega)).trans ((hbv.cell (p:=⟨w.heap.size,0,none⟩) (by show w.heap.size<_;omega)).trans s0)
     have x1:∀o,(wr.alloc o).cell? ⟨w.heap.size,1,none⟩=_:=λo=>(((Below.refl _ wr).al qaa o).cell (p:=⟨w.heap.size,1,none⟩) (by show w.heap.size<_;omega)).trans ((hbv.cell (p:=⟨w.heap.size,1,none⟩) (by show w.heap.size<_;omega)).trans s1)
     rcases he':mmeths[l] with ⟨fname,⟨fad,fcap,fbody⟩,fpos⟩
     obtain⟨c0,c1,c2⟩:=qun hmr l hlt2 (by rw[he'];rfl)
     simp only[he',Me.cells,Bl.slice] at hq c1
     rw[he'] at HMe
     rw[he'] at HD2
     clear he' h26
     rcases u with _|⟨c,a⟩
     ·have hq:=RoleBack.no hq rfl
      go_wp2_with (go_at_call 54;(with_reducible refine hq.mono ?_);rintro r w1 ⟨rfl,hb1⟩)
      go_roundw
      case rel=>exact⟨l+1,by omega,by go_num,by show _=_;rw[HQ2.out,HD2.out,HMe.out];rfl,(hbv.al qaa _).tr qaa hb1⟩
      case measure=>simp[intOf];omega
     ·have hq:=RoleBack.yes2 hq rfl
      go_wp2_with (go_at_call 54;(with_reducible refine hq.mono ?_);rintro r w1 ⟨rfl,hcb,hb1⟩)
      go_ret2
      exact qa3 (HSO2.out (c,a) (by rw[HQ.out,HD.out,HMU.out,HQ2.out,HD2.out,HMe.out];rfl)) ((hvF.al qaa _).tr qaa hb1)
    ·have hjd:decide ((l:Int)<(mmeths.length:Int))=false:=by simp;omega
     go_wp2
     go_roundw
     case rel=>exact⟨j+1,by omega,by go_num,by show _=_;rw[HQ.out,HD.out,HMU.out,HQ2.out,qck _ _ _ (by omega)];rfl,hbv⟩
     case measure=>simp[intOf];omega
  ·have hjd:decide ((j:Int)<(mons.length:Int))=false:=by simp;omega
   have HMN:Hid (qas (Mo.tyc mons) mons=none):=by show _=_;rw[HQ.out,qck _ _ _ (by omega)]
   have y1:=(hbw.cell (p:=⟨w.heap.size,1,none⟩) (by show w.heap.size<_;omega)).trans s1
   go_wp2
   obtain⟨wo,hwo⟩:∃wo:World,wo=wr:=⟨_,rfl⟩
   subst hwo
   go_loopw [67] (λi wr=>∃l:Nat,l<=roles.length/\i=.int .i64 l/\Hid (qas (Ro.tyc mons) roles=qas (Ro.tyc mons) (roles.drop l))/\Below W0.heap.size W0 wr)
    (λi _=>roles.length-(intOf i).toNat)
   case atStart=>exact⟨0,by omega,rfl,rfl,hbw⟩
   case round =>
    obtain⟨l,hl,rfl,HQ2,hbv⟩:=hrel
    have hzv:=hbv.size
    have hvF:Below w.heap.size w wr:=hB.trans (hbv.mono (by omega))
    have hv0:Below nz w wr:=hvF.mono hn
    by_cases hlt2:l<roles.length
    ·rcases h5.2.2 with h|⟨mb,moff,rfl,hmn,hmrow⟩
     ·subst h;simp at hlt2
     have hmn2:mb<wr.heap.size:=by omega
     have HD2:=hid (qb6 (Ro.tyc mons) roles l hlt2)
     have hmr:=hmrow.below hv0 hmn
     have hq:=h26 roles[l].body (h6 _ (List.getElem_mem hlt2)).2.2.2 (wr.alloc (.cells (roles[l]).cells.toArray 59)) (hvF.al qaa _)
     have HMe:Hid (Ro.tyc mons roles[l]=roles[l].body.tyc mons):=rfl
     obtain⟨u,hu⟩:∃u,roles[l].body.tyc mons=u:=⟨_,rfl⟩
     rw[hu] at hq HMe
     clear hu
     have x0:∀o,(wr.alloc o).cell? ⟨w.heap.size,0,none⟩=_:=λo=>(((Below.refl _ wr).al qaa o).cell (p:=⟨w.heap.size,0,none⟩) (by show w.heap.size<_;omega)).trans ((hbv.cell (p:=⟨w.heap.size,0,none⟩) (by show w.heap.size<_;omega)).trans s0)
     have x1:∀o,(wr.alloc o).cell? ⟨w.heap.size,1,none⟩=_:=λo=>(((Below.refl _ wr).al qaa o).cell (p:=⟨w.heap.size,1,none⟩) (by show w.heap.size<_;omega)).trans ((hbv.cell (p:=⟨w.heap.size,1,none⟩) (by show w.heap.size<_;omega)).trans s1)
     rcases he':roles[l] with ⟨rname,rstar,rcount,⟨fad,fcap,fbody⟩,rpos⟩
     obtain⟨c0,c1,c2,c3,c4⟩:=qup hmr l hlt2 (by rw[he'];rfl)
     simp only[he',Ro.cells,Bl.slice] at hq c3
     rw[he'] at HMe
     rw[he'] at HD2
     clear he' h26
     rcases u with _|⟨c,a⟩
     ·have hq:=RoleBack.no hq rfl
      go_wp2_with (go_at_call 54;(with_reducible refine hq.mono ?_);rintro r w1 ⟨rfl,hb1⟩)
      go_roundw
      case rel=>exact⟨l+1,by omega,by go_num,by show _=_;rw[HQ2.out,HD2.out,HMe.out];rfl,(hbv.al qaa _).tr qaa hb1⟩
      case measure=>simp[intOf];omega
     ·have hq:=RoleBack.yes2 hq rfl
      go_wp2_with (go_at_call 54;(with_reducible refine hq.mono ?_);rintro r w1 ⟨rfl,hcb,hb1⟩)
      go_ret2
      exact qa3 (HSO2.out (c,a) (by rw[HMN.out,HQ2.out,HD2.out,HMe.out];rfl)) ((hvF.al qaa _).tr qaa hb1)
    ·have hjd2:decide ((l:Int)<(roles.length:Int))=false:=by simp;omega
     go_wp2
     go_ret2
     exact qa3 (HNO2.out (by rw[HMN.out,HQ2.out,qck _ _ _ (by omega)];rfl)) hvF
