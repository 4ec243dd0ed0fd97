import Derived.Test.YthdkgfmlihgceaaGreatDoorHat
import Derived.Test.YthdkgfmlihgceaaGreatDoorHbb
namespace Go.Proofs.YthdkgfmlihgceaaGreatDoor
set_option maxRecDepth 100000
set_option maxHeartbeats 16000000
open Go.RowKit
theorem qC3 {r s:Ref}(hr:qct r) (hs:qct s) (W:World):(Op.equal 116 (qeg r) (qeg s)).run Tryz.prog W=.ok (decide (s=r)) W:=by
 have h:=keyLaw.find W (qe5 hr) [⟨qeg s,.bool true,0⟩] (λe he=>by rw[List.mem_singleton.1 he];exact⟨_,qe5 hs⟩)
 have hf:∀o W',(Instr.findKey 116 (qeg r) [⟨qeg s,.bool true,0⟩]).run Tryz.prog W=.ok o W'->(Op.equal 116 (qeg r) (qeg s)).run Tryz.prog W=.ok o.isSome W':=by
  intro o W' ho
  simp only[Instr.findKey,Sem.run_bind,run_underlying Tryz.underlying116,Result.andThen,Instr.findNow,Instr.sameNow,qeg,Instr.findAsking] at ho ⊢
  cases hE:(Op.equal 116 (.agg #[.string r.1,.string r.2]) (.agg #[.string s.1,.string s.2])).run Tryz.prog W with
  | ok b w' =>
   rw[hE] at ho
   cases b
   ·simp at ho
    obtain⟨h1,h2⟩:=ho
    subst h1 h2;rfl
   ·simp at ho
    obtain⟨h1,h2⟩:=ho
    subst h1 h2;rfl
  | halt h w'=>rw[hE] at ho;simp at ho
 rcases h with ⟨h1,h2⟩|⟨j,e,h1,h2,h3⟩
 ·have hne:¬ s=r:=λe=>h2 ⟨qeg s,.bool true,0⟩ (List.mem_singleton.2 rfl) (by show qeg s=qeg r;rw[e])
  rw[hf _ _ h1];simp[hne]
 ·have he:e=⟨qeg s,.bool true,0⟩:=by simpa using List.mem_of_getElem? h2
  rw[he] at h3
  have hse:s=r:=qpo h3
  rw[hf _ _ h1];simp[hse]
theorem qC4 {a b c d:ByteArray}(hr:qct (a,b)) (hs:qct (c,d)) (W:World):(binOp .eql 116 (.agg #[.string a,.string b]) (.agg #[.string c,.string d])).run Tryz.prog W=.ok (.bool (decide ((c,d)=(a,b)))) W:=by
 have h:(Op.equal 116 (.agg #[.string a,.string b]) (.agg #[.string c,.string d])).run Tryz.prog W=.ok (decide ((c,d)=(a,b))) W:=qC3 hr hs W
 simp[binOp,go_sem,h]
def qr0 (l:List Ref) (r:Ref) (w w':World) (e:Ending):Prop:=((r ∉ l/\e=.returned (.int .i64 (-1)))\/(r∈l/\∃i:Nat,i<l.length/\e=.returned (.int .i64 (i:Int))))/\Below w.heap.size w w'
theorem qs0 (l:List Ref) (ad:Option Addr) (cap nz:Nat) (a c:ByteArray) (w:World) (hn:nz<=w.heap.size) (hsl:SlAt 2 qbi nz w ad cap l) (hr:qct (a,c)) (hV:∀r∈l,qct r) :
  Calls Tryz.prog 89 #[.slice ad l.length cap,.agg #[.string a,.string c]] w λe w'=>qr0 l (a,c) w w' e:=by
 have hl1:=hsl.1;have hl2:=hsl.2.1
 unfold maxLen at hl2
 go_enter Tryz.func89,Tryz.ntmps89
 go_upto_region 1 with fail
 obtain⟨bX,hBX,hzX⟩:=qal w #[.string a,.string c] 116
 obtain⟨W1,hW1⟩:∃W1,w.alloc (.cells #[.string a,.string c] 116)=W1:=⟨_,rfl⟩
 rw[hW1] at bX hBX hzX ⊢
 clear hW1
 have HZ:=hid hzX
 clear hzX
 go_wp2
 go_loopw [8] (λi wr=>∃k:Nat,k<=l.length/\i=.int .i64 k/\Hid ((a,c) ∉ l.take k)/\Below W1.heap.size W1 wr)
  (λi _=>l.length-(intOf i).toNat)
 case atStart=>exact⟨0,by omega,rfl,(by show _ ∉ _;simp),Below.refl _ _⟩
 case round =>
  obtain⟨k,hk,rfl,HK,hbx⟩:=hrel
  have hzx:=hbx.size
  have hz0:=HZ.out
  have hbF:Below w.heap.size w wr:=hBX.tr (by omega) hbx
  by_cases hlk:k<l.length
  ·rcases hsl.2.2 with h|⟨tb,toff,rfl,htn,htrow⟩
   ·subst h;simp at hlk
   have htrow2:=htrow.below (hbF.mono hn) htn
   have d0:=htrow2 k hlk 0 (by omega)
   have d1:=htrow2 k hlk 1 (by omega)
   have htw:tb<wr.heap.size:=by omega
   have hvx:=hV _ (List.getElem_mem hlk)
   have HX1:Hid (l[k]=(a,c)->(a,c)∈l):=λh=>h▸List.getElem_mem hlk
   have HX2:Hid (l[k]≠(a,c)->(a,c) ∉ l.take (k+1)):=by
    intro h hx
    rw[List.take_succ_eq_append_getElem hlk] at hx
    rcases List.mem_append.1 hx with hx|hx
    ·exact HK.out hx
    ·exact h (List.mem_singleton.1 hx).symm
   simp only[qbi] at d0 d1
   simp at d0 d1
   obtain⟨g1,hg1⟩:∃g1,l[k]=g1:=⟨_,rfl⟩
   rw[hg1] at d0 d1 hvx HX1 HX2
   clear hg1
   obtain⟨gm,gn⟩:=g1
   simp only at d0 d1
   have heq:=λW=>qC4 hr hvx W
   have bXr:=(hbx.block w.heap.size (by omega)).trans bX
   have y0:=cellOf bXr 0
   have y1:=cellOf bXr 1
   simp at y0 y1
   have hww:w.heap.size<wr.heap.size:=by omega
   by_cases he:(gm,gn)=(a,c)
   ·have hd:decide ((gm,gn)=(a,c))=true:=by simp[he]
    simp only[hd] at heq
    have HI:=hid (HX1.out he)
    clear HX1 HX2 he hd
    go_wp2_with fail
    go_quiet (fail)
    go_wp2
    go_ret
    exact⟨.inr ⟨HI.out,k,hlk,rfl⟩,below_drewN hbF _⟩
   ·have hd:decide ((gm,gn)=(a,c))=false:=by simp only[he,decide_false]
    simp only[hd] at heq
    have HI:=hid (HX2.out he)
    clear HX1 HX2 he hd
    go_wp2_with fail
    go_quiet (fail)
    go_wp2
    go_roundw
    case rel=>exact⟨k+1,by omega,by go_num,HI,below_drewN hbx _⟩
    case measure=>simp[intOf];omega
  ·have hkd:decide ((k:Int)<(l.length:Int))=false:=by simp;omega
   have HE:Hid ((a,c) ∉ l):=by
    have:=HK.out
    rwa [List.take_of_length_le (by omega)] at this
   go_wp2
   go_ret
   exact⟨.inl ⟨HE.out,rfl⟩,hbF⟩
theorem qla (l:List Ref) (ad:Option Addr) (cap nz:Nat) (a c:ByteArray) (w:World) (hn:nz<=w.heap.size) (hsl:SlAt 2 qbi nz w ad cap l) (hr:qct (a,c)) (hV:∀r∈l,qct r) :
  Calls Tryz.prog 57 #[.slice ad l.length cap,.agg #[.string a,.string c]] w λe w'=>e=.returned (.bool (decide ((a,c)∈l)))/\Below w.heap.size w w':=by
 have hq:=λ(W:World) (hW:Below w.heap.size w W)=>qs0 l ad cap nz a c W (by have:=hW.size;omega) (hsl.below (hW.mono hn)) hr hV
 by_cases hm:(a,c)∈l
 ·have hd:decide ((a,c)∈l)=true:=by simp[hm]
  have hq2:∀(W:World) (hW:Below w.heap.size w W),Calls Tryz.prog 89 #[.slice ad l.length cap,.agg #[.string a,.string c]] W λe w'=>∃i:Nat,e=.returned (.int .i64 (i:Int))/\Below W.heap.size W w':=λW hW=>(hq W hW).mono (by
   rintro e w' ⟨⟨h,_⟩|⟨_,i,_,h⟩,hb⟩
   ·exact absurd hm h
   ·exact⟨i,h,hb⟩)
  rw[hd]
  clear hq hd hm
  have hB0:=(Below.refl w.heap.size w).al qaa (.cells #[.string a,.string c] 116)
  go_enter Tryz.func57,Tryz.ntmps57
  go_wp2_with (go_at_call 89;(with_reducible refine (hq2 _ hB0).mono ?_);rintro r u1 ⟨i,rfl,bb1⟩;have hi0:(0:Int)<=(i:Int):=by omega)
  go_ret
  exact⟨rfl,hB0.tr qaa bb1⟩
 ·have hd:decide ((a,c)∈l)=false:=by simp only[hm,decide_false]
  have hq2:∀(W:World) (hW:Below w.heap.size w W),Calls Tryz.prog 89 #[.slice ad l.length cap,.agg #[.string a,.string c]] W λe w'=>e=.returned (.int .i64 (-1))/\Below W.heap.size W w':=λW hW=>(hq W hW).mono (by
   rintro e w' ⟨⟨_,h⟩|⟨h,_⟩,hb⟩
   ·exact⟨h,hb⟩
   ·exact absurd h hm)
  rw[hd]
  clear hq hd hm
  have hB0:=(Below.refl w.heap.size w).al qaa (.cells #[.string a,.string c] 116)
  go_enter Tryz.func57,Tryz.ntmps57
  go_wp2_with (go_at_call 89;(with_reducible refine (hq2 _ hB0).mono ?_);rintro r u1 ⟨rfl,bb1⟩)
  go_ret
  exact⟨rfl,hB0.tr qaa bb1⟩
def qno (p:Pr) (r:Ref):Bool:=decide (r∈qab p (qae p r))
theorem qj1 (p:Pr) (a c:ByteArray) (nz b:Nat) (w:World) (hn:nz<=w.heap.size) (hBk:Book w nz b p) (hr:qct (a,c)) (hV:∀r∈qaj p,qct r) (hF:Fine p) :
  Calls Tryz.prog 42 #[.map (some b),.agg #[.string a,.string c]] w λe w'=>e=.returned (.bool (qno p (a,c)))/\Below w.heap.size w w':=by
 have HG:=hid (show qno p (a,c)=decide ((a,c)∈qab p (qae p (a,c))) from rfl)
 have hV2:∀r∈qae p (a,c)++qaj p,qct r:=λr hr=>by
  rcases List.mem_append.1 hr with h|h
  ·exact hV r (qh3 p _ r h)
  ·exact hV r h
 have hV3:∀r∈qab p (qae p (a,c)),qct r:=λr hr=>hV2 r (qea p _ r hr)
 have hra:=λ(ad:Option Addr) (cap:Nat) (W:World) (hW:Below w.heap.size w W) (hs:SlAt 2 qbi nz W ad cap (qae p (a,c)))=>reached_any p (qae p (a,c)) ad cap nz b W (by have:=hW.size;omega) (hBk.below (hW.mono hn)) hs hV2 (by have:=hF.refs;have:=hF.lds (a,c);omega)
 have hco:=λ(ad:Option Addr) (cap:Nat) (W:World) (hs:SlAt 2 qbi W.heap.size W ad cap (qab p (qae p (a,c))))=>qla (qab p (qae p (a,c))) ad cap W.heap.size a c W (Nat.le_refl _) hs hr hV3
 simp only[<- HG.out] at hco
 obtain⟨G,hG⟩:∃G,qno p (a,c)=G:=⟨_,rfl⟩
 rw[hG]
 simp only[hG] at hco
 obtain⟨bX,hBX,hzX⟩:=qal w #[.string a,.string c] 116
 go_enter Tryz.func42,Tryz.ntmps42
 go_upto_region 1 with fail
 obtain⟨W1,hW1⟩:∃W1,w.alloc (.cells #[.string a,.string c] 116)=W1:=⟨_,rfl⟩
 obtain⟨Bs,hBs⟩:∃Bs,w.heap.size=Bs:=⟨_,rfl⟩
 have HBX:Hid (Below w.heap.size w W1):=by rw[<- hW1];exact hBX
 rw[hW1] at bX ⊢
 rw[hBs] at bX ⊢
 have hBkd:Book W1.drew nz b p:=hBk.below (qe3 (HBX.out.mono hn))
 obtain⟨gad,gcap,cad,ccap,hlook,-,hcl⟩:=hBkd.look hr
 simp only at hlook
 obtain⟨gb,hgb⟩:∃gb,(qam p (a,c)).body.length=gb:=⟨_,rfl⟩
 rw[hgb] at hlook
 have hf80:=qzl
 have hB1:Below w.heap.size w W1.drew:=qe3 HBX.out
 have hrac:=hra cad ccap _ hB1 hcl
 obtain⟨gs,hgs⟩:∃gs,qae p (a,c)=gs:=⟨_,rfl⟩
 obtain⟨R,hR⟩:∃R,qab p (qae p (a,c))=R:=⟨_,rfl⟩
 simp only[hR] at hrac hco
 rw[hgs] at hlook hrac
 clear hgs hR hgb hW1 hBs hBX hzX hra hBkd hcl
 have HK:Hid (∀W,Below W1.heap.size W1 W->W.cell? ⟨Bs,0,none⟩=some (.string a)/\W.cell? ⟨Bs,1,none⟩=some (.string c)):=by
  intro W hW
  have hl:=(Array.getElem?_eq_some_iff.1 bX).1
  refine⟨(hW.cell (p:=⟨Bs,0,none⟩) hl).trans ?_,(hW.cell (p:=⟨Bs,1,none⟩) hl).trans ?_⟩
  ·rw[cellOf bX];simp
  ·rw[cellOf bX];simp
 have B:Below W1.heap.size W1 W1.drew:=⟨rfl,rfl,rfl,Nat.le_refl _,λ_ _=>rfl⟩
 go_region_held3 (λW=>W.cell? ⟨Bs,0,none⟩=some (.string a)/\W.cell? ⟨Bs,1,none⟩=some (.string c)) (exact HK.out _ B)
  (first
   | (go_at_call 58;(with_reducible refine hrac.mono ?_);rintro r u ⟨v,rfl,hown,bb⟩;obtain⟨rad,rcp,rfl,hrs⟩:=qre qcz hown;have B:=B.trans (bb.mono B.size))
   | (go_at_call 57;(with_reducible refine (hco rad rcp _ hrs).mono ?_);rintro r u2 ⟨rfl,bb2⟩;have B:=B.trans (bb2.mono B.size)))
 have HB:=hid (HBX.out.trans (B.mono HBX.out.size))
 go_wp2
 go_ret
 exact⟨rfl,HB.out⟩
def Me.cyc (p:Pr) (mon:ByteArray) (f:Me):Option (Int × Int):=if qno p (mon,f.name)=true then some (80,f.pos) else none
def Mo.cyc (p:Pr) (m:Mo):Option (Int × Int):=qas (Me.cyc p m.name) m.meths
def Ro.big (p:Pr) (r:Ro):Option (Int × Int):=if (qc9 p r.body).2=81 then some (81,r.pos) else none
def Pr.cchk (p:Pr):Int × Int:=if p.tchk.1=0 then ((qas (Mo.cyc p) p.mons).or (qas (Ro.big p) p.roles)).getD (0,0) else p.tchk
theorem qrx (p:Pr) (nz:Nat) (w:World) (hn:nz<=w.heap.size) (hp:p.Is nz w) (hS:Shapes w) (hS3:6<=w.heap.size) (hvs:qcj p.mons<=1000000) (hF:Fine p) (hRo:∀r∈p.roles,FineB r.body) :
  Calls Tryz.prog 26 #[p.val] w λr w'=>qc8 p.cchk w w' r:=by
 have hc1:=λ(W:World) (hW:Below w.heap.size w W)=>qe0 p hvs nz W (by have:=hW.size;omega) (hp.below (hW.mono hn)) (hS.below hW hS3)
 have hc2:=λ(W:World) (hW:Below w.heap.size w W)=>qh7 p nz W (by have:=hW.size;omega) (hp.below (hW.mono hn)) hF.subs hF.lens
 have hV:=qkp hp
 have hc3:=λ(b n:Nat) (W:World) (hnW:n<=W.heap.size) (hB:Book W n b p) (a c:ByteArray) (hr:qct (a,c))=>qj1 p a c n b W hnW hB hr hV hF
 have hc4:=λ(b n:Nat) (W:World) (hnW:n<=W.heap.size) (hB:Book W n b p) (r:Ro) (hr:r∈p.roles) (hI:r.body.Is n W)=>qlb p r.body n b W hnW hB hI hV hF (hRo r hr)
 have HCC:=hid (show p.cchk=if p.tchk.1=0 then ((qas (Mo.cyc p) p.mons).or (qas (Ro.big p) p.roles)).getD (0,0) else p.tchk from rfl)
 obtain⟨P,hP⟩:∃P:Pr,P=p:=⟨_,rfl⟩
 have HPP:=hid hP
 obtain⟨tc,htc⟩:∃tc,p.tchk=tc:=⟨_,rfl⟩
 obtain⟨cc,hcc⟩:∃cc,p.cchk=cc:=⟨_,rfl⟩
 rw[htc,hcc] at HCC
 simp only[htc] at hc1
 rw[hcc]
 rw[<- hP] at HCC hc3 hc4
 have hc2:∀(W:World),Below w.heap.size w W->Calls Tryz.prog 41 #[p.val] W λr w'=>qom P W w' r:=by rw[hP];exact hc2
 have hPm:P.mons=p.mons:=by rw[hP]
 have hPr:P.roles=p.roles:=by rw[hP]
 rw[hPm,hPr] at HCC
 simp only[hPr] at hc4
 clear htc hcc hP hRo hvs hV hS hPm hPr
 rcases p with ⟨mad,mcap,mons,rad,rcap,roles⟩
 obtain⟨⟨h3,h4⟩,h5,h6⟩:=hp
 obtain⟨tc1,tc2⟩:=tc
 simp only[Pr.val] at hc1 hc2 hc4 h3 h4 h5 h6 HCC ⊢
 simp only[qc8] at hc1
 have hl1:=h3.1;have hl2:=h3.2.1
 unfold maxLen at hl2
 have hr1:=h5.1;have hr2:=h5.2.1
 unfold maxLen at hr2
 have hB:=(Below.refl w.heap.size w).al qaa (.cells #[.slice mad mons.length mcap,.slice rad roles.length rcap] 25)
 have b1:=qaf w (.cells #[.slice mad mons.length mcap,.slice rad roles.length rcap] 25)
 cases hte:(tc1 != 0:Bool)
 ·have ht0:tc1=0:=by simpa using hte
  subst ht0
  rw[if_pos rfl] at HCC
  go_enter Tryz.func26,Tryz.ntmps26
  go_upto_region 5 with (first
   | (go_at_call 40;(with_reducible refine (hc1 _ hB).mono ?_);rintro r wA ⟨rfl,bb1⟩;have b2:=(bb1.block w.heap.size (by simp)).trans b1;have p0:=cellOf b2 0;have p1:=cellOf b2 1;simp at p0 p1)
   | (go_at_call 41;(with_reducible refine (hc2 _ (hB.tr qaa bb1)).mono ?_);rintro r wB ⟨b,rfl,hbk,bb2⟩))
  have hB1:=hB.tr qaa bb1
  have hB2:=hB1.tr qaa bb2
  have b3:=(bb2.block w.heap.size (by have:=hB1.size;have:=(Array.getElem?_eq_some_iff.1 b2).1;omega)).trans b2
  have q0:=cellOf b3 0
  have q1:=cellOf b3 1
  simp at q0 q1
  clear hc1 hc2 p0 p1 b1 b2 bb1 bb2 hte
  have hz2:=hB2.size
  go_wp2
  go_loopw [29] (λi wr=>∃j:Nat,j<=mons.length/\i=.int .i64 j/\Hid (qas (Mo.cyc P) mons=qas (Mo.cyc P) (mons.drop j))/\Below wB.heap.size wB wr)
   (λi _=>mons.length-(intOf i).toNat)
  case atStart=>exact⟨0,by omega,rfl,rfl,Below.refl _ _⟩
  case round =>
   obtain⟨j,hj,rfl,HQ,hbw⟩:=hrel
   have hz1:=hbw.size
   have hbF:Below w.heap.size w wr:=hB2.tr qaa hbw
   by_cases hlt:j<mons.length
   ·rcases h3.2.2 with h|⟨kb,koff,rfl,hbn,hrow⟩
    ·subst h;simp at hlt
    have HD:=hid (qb6 (Mo.cyc P) mons j hlt)
    have HMU:Hid (Mo.cyc P mons[j]=qas (Me.cyc P mons[j].name) mons[j].meths):=rfl
    have hmj:=h4 _ (List.getElem_mem hlt)
    have hmm2:=hrow.below (hbF.mono hn) hbn
    rcases he':mons[j] with ⟨mname,vad,vcap,vars,fad,fcap,meths,mpos⟩
    have hc4r:=qra hmm2 j hlt (by rw[he'];rfl)
    rw[he'] at hmj HMU
    rw[he'] at HD
    simp only at hc4r HMU
    obtain⟨c0,c1,c2,c3⟩:=hc4r
    have hkw:kb<wr.heap.size:=by omega
    obtain⟨⟨hml,-⟩,-,hfs,hfI⟩:=hmj
    simp only at hfs hfI hml
    have hf1:=hfs.1;have hf2:=hfs.2.1
    unfold maxLen at hf2
    clear he' hmm2
    go_upto_region 8 with fail
    obtain⟨bX,hBX,hzX⟩:=qal wr #[.string mname,.slice vad vars.length vcap,.slice fad meths.length fcap,.int .i64 mpos] 36
    obtain⟨Bm,hBm⟩:∃Bm,wr.heap.size=Bm:=⟨_,rfl⟩
    obtain⟨W1,hW1⟩:∃W1,wr.alloc (.cells #[.string mname,.slice vad vars.length vcap,.slice fad meths.length fcap,.int .i64 mpos] 36)=W1:=⟨_,rfl⟩
    have hbw1:Below wB.heap.size wB W1:=by rw[<- hW1];exact hbw.tr qaa hBX
    rw[hW1] at bX ⊢
    rw[hBm] at bX ⊢
    have x2:=cellOf bX 2
    simp at x2
    clear hBX hzX hW1 hBm c0 c1 c2 c3
    obtain⟨wo,hwo⟩:∃wo:World,wo=wr:=⟨_,rfl⟩
    subst hwo
    go_wp2
    clear x2
    go_loopw [36] (λi wx=>∃k:Nat,k<=meths.length/\i=.int .i64 k/\Hid (qas (Me.cyc P mname) meths=qas (Me.cyc P mname) (meths.drop k))/\Below W1.heap.size W1 wx)
     (λi _=>meths.length-(intOf i).toNat)
    case atStart=>exact⟨0,by omega,rfl,rfl,Below.refl _ _⟩
    case round =>
     obtain⟨k,hk,rfl,HQ2,hbx⟩:=hrel
     have hzx:=hbx.size
     have hbx2:Below wB.heap.size wB wr:=hbw1.tr qaa hbx
     have hbF2:Below w.heap.size w wr:=hB2.tr qaa hbx2
     have bXi:=(hbx.block Bm (Array.getElem?_eq_some_iff.1 bX).1).trans bX
     by_cases hlk:k<meths.length
     ·rcases hfs.2.2 with h|⟨qb,qoff,rfl,hqn,hqrow⟩
      ·subst h;simp at hlk
      have HD2:=hid (qb6 (Me.cyc P mname) meths k hlk)
      have HMe:Hid (Me.cyc P mname meths[k]=if qno P (mname,meths[k].name)=true then some (80,meths[k].pos) else none):=rfl
      have hIf:=hfI _ (List.getElem_mem hlk)
      have hqrow2:=hqrow.below (hbF2.mono hn) hqn
      rcases he2:meths[k] with ⟨fname,⟨bad,bcap,bbody⟩,fpos⟩
      have hc3r:=qun hqrow2 k hlk (by rw[he2];rfl)
      rw[he2] at HMe hIf
      rw[he2] at HD2
      simp only[Bl.slice] at hc3r
      simp only at HMe
      obtain⟨d0,d1,d2⟩:=hc3r
      have hfl:=hIf.1
      simp only at hfl
      have hvl:qct (mname,fname):=by unfold qct maxLen;unfold Len at hml hfl;exact⟨by simp;omega,by simp;omega⟩
      have hqw:qb<wr.heap.size:=by have:=hbF2.size;omega
      obtain⟨bF,hBF,hzF⟩:=qal wr #[.string fname,.slice bad bbody.length bcap,.int .i64 fpos] 56
      have hcg:=hc3 b wB.heap.size (wr.alloc (.cells #[.string fname,.slice bad bbody.length bcap,.int .i64 fpos] 56)) (by have:=hbx2.size;simp;omega) (hbk.below (hbx2.tr qaa hBF)) mname fname hvl
      have m0:=(hBF.cell (p:=⟨Bm,0,none⟩) (by show Bm<_;exact (Array.getElem?_eq_some_iff.1 bXi).1)).trans (cellOf bXi 0)
      simp at m0
      obtain⟨G,hG⟩:∃G,qno P (mname,fname)=G:=⟨_,rfl⟩
      rw[hG] at hcg HMe
      clear he2 hG hqrow2 hIf
      cases G
      ·simp only[Bool.false_eq_true,if_false] at HMe
       go_wp2_with (go_at_call 42;(with_reducible refine hcg.mono ?_);rintro r wE ⟨rfl,bb5⟩)
       go_roundw
       case rel=>exact⟨k+1,by omega,by go_num,by show _=_;rw[HQ2.out,HD2.out,HMe.out];rfl,(hbx.tr qaa hBF).tr qaa bb5⟩
       case measure=>simp[intOf];omega
      ·simp only[if_true] at HMe
       have HE:Hid (cc=(80,fpos)):=by
        show _=_
        rw[HCC.out,HQ.out,HD.out,HMU.out,HQ2.out,HD2.out,HMe.out];rfl
       go_wp2_with (go_at_call 42;(with_reducible refine hcg.mono ?_);rintro r wE ⟨rfl,bb5⟩;have f2:=(bb5.cell (p:=⟨wr.heap.size,2,none⟩) (by show wr.heap.size<_;simp)).trans (cellOf bF 2);simp at f2)
       go_quiet (fail)
       go_wp2
       go_ret2
       exact qa3 HE.out (below_drewN ((hbF2.tr qaa hBF).tr qaa bb5) _)
     ·have hkd:decide ((k:Int)<(meths.length:Int))=false:=by simp;omega
      have HE:Hid (qas (Mo.cyc P) mons=qas (Mo.cyc P) (mons.drop (j+1))):=by
       show _=_
       rw[HQ.out,HD.out,HMU.out,HQ2.out,qck _ _ _ (by omega)];rfl
      go_wp2
      go_roundw
      case rel=>exact⟨j+1,by omega,by go_num,HE,hbx2⟩
      case measure=>simp[intOf];omega
   ·have hjd:decide ((j:Int)<(mons.length:Int))=false:=by simp;omega
    have HC2:Hid (cc=(qas (Ro.big P) roles).getD (0,0)):=by
     show _=_
     rw[HCC.out,HQ.out,qck _ _ _ (by omega)];rfl
    clear HCC HQ
    have b4:=(hbw.block w.heap.size (Array.getElem?_eq_some_iff.1 b3).1).trans b3
    have q0:=cellOf b4 0
    have q1:=cellOf b4 1
    simp at q0 q1
    obtain⟨wC,hu3⟩:∃wC:World,wC=wr:=⟨_,rfl⟩
    subst hu3
    go_wp2
    clear q0 q1
    go_loopw [54] (λi wx=>∃k:Nat,k<=roles.length/\i=.int .i64 k/\Hid (qas (Ro.big P) roles=qas (Ro.big P) (roles.drop k))/\Below wB.heap.size wB wx)
     (λi _=>roles.length-(intOf i).toNat)
    case atStart=>exact⟨0,by omega,rfl,rfl,hbw⟩
    case round =>
     obtain⟨k,hk,rfl,HQ2,hbx⟩:=hrel
     have hzx:=hbx.size
     have hbF2:Below w.heap.size w wr:=hB2.tr qaa hbx
     by_cases hlk:k<roles.length
     ·rcases h5.2.2 with h|⟨qb,qoff,rfl,hqn,hqrow⟩
      ·subst h;simp at hlk
      have HD2:=hid (qb6 (Ro.big P) roles k hlk)
      have HMe:Hid (Ro.big P roles[k]=if (qc9 P roles[k].body).2=81 then some (81,roles[k].pos) else none):=rfl
      have hIr:=h6 _ (List.getElem_mem hlk)
      have hcr:=λ(W:World) (hW:Below wr.heap.size wr W)=>hc4 b wB.heap.size W (by have:=hW.size;omega) (hbk.below (hbx.tr qaa hW)) roles[k] (List.getElem_mem hlk) ((hIr.2.2.2.below ((hbF2.tr qaa hW).mono hn)).mono (by omega))
      have hqrow2:=hqrow.below (hbF2.mono hn) hqn
      rcases he2:roles[k] with ⟨rname,rstar,rcount,⟨bad,bcap,bbody⟩,rpos⟩
      have hc5r:=qup hqrow2 k hlk (by rw[he2];rfl)
      rw[he2] at HMe
      rw[he2] at HD2
      simp only[he2] at hcr
      simp only[Bl.slice] at hc5r hcr
      simp only at HMe
      obtain⟨d0,d1,d2,d3,d4⟩:=hc5r
      have hqw:qb<wr.heap.size:=by have:=hbF2.size;omega
      obtain⟨bF,hBF,hzF⟩:=qal wr #[.string rname,.bool rstar,.int .i64 rcount,.slice bad bbody.length bcap,.int .i64 rpos] 59
      have hcg:=hcr _ hBF
      obtain⟨cn,hcn⟩:∃cn,qc9 P (.mk bad bcap bbody)=cn:=⟨_,rfl⟩
      rw[hcn] at hcg HMe
      obtain⟨c1,c2⟩:=cn
      simp only[qmv] at hcg
      simp only at HMe
      clear he2 hcn hcr hqrow2 hIr
      cases hc81:(c2==81:Bool)
      ·have hne:¬ c2=81:=by simpa using hc81
       rw[if_neg hne] at HMe
       go_wp2_with (go_at_call 43;(with_reducible refine hcg.mono ?_);rintro r wE ⟨rfl,bb5⟩)
       go_roundw
       case rel=>exact⟨k+1,by omega,by go_num,by show _=_;rw[HQ2.out,HD2.out,HMe.out];rfl,(hbx.tr qaa hBF).tr qaa bb5⟩
       case measure=>simp[intOf];omega
      ·have he:c2=81:=by simpa using hc81
       subst he
       rw[if_pos rfl] at HMe
       have HE:Hid (cc=(81,rpos)):=by
        show _=_
        rw[HC2.out,HQ2.out,HD2.out,HMe.out];rfl
       go_wp2_with (go_at_call 43;(with_reducible refine hcg.mono ?_);rintro r wE ⟨rfl,bb5⟩;have f2:=(bb5.cell (p:=⟨wr.heap.size,4,none⟩) (by show wr.heap.size<_;simp)).trans (cellOf bF 4);simp at f2)
       go_quiet (fail)
       go_wp2
       go_ret2
       exact qa3 HE.out (below_drewN ((hbF2.tr qaa hBF).tr qaa bb5) _)
     ·have hkd:decide ((k:Int)<(roles.length:Int))=false:=by simp;omega
      have HE:Hid (cc=(0,0)):=by
       show _=_
       rw[HC2.out,HQ2.out,qck _ _ _ (by omega)];rfl
      go_wp2
      go_ret2
      exact qa3 HE.out hbF2
 ·have hne:¬ tc1=0:=by simpa using hte
  rw[if_neg hne] at HCC
  go_enter Tryz.func26,Tryz.ntmps26
  go_wp2_with (go_at_call 40;(with_reducible refine (hc1 _ hB).mono ?_);rintro r wA ⟨rfl,bb1⟩)
  go_ret2
  exact qa3 HCC.out (hB.tr qaa bb1)
open Go.RowKit
open Go.RowKit
theorem qg4 (y:Bl):y.clr.subs=y.subs.map St.clr:=
 Bl.ind (P:=λs=>s.clr.subs=s.subs.map St.clr) (Q:=λb=>b.clr.subs=b.subs.map St.clr)
  (λkind mon name n e ad cap blocks pos ih=>by
   rw[St.clr_mk,St.subs_mk,St.subs_mk,List.map_cons,St.clr_mk,List.flatMap_map,List.map_flatMap]
   congr 1
   clear ad cap
   induction blocks with
   | nil=>rfl
   | cons b l ihl=>rw[List.flatMap_cons,List.flatMap_cons,ih b (by simp),ihl (λx hx=>ih x (by simp[hx]))])
  (λad cap body ih=>by
   rw[Bl.clr_mk,Bl.subs_mk,Bl.subs_mk,List.flatMap_map,List.map_flatMap]
   clear ad cap
   induction body with
   | nil=>rfl
   | cons b l ihl=>rw[List.flatMap_cons,List.flatMap_cons,ih b (by simp),ihl (λx hx=>ih x (by simp[hx]))]) y
theorem qzd (s:St):s.clr.ok1=s.ok1:=by rcases s with ⟨a1,a2,a3,a4,a5,a6,a7,a8,a9⟩;rw[St.clr_mk];simp[St.ok1]
theorem qze (y:Bl):y.clr.okB=y.okB:=by
 rw[Bl.okB,Bl.okB,qg4,List.all_map]
 congr 1
 funext s
 exact qzd s
theorem qgc {P Q:St->Prop}{f:Ref->Bl}(h1:∀s,P s->Q (s.inl f)) (hf:∀s,P s->s.kind=8->∀t∈(f s.ref).subs,Q t) (x:Bl):(∀s∈x.subs,P s)->∀t∈(x.inl f).subs,Q t:=
 Bl.ind (P:=λs=>(∀t∈s.subs,P t)->∀t∈(s.inl f).subs,Q t) (Q:=λb=>(∀t∈b.subs,P t)->∀t∈(b.inl f).subs,Q t)
  (λkind mon name n e ad cap blocks pos ih hP t ht=>by
   have hs:=hP _ (qau _)
   have hq:=h1 _ hs
   by_cases hk:kind=8
   ·subst hk
    rw[St.inl_call] at ht hq
    rw[St.subs_mk] at ht
    rcases List.mem_cons.1 ht with rfl|ht
    ·exact hq
    ·simp only[List.flatMap_cons,List.flatMap_nil,List.append_nil] at ht
     exact hf _ hs rfl t ht
   ·rw[St.inl_other _ _ hk] at ht hq
    rw[St.subs_mk] at ht
    rcases List.mem_cons.1 ht with rfl|ht
    ·exact hq
    ·rw[List.flatMap_map] at ht
     obtain⟨b,hb,ht⟩:=List.mem_flatMap.1 ht
     exact ih b hb (λu hu=>hP u (by rw[St.subs_mk];exact List.mem_cons_of_mem _ (List.mem_flatMap.2 ⟨b,hb,hu⟩))) t ht)
  (λad cap body ih hP t ht=>by
   rw[Bl.inl_mk,Bl.subs_mk,List.flatMap_map] at ht
   obtain⟨s,hs,ht⟩:=List.mem_flatMap.1 ht
   exact ih s hs (λu hu=>hP u (by rw[Bl.subs_mk];exact List.mem_flatMap.2 ⟨s,hs,hu⟩)) t ht) x
theorem qol:qfo zeroEx (qeq (7:Int).toNat)=true:=by kernel_rfl
theorem qs6 (f:Ref->Bl) (s:St) (h:s.ok1=true):(s.inl f).ok1=true:=by
 rcases s with ⟨kind,mon,name,n,e,ad,cap,blocks,pos⟩
 by_cases hk:kind=8
 ·subst hk
  rw[St.inl_call]
  simp only[St.ok1,Bool.and_eq_true,decide_eq_true_eq] at h ⊢
  refine⟨⟨by decide,by decide⟩,⟨⟨⟨⟨h.2.1.1.1.1.1,by kernel_rfl⟩,by kernel_rfl⟩,qol⟩,by show qcr (Int.toNat 7)<=1;decide⟩,by show 1<=qdv (Int.toNat 7);decide⟩
 ·rw[St.inl_other _ _ hk]
  simpa[St.ok1] using h
theorem qon {p:Pr}(h:p.ok=true) (r:Ref):(qam p r).okB=true:=by
 rw[qam]
 split
 ·rename_i f hf
  obtain⟨m,hm,hfm⟩:=qb8 hf
  exact qt4 h m hm f hfm
 ·rw[Bl.okB,Bl.subs_mk];rfl
theorem qd8 {x:Bl}:x.okB=true↔∀s∈x.subs,s.ok1=true:=by rw[Bl.okB,List.all_eq_true]
theorem qzw {p:Pr}(h:p.ok=true) (N:Nat):∀r,∀t∈(qd2 p N r).subs,t.ok1=true:=by
 induction N with
 | zero=>intro r t ht;simp[qd2,Bl.subs_mk] at ht
 | succ N ih=>intro r;exact qgc (P:=λs=>s.ok1=true) (Q:=λt=>t.ok1=true) (λs hs=>qs6 _ s hs) (λs _ _=>ih s.ref) (qam p r) (qd8.1 (qon h r))
theorem qzx {p:Pr}(h:p.ok=true) (N:Nat) {x:Bl}(hx:x.okB=true):(x.inl (qd2 p N)).okB=true:=
 qd8.2 (qgc (P:=λs=>s.ok1=true) (Q:=λt=>t.ok1=true) (λs hs=>qs6 _ s hs) (λs _ _=>qzw h N s.ref) x (qd8.1 hx))
theorem qs5 (f:Ref->Bl) (x:Bl):(∀s∈x.subs,s.kind=8->s.blocks=[])->(x.inl f).subs.length=(x.subs.map λs=>if s.kind=8 then 1+(f s.ref).subs.length else 1).sum:=
 Bl.ind (P:=λs=>(∀t∈s.subs,t.kind=8->t.blocks=[])->(s.inl f).subs.length=(s.subs.map λs=>if s.kind=8 then 1+(f s.ref).subs.length else 1).sum)
  (Q:=λb=>(∀t∈b.subs,t.kind=8->t.blocks=[])->(b.inl f).subs.length=(b.subs.map λs=>if s.kind=8 then 1+(f s.ref).subs.length else 1).sum)
  (λkind mon name n e ad cap blocks pos ih hP=>by
   have hs:=hP _ (qau _)
   by_cases hk:kind=8
   ·subst hk
    have hb:blocks=[]:=hs rfl
    subst hb
    rw[St.inl_call,St.subs_mk,St.subs_mk]
    simp[St.kind,St.ref];omega
   ·rw[St.inl_other _ _ hk,St.subs_mk,St.subs_mk,List.flatMap_map,List.length_cons,List.map_cons,List.sum_cons,if_neg (show ¬ (St.mk kind mon name n e ad cap blocks pos).kind=8 from hk)]
    have hP2:∀b∈blocks,∀t∈b.subs,t.kind=8->t.blocks=[]:=λb hb t ht=>hP t (by rw[St.subs_mk];exact List.mem_cons_of_mem _ (List.mem_flatMap.2 ⟨b,hb,ht⟩))
    have:(blocks.flatMap λb=>(b.inl f).subs).length=((blocks.flatMap Bl.subs).map λs=>if s.kind=8 then 1+(f s.ref).subs.length else 1).sum:=by
     clear hP hs
     induction blocks with
     | nil=>rfl
     | cons b l ihl=>rw[List.flatMap_cons,List.flatMap_cons,List.length_append,List.map_append,List.sum_append,ih b (by simp) (hP2 b (by simp)),ihl (λx hx=>ih x (by simp[hx])) (λx hx=>hP2 x (by simp[hx]))]
    omega)
  (λad cap body ih hP=>by
   rw[Bl.inl_mk,Bl.subs_mk,Bl.subs_mk,List.flatMap_map]
   have hP2:∀b∈body,∀t∈b.subs,t.kind=8->t.blocks=[]:=λb hb t ht=>hP t (by rw[Bl.subs_mk];exact List.mem_flatMap.2 ⟨b,hb,ht⟩)
   clear hP
   induction body with
   | nil=>rfl
   | cons b l ihl=>rw[List.flatMap_cons,List.flatMap_cons,List.length_append,List.map_append,List.sum_append,ih b (by simp) (hP2 b (by simp)),ihl (λx hx=>ih x (by simp[hx])) (λx hx=>hP2 x (by simp[hx]))]) x
theorem qhj {s:St}(h:s.ok1=true) (hk:s.kind=8):s.blocks=[]:=by
 rcases s with ⟨kind,mon,name,n,e,ad,cap,blocks,pos⟩
 have hk:kind=8:=hk
 subst hk
 simp only[St.ok1,Bool.and_eq_true,decide_eq_true_eq] at h
 have h1:=h.2.2
 have h2:qdv (8:Int).toNat=0:=by kernel_rfl
 rw[h2] at h1
 exact List.eq_nil_of_length_eq_zero (Nat.le_zero.1 h1)
theorem qyy {l:List Nat}{a:Nat}(h:a∈l):a<=l.sum:=by
 induction l with
 | nil=>cases h
 | cons b l ih =>
  rw[List.sum_cons]
  rcases List.mem_cons.1 h with rfl|h
  ·omega
  ·have:=ih h;omega
theorem qwq {p:Pr}{x:Bl}{R:List Ref}{Z:List (Ref × Nat)}(hok:p.ok=true) (hg:Good p x R Z) (N:Nat):∀r∈R,qv1 R r<N->qb1 Z r<=400->qb1 Z r=1+(qd2 p N r).subs.length:=by
 induction N with
 | zero=>intro r _ h;omega
 | succ N ih =>
  intro r hr hk hs
  have h1:=hg.size r hr
  have h2:tot Z (qam p r)<=399:=by omega
  have h3:qb1 Z r=1+tot Z (qam p r):=by omega
  rw[h3]
  congr 1
  have hb:=qd8.1 (qon hok r)
  show tot Z (qam p r)=((qam p r).inl (qd2 p N)).subs.length
  rw[qs5 _ _ (λs hs hk=>qhj (hb s hs) hk)]
  unfold tot sumOf at h2 ⊢
  congr 1
  refine List.map_congr_left λs hs=>?_
  unfold qku
  split
  ·rename_i hk8
   have hm:s.ref∈qae p r:=(qbp _ _).2 ⟨s,hs,hk8,rfl⟩
   obtain⟨h4,h5⟩:=hg.leads r hr _ hm
   refine ih _ h4 (by omega) ?_
   have h6:qku Z s<=((qam p r).subs.map (qku Z)).sum:=qyy (List.mem_map.2 ⟨s,hs,rfl⟩)
   unfold qku at h6
   rw[if_pos hk8] at h6
   have h7:((qam p r).subs.map (qku Z)).sum=((qam p r).subs.map λs=>if s.kind=8 then qb1 Z s.ref else 1).sum:=rfl
   omega
  ·rfl
theorem qow {p:Pr}{x:Bl}{n:Nat}(hok:p.ok=true) (hx:x.okB=true) (h:qc9 p x=(n,0)):(x.inl (qd2 p (qab p (qac x)).length)).subs.length=n/\n<=400:=by
 obtain⟨Z,hg,ht,hn⟩:=qst h
 refine⟨?_,hn⟩
 have hb:=qd8.1 hx
 rw[qs5 _ _ (λs hs hk=>qhj (hb s hs) hk),<- ht]
 unfold tot sumOf
 congr 1
 refine List.map_congr_left λs hs=>?_
 unfold qku
 split
 ·rename_i hk8
  have hm:s.ref∈qac x:=(qbp _ _).2 ⟨s,hs,hk8,rfl⟩
  have h4:=hg.root _ hm
  refine (qwq hok hg _ _ h4 (qn9 h4) ?_).symm
  have h6:qku Z s<=(x.subs.map (qku Z)).sum:=qyy (List.mem_map.2 ⟨s,hs,rfl⟩)
  unfold qku at h6
  rw[if_pos hk8] at h6
  have h7:tot Z x=(x.subs.map λs=>if s.kind=8 then qb1 Z s.ref else 1).sum:=rfl
  omega
 ·rfl
open Go.RowKit
theorem qls (l:List St):l.length<=(l.map St.sz).sum:=by
 induction l with
 | nil=>simp
 | cons s l ih =>
  rw[List.length_cons,List.map_cons,List.sum_cons]
  have:1<=s.sz:=by unfold St.sz;omega
  omega
theorem qk2 (b:Bl):b.body.length<=b.subs.length:=by
 rcases b with ⟨a,c,body⟩
 rw[Bl.subs_mk]
 exact qlr St.subs body (λs _=>List.length_pos_of_mem (qau s))
theorem qoo (b:Bl):(qac b).length<=b.subs.length:=by
 have:=qeu b.subs []
 simpa[qac] using this
theorem qso {α β γ:Type}(f:α->List β) (g:α->List γ) (l:List α) (h:∀x∈l,(f x).length<=(g x).length):(l.flatMap f).length<=(l.flatMap g).length:=by
 induction l with
 | nil=>simp
 | cons x l ih =>
  rw[List.flatMap_cons,List.flatMap_cons,List.length_append,List.length_append]
  have h1:=h x (by simp)
  have h2:=ih (λy hy=>h y (by simp[hy]))
  omega
theorem qi6 {p:Pr}(h:p.size<=400):Fine0 p:=by
 have h1:p.stmts.length<=400:=Nat.le_trans (qls _) h
 have h2:(p.mons.flatMap λm=>m.meths.flatMap λx=>x.body.subs).length<=400:=by
  have:p.stmts=(p.mons.flatMap λm=>m.meths.flatMap λx=>x.body.subs)++p.roles.flatMap λr=>r.body.subs:=rfl
  rw[this,List.length_append] at h1;omega
 have h3:∀m∈p.mons,∀f∈m.meths,f.body.subs.length<=400:=λm hm f hf=>by
  have a1:=qd6 (λm:Mo=>m.meths.flatMap λx=>x.body.subs) p.mons m hm
  have a2:=qd6 (λx:Me=>x.body.subs) m.meths f hf
  omega
 have h4:(qaj p).length<=400:=Nat.le_trans (qso _ _ p.mons λm _=>qso _ _ m.meths λf _=>qoo f.body) h2
 refine⟨λm hm f hf=>by have:=h3 m hm f hf;omega,λm hm f hf=>by have:=h3 m hm f hf;have:=qk2 f.body;omega,by omega,λr=>?_⟩
 unfold qae qam
 split
 ·rename_i f hf
  obtain⟨m,hm,hfm⟩:=qb8 hf
  have:=h3 m hm f hfm;have:=qoo f.body;omega
 ·rw[qac,Bl.subs_mk];simp[qav]
open Go.RowKit
theorem qp7 {p:Pr}{x:Bl}{n:Nat}{e:Int}(h:qba p x=(n,e)) (he:e=0):p.ok=true/\x.okB=true/\qc9 p x=(n,0):=by
 unfold qba at h
 split at h
 ·rename_i hk
  have:=Bool.and_eq_true_iff.1 hk
  exact⟨this.1,this.2,by rw[h,he]⟩
 ·injection h with h1 h2;omega
open Go.RowKit
def Ord (G:Ref->List Ref) (A:List Ref):Prop:=∀(i:Nat) (h:i<A.length),∀y∈G A[i],y∈A.take i
theorem Ord.snoc {G:Ref->List Ref}{A:List Ref}(h:Ord G A) {r:Ref}(hr:∀y∈G r,y∈A):Ord G (A++[r]):=by
 intro i hi y hy
 rw[List.length_append,List.length_singleton] at hi
 by_cases hlt:i<A.length
 ·rw[List.getElem_append_left hlt] at hy
  rw[List.take_append_of_le_length (by omega)]
  exact h i hlt y hy
 ·have hi2:i=A.length:=by omega
  subst hi2
  rw[List.getElem_append_right (by omega)] at hy
  simp at hy
  rw[List.take_left]
  exact hr y hy
theorem qzh {G:Ref->List Ref}{U:List Ref}{D:Ref->Prop}{rk:Ref->Nat}(hUc:∀r∈U,∀x∈G r,x∈U) (hU:∀r,D r->r∈U/\∀x∈G r,D x/\rk x<rk r) (n:Nat):∀(st:List Ref × List Ref) (r:Ref),D r->left U st.1<=n->Ord G st.2->(∀x∈st.1,x∈st.2\/rk r<rk x)->Ord G (dfs G n st r).2:=by
 induction n with
 | zero=>intro st r _ _ h _;exact h
 | succ n ih =>
  rintro⟨S,A⟩ r hr hl ho hp
  by_cases hm:r∈S
  ·rw[qcu hm];exact ho
  ·rw[qdz hm]
   have hl2:=qdd (hU r hr).1 hm
   simp only at hl ho hp
   have hf:∀(l:List Ref),(∀x∈l,D x/\rk x<rk r)->∀st:List Ref × List Ref,left U st.1<=n->Ord G st.2->(∀x∈st.1,x∈st.2\/rk r<=rk x) ->
     Ord G (l.foldl (dfs G n) st).2/\(∀x∈(l.foldl (dfs G n) st).1,x∈(l.foldl (dfs G n) st).2\/rk r<=rk x)/\∀x∈l,x∈(l.foldl (dfs G n) st).1:=by
    intro l
    induction l with
    | nil=>intro _ st _ h1 h2;exact⟨h1,h2,λx hx=>by cases hx⟩
    | cons y l ihl =>
     intro hl st hs h1 h2
     obtain⟨hy1,hy2⟩:=hl y (by simp)
     have hd:=qfm hUc n st y (hU y hy1).1 hs
     have ho:=ih st y hy1 hs h1 (λx hx=>by
      rcases h2 x hx with h|h
      ·exact .inl h
      ·exact .inr (by omega))
     have hlm:=qcb (U:=U) (qdy G n st y)
     obtain⟨g1,g2,g3⟩:=ihl (λz hz=>hl z (by simp[hz])) (dfs G n st y) (by omega) ho (λx hx=>by
      rcases hd.2 x hx with h|h
      ·rcases h2 x h with h|h
       ·exact .inl (qek G n st y x h)
       ·exact .inr h
      ·exact .inl h)
     refine⟨g1,g2,λx hx=>?_⟩
     rcases List.mem_cons.1 hx with rfl|hx
     ·exact qbx G n l _ x hd.1
     ·exact g3 x hx
   obtain⟨g1,g2,g3⟩:=hf (G r) (hU r hr).2 (S++[r],A) (by show left U (S++[r])<=n;omega) ho (λx hx=>by
    rcases List.mem_append.1 hx with h|h
    ·rcases hp x h with h|h
     ·exact .inl h
     ·exact .inr (by omega)
    ·rw[List.mem_singleton.1 h];exact .inr (Nat.le_refl _))
   refine g1.snoc λy hy=>?_
   rcases g2 y (g3 y hy) with h|h
   ·exact h
   ·have:=((hU r hr).2 y hy).2;omega
theorem qn8 {p:Pr}{l:List Ref}{D:Ref->Prop}{rk:Ref->Nat}(hC:∀r,D r->∀x∈qae p r,D x/\rk x<rk r) (hl:∀x∈l,D x):Ord (qae p) (qab p l):=by
 have hU:=qf8 p l
 have hD:∀r,(D r/\r∈l++qaj p)->r∈l++qaj p/\∀x∈qae p r,(D x/\x∈l++qaj p)/\rk x<rk r:=λr hr=>⟨hr.2,λx hx=>⟨⟨(hC r hr.1 x hx).1,hU r hr.2 x hx⟩,(hC r hr.1 x hx).2⟩⟩
 have key:∀(m:List Ref),(∀x∈m,D x/\x∈l++qaj p)->∀st:List Ref × List Ref,left (l++qaj p) st.1<=l.length+(qaj p).length->(∀x∈st.1,x∈st.2)->Ord (qae p) st.2->Ord (qae p) (m.foldl (dfs (qae p) (l.length+(qaj p).length)) st).2:=by
  intro m
  induction m with
  | nil=>intro _ st _ _ h;exact h
  | cons y m ih =>
   intro hm st hs h ho
   have h1:=qfm hU _ st y (hm y (by simp)).2 hs
   have h2:=qcb (U:=l++qaj p) (qdy (qae p) (l.length+(qaj p).length) st y)
   exact ih (λx hx=>hm x (by simp[hx])) (dfs (qae p) (l.length+(qaj p).length) st y) (by omega) (λx hx=>by
    rcases h1.2 x hx with h5|h5
    ·exact qek _ _ _ _ x (h x h5)
    ·exact h5) (qzh hU hD _ st y (hm y (by simp)) hs ho λx hx=>.inl (h x hx))
 have h2:left (l++qaj p) []<=l.length+(qaj p).length:=Nat.le_trans (List.length_filter_le _ _) (by simp)
 exact key l (λx hx=>⟨hl x hx,List.mem_append.2 (.inl hx)⟩) ([],[]) h2 (λx hx=>by cases hx) (λi h=>by simp at h)
theorem qfb {p:Pr}{l C:List Ref}(hC:∀r∈C,∀x∈qae p r,x∈C) (hl:∀x∈l,x∈C):∀x∈qab p l,x∈C:=
 qgt hC _ l hl ([],[]) (λx hx=>by cases hx)
theorem qrd {body:Ref->Bl}:∀(R:List Ref) (Z:List (Ref × Nat)),(∀x∈Z.map Prod.fst,qb1 Z x≠0)->(Z.map Prod.fst++R).Nodup->(∀(i:Nat) (h:i<R.length),∀y∈qac (body R[i]),y∈Z.map Prod.fst++R.take i)->∃Z',qb0 (λr=>qac (body r)) body R Z=some Z':=by
 intro R
 induction R with
 | nil=>intro Z _ _ _;exact⟨Z,rfl⟩
 | cons r R ih =>
  intro Z hz hn ho
  have h0:¬ ∃x∈qac (body r),qb1 Z x=0:=by
   rintro⟨x,hx,h⟩
   have:=ho 0 (by simp) x hx
   simp only[List.take_zero,List.append_nil] at this
   exact hz x this h
  have hrn:r ∉ Z.map Prod.fst:=by
   intro hm
   exact (List.nodup_append.1 hn).2.2 r hm r (by simp) rfl
  rw[qb0,if_neg h0]
  refine ih _ (λx hx=>?_) (by simpa using hn) (λi hi y hy=>?_)
  ·by_cases hxz:x∈Z.map Prod.fst
   ·rw[qmi hxz];exact hz x hxz
   ·have hxr:x=r:=by
     rw[List.map_append] at hx
     rcases List.mem_append.1 hx with h|h
     ·exact absurd h hxz
     ·simpa using h
    subst hxr
    have:=qmj (E:=[]) (v:=1+min 401 (tot Z (body x))) hrn
    rw[List.append_nil] at this
    rw[this];omega
  ·have:=ho (i+1) (by simpa using hi) y hy
   simpa[or_assoc] using this
theorem qp6 {p:Pr}{x:Bl}{C:List Ref}{rk:Ref->Nat}(hC:∀r∈C,∀y∈qae p r,y∈C/\rk y<rk r) (hroot:∀r∈qac x,r∈C) (hk:∀r∈C,qar p.mons r.1 r.2≠none) :
  ∃Z,Good p x (qab p (qac x)) Z/\qc9 p x=if 400<min 401 (tot Z x) then (0,81) else (min 401 (tot Z x),0):=by
 have hmin:=qfb (λr hr y hy=>(hC r hr y hy).1) hroot
 have hord:=qn8 (D:=λr=>r∈C) hC hroot
 have hnd:=qcc p (qac x)
 have hkn:¬ ∃r∈qab p (qac x),qar p.mons r.1 r.2=none:=λ⟨r,hr,h⟩=>hk r (hmin r hr) h
 obtain⟨Z,hz⟩:=qrd (body:=qam p) (qab p (qac x)) [] (λx hx=>by cases hx) (by simpa using hnd) (λi hi y hy=>by simpa using hord i hi y hy)
 obtain⟨-,g2,g3,g4⟩:=qfd (body:=qam p) _ _ _ hz (by simpa using hnd)
 refine⟨Z,⟨qd9 p _,hnd,λr hr y hy=>?_,g4,λr hr=>hk r (hmin r hr)⟩,?_⟩
 ·obtain⟨i,hi,rfl⟩:=List.getElem_of_mem hr
  have h2:=hord i hi y hy
  obtain⟨k,hk2,rfl⟩:=List.getElem_of_mem h2
  rw[List.length_take] at hk2
  rw[List.getElem_take]
  exact⟨List.getElem_mem _,by rw[qgm hnd,qgm hnd hi];omega⟩
 ·rw[qfl,if_neg hkn]
  show qoq _ (qb0 (λr=>qac (qam p r)) (qam p) (qab p (qac x)) [])=_
  rw[hz];rfl
open Go.RowKit
theorem qqa {G:Ref->List Ref}{U:List Ref}(hU:∀r∈U,∀x∈G r,x∈U) (n:Nat):∀(st:List Ref × List Ref) (r:Ref),r∈U->left U st.1<=n->(∀x∈st.2,∀y∈G x,y∈st.1)->∀x∈(dfs G n st r).2,∀y∈G x,y∈(dfs G n st r).1:=by
 induction n with
 | zero=>intro st r _ _ h;exact h
 | succ n ih =>
  rintro⟨S,A⟩ r hr hl hc
  by_cases hm:r∈S
  ·rw[qcu hm];exact hc
  ·rw[qdz hm]
   have hl2:=qdd hr hm
   simp only at hl hc
   have hf:∀(l:List Ref),(∀x∈l,x∈U)->∀st:List Ref × List Ref,left U st.1<=n->(∀x∈st.2,∀y∈G x,y∈st.1) ->
     (∀x∈(l.foldl (dfs G n) st).2,∀y∈G x,y∈(l.foldl (dfs G n) st).1)/\∀x∈l,x∈(l.foldl (dfs G n) st).1:=by
    intro l
    induction l with
    | nil=>intro _ st _ h;exact⟨h,λx hx=>by cases hx⟩
    | cons z l ihl =>
     intro hl st hs h
     have hd:=qfm hU n st z (hl z (by simp)) hs
     have hlm:=qcb (U:=U) (qdy G n st z)
     obtain⟨g1,g2⟩:=ihl (λx hx=>hl x (by simp[hx])) (dfs G n st z) (by omega) (ih st z (hl z (by simp)) hs h)
     refine⟨g1,λx hx=>?_⟩
     rcases List.mem_cons.1 hx with rfl|hx
     ·exact qbx G n l _ x hd.1
     ·exact g2 x hx
   obtain⟨g1,g2⟩:=hf (G r) (hU r hr) (S++[r],A) (by show left U (S++[r])<=n;omega) (λx hx y hy=>List.mem_append.2 (.inl (hc x hx y hy)))
   intro x hx y hy
   rcases List.mem_append.1 hx with h|h
   ·exact g1 x h y hy
   ·rw[List.mem_singleton.1 h] at hy
    exact g2 y hy
theorem qdm (p:Pr) (l:List Ref):∀r∈qab p l,∀y∈qae p r,y∈qab p l:=by
 have hU:=qf8 p l
 have key:∀(m:List Ref),(∀x∈m,x∈l++qaj p)->∀st:List Ref × List Ref,left (l++qaj p) st.1<=l.length+(qaj p).length->(∀x∈st.1,x∈st.2)->(∀x∈st.2,∀y∈qae p x,y∈st.1) ->
   (∀x∈(m.foldl (dfs (qae p) (l.length+(qaj p).length)) st).1,x∈(m.foldl (dfs (qae p) (l.length+(qaj p).length)) st).2)/\∀x∈(m.foldl (dfs (qae p) (l.length+(qaj p).length)) st).2,∀y∈qae p x,y∈(m.foldl (dfs (qae p) (l.length+(qaj p).length)) st).1:=by
  intro m
  induction m with
  | nil=>intro _ st _ h1 h2;exact⟨h1,h2⟩
  | cons z m ih =>
   intro hm st hs h1 h2
   have hd:=qfm hU _ st z (hm z (by simp)) hs
   have hlm:=qcb (U:=l++qaj p) (qdy (qae p) (l.length+(qaj p).length) st z)
   exact ih (λx hx=>hm x (by simp[hx])) _ (by omega) (λx hx=>by
    rcases hd.2 x hx with h5|h5
    ·exact qek _ _ _ _ x (h1 x h5)
    ·exact h5) (qqa hU _ st z (hm z (by simp)) hs h2)
 have h2:left (l++qaj p) []<=l.length+(qaj p).length:=Nat.le_trans (List.length_filter_le _ _) (by simp)
 obtain⟨h3,h4⟩:=key l (λx hx=>List.mem_append.2 (.inl hx)) ([],[]) h2 (λx hx=>by cases hx) (λx hx=>by cases hx)
 exact λr hr y hy=>h3 y (h4 r hr y hy)
def qmw (p:Pr) (r:Ref):Prop:=r∈qab p (qae p r)
theorem qxi {A B:List Ref}(hA:A.Nodup) (h:∀x∈A,x∈B):A.length<=B.length:=by
 induction A generalizing B with
 | nil=>simp
 | cons a A ih =>
  obtain⟨ha,hA'⟩:=List.nodup_cons.1 hA
  obtain⟨i,hi,he⟩:=List.getElem_of_mem (h a (by simp))
  have h2:=ih (B:=B.eraseIdx i) hA' (λx hx=>by
   obtain⟨k,hk,hke⟩:=List.getElem_of_mem (h x (by simp[hx]))
   have hne:k≠i:=by rintro rfl;exact ha (by rw[<- he,hke];exact hx)
   rw[List.mem_eraseIdx_iff_getElem]
   exact⟨k,hk,hne,hke⟩)
  have h3:=List.length_eraseIdx_of_lt hi
  simp only[List.length_cons];omega
theorem qxj {A B:List Ref}(hA:A.Nodup) (h:∀x∈A,x∈B) {y:Ref}(hy:y∈B) (hn:y ∉ A):A.length<B.length:=by
 have h2:=qxi (A:=y::A) (B:=B) (List.nodup_cons.2 ⟨hn,hA⟩) (λx hx=>by
  rcases List.mem_cons.1 hx with rfl|hx
  ·exact hy
  ·exact h x hx)
 rw[List.length_cons] at h2
 omega
theorem qAp {p:Pr}{C:List Ref}(hC:∀r∈C,∀y∈qae p r,y∈C) (hn:∀r∈C,¬ qmw p r):∀r∈C,∀y∈qae p r,y∈C/\(qab p (qae p y)).length<(qab p (qae p r)).length:=by
 intro r hr y hy
 refine⟨hC r hr y hy,?_⟩
 have h1:y∈qab p (qae p r):=qd9 p _ y hy
 refine qxj (qcc p _) (qfb (qdm p _) (λx hx=>qdm p _ y h1 x hx)) h1 ?_
 exact hn y (hC r hr y hy)
theorem qt2 {p:Pr}{C:List Ref}{rk:Ref->Nat}(hC:∀r∈C,∀y∈qae p r,y∈C/\rk y<rk r):∀r∈C,¬ qmw p r:=by
 intro r hr h
 have h1:∀x∈C.filter (λx=>decide (rk x<rk r)),∀y∈qae p x,y∈C.filter (λx=>decide (rk x<rk r)):=by
  intro x hx y hy
  rw[List.mem_filter] at hx ⊢
  have h2:=hC x hx.1 y hy
  have h3:rk x<rk r:=by simpa using hx.2
  exact⟨h2.1,by simp;omega⟩
 have h4:=qfb h1 (l:=qae p r) (λx hx=>by
  rw[List.mem_filter]
  have h2:=hC r hr x hx
  exact⟨h2.1,by simpa using h2.2⟩) r h
 rw[List.mem_filter] at h4
 simp at h4
theorem qsh (p:Pr) (x:Bl) :
  ((∃r∈qab p (qac x),qar p.mons r.1 r.2=none)/\qc9 p x=(0,61)) \/
  ((∀r∈qab p (qac x),qar p.mons r.1 r.2≠none)/\(∃r∈qab p (qac x),qmw p r)/\qc9 p x=(0,80)) \/
  ((∀r∈qab p (qac x),qar p.mons r.1 r.2≠none)/\(∀r∈qab p (qac x),¬ qmw p r)/\∃Z,Good p x (qab p (qac x)) Z/\qc9 p x=if 400<min 401 (tot Z x) then (0,81) else (min 401 (tot Z x),0)):=by
 by_cases hk:∃r∈qab p (qac x),qar p.mons r.1 r.2=none
 ·left;refine⟨hk,?_⟩
  rw[qfl,if_pos hk]
 ·have hk2:∀r∈qab p (qac x),qar p.mons r.1 r.2≠none:=λr hr h=>hk ⟨r,hr,h⟩
  right
  by_cases hr:∃r∈qab p (qac x),qmw p r
  ·left;refine⟨hk2,hr,?_⟩
   rw[qfl,if_neg hk]
   cases hz:qb0 (qae p) (qam p) (qab p (qac x)) [] with
   | none=>rfl
   | some Z =>
    obtain⟨r,hr1,hr2⟩:=hr
    have hnd:=qcc p (qac x)
    obtain⟨-,g2,g3,g4⟩:=qfd (body:=qam p) _ _ _ hz (by simpa using hnd)
    exact absurd hr2 (qt2 (C:=qab p (qac x)) (rk:=qv1 (qab p (qac x))) (λr hr y hy=>by
     obtain⟨i,hi,rfl⟩:=List.getElem_of_mem hr
     have h2:=g3 i hi y hy
     simp only[List.map_nil,List.nil_append] at h2
     obtain⟨k,hk2,rfl⟩:=List.getElem_of_mem h2
     rw[List.length_take] at hk2
     rw[List.getElem_take]
     exact⟨List.getElem_mem _,by rw[qgm hnd,qgm hnd hi];omega⟩) r hr1)
  ·right
   have hr2:∀r∈qab p (qac x),¬ qmw p r:=λr h h'=>hr ⟨r,h,h'⟩
   refine⟨hk2,hr2,?_⟩
   exact qp6 (C:=qab p (qac x)) (rk:=λr=>(qab p (qae p r)).length) (qAp (qdm p _) hr2) (qd9 p _) hk2
