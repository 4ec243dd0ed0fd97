/-
  Own texts joined by program: ClL ClN ClO ClQ ClW ClX.
-/
import Derived.Test.YtfkabkbnfeiggaaGreatDoorQao
import Derived.Test.YtfkabkbnfeiggaaGreatDoorQas
namespace Go.Proofs.YtfkabkbnfeiggaaGreatDoor
open Go.RowKit
theorem eqKey {r s:Ref} (hr:VLen r) (hs:VLen s) (W:World):(Op.equal 66 (vkey r) (vkey s)).run Tryz.prog W=.ok (decide (s=r)) W:=by
 have h:=keyLaw.find W (keyOf_v hr) [⟨vkey s,.bool true,0⟩] (fun e he=>by rw[List.mem_singleton.1 he];exact⟨_,keyOf_v hs⟩)
 have hf:∀ o W',(Instr.findKey 66 (vkey r) [⟨vkey s,.bool true,0⟩]).run Tryz.prog W=.ok o W'→(Op.equal 66 (vkey r) (vkey s)).run Tryz.prog W=.ok o.isSome W':=by
  intro o W' ho
  simp only[Instr.findKey,Sem.run_bind,run_underlying Tryz.underlying66,Result.andThen,Instr.findNow,Instr.sameNow,vkey,Instr.findAsking] at ho ⊢
  cases hE:(Op.equal 66 (.agg #[.string r.1,.string r.2]) (.agg #[.string s.1,.string s.2])).run Tryz.prog W with
  | ok b w' =>
   rw[hE] at ho
   cases b
   ·simp at ho
    obtain⟨h1,h2⟩:=ho
    subst h1 h2;rfl
   ·simp at ho
    obtain⟨h1,h2⟩:=ho
    subst h1 h2;rfl
  | halt h w'=>rw[hE] at ho;simp at ho
 rcases h with ⟨h1,h2⟩|⟨j,e,h1,h2,h3⟩
 ·have hne:¬ s=r:=fun e=>h2 ⟨vkey s,.bool true,0⟩ (List.mem_singleton.2 rfl) (by show vkey s=vkey r;rw[e])
  rw[hf _ _ h1];simp[hne]
 ·have he:e=⟨vkey s,.bool true,0⟩:=by simpa using List.mem_of_getElem? h2
  rw[he] at h3
  have hse:s=r:=vkey_inj h3
  rw[hf _ _ h1];simp[hse]
theorem eqRef {a b c d:ByteArray} (hr:VLen (a,b)) (hs:VLen (c,d)) (W:World):(binOp .eql 66 (.agg #[.string a,.string b]) (.agg #[.string c,.string d])).run Tryz.prog W=.ok (.bool (decide ((c,d)=(a,b)))) W:=by
 have h:(Op.equal 66 (.agg #[.string a,.string b]) (.agg #[.string c,.string d])).run Tryz.prog W=.ok (decide ((c,d)=(a,b))) W:=eqKey hr hs W
 simp[binOp,go_sem,h]
def IxBack (l:List Ref) (r:Ref) (w w':World) (e:Ending):Prop:=((r ∉ l∧e=.returned (.int .i64 (-1)))∨(r∈l∧∃ i:Nat,i<l.length∧e=.returned (.int .i64 (i:Int))))∧Below w.heap.size w w'
set_option maxRecDepth 100000 in
set_option maxHeartbeats 4000000 in
theorem index_any (l:List Ref) (ad:Option Addr) (cap n₀:Nat) (a c:ByteArray) (w:World) (hn:n₀≤w.heap.size) (hsl:SlAt 2 rcells n₀ w ad cap l) (hr:VLen (a,c)) (hV:∀ r∈l,VLen r) :
  Calls Tryz.prog 64 #[.slice ad l.length cap,.agg #[.string a,.string c]] w fun e w'=>IxBack l (a,c) w w' e:=by
 have hl1:=hsl.1;have hl2:=hsl.2.1
 unfold maxLen at hl2
 go_enter Tryz.func64,Tryz.ntmps64
 go_upto_region 1 with fail
 obtain⟨bX,hBX,hzX⟩:=one_box w #[.string a,.string c] 66
 obtain⟨W1,hW1⟩:∃ W1,w.alloc (.cells #[.string a,.string c] 66)=W1:=⟨_,rfl⟩
 rw[hW1] at bX hBX hzX ⊢
 clear hW1
 have HZ:=hid hzX
 clear hzX
 go_wp2
 go_loopw [8] (fun i wr=>∃ k:Nat,k≤l.length∧i=.int .i64 k∧Hid ((a,c) ∉ l.take k)∧Below W1.heap.size W1 wr)
  (fun i _=>l.length-(intOf i).toNat)
 case atStart=>exact⟨0,by omega,rfl,(by show _ ∉ _;simp),Below.refl _ _⟩
 case round =>
  obtain⟨k,hk,rfl,HK,hbx⟩:=hrel
  have hzx:=hbx.size
  have hz0:=HZ.out
  have hbF:Below w.heap.size w wr:=hBX.tr (by omega) hbx
  by_cases hlk:k<l.length
  ·rcases hsl.2.2 with h|⟨tb,toff,rfl,htn,htrow⟩
   ·subst h;simp at hlk
   have htrow2:=htrow.below (hbF.mono hn) htn
   have d0:=htrow2 k hlk 0 (by omega)
   have d1:=htrow2 k hlk 1 (by omega)
   have htw:tb<wr.heap.size:=by omega
   have hvx:=hV _ (List.getElem_mem hlk)
   have HX1:Hid (l[k]=(a,c)→(a,c)∈l):=fun h=>h▸List.getElem_mem hlk
   have HX2:Hid (l[k]≠(a,c)→(a,c) ∉ l.take (k+1)):=by
    intro h hx
    rw[List.take_succ_eq_append_getElem hlk] at hx
    rcases List.mem_append.1 hx with hx|hx
    ·exact HK.out hx
    ·exact h (List.mem_singleton.1 hx).symm
   simp only[rcells] at d0 d1
   simp at d0 d1
   obtain⟨g1,hg1⟩:∃ g1,l[k]=g1:=⟨_,rfl⟩
   rw[hg1] at d0 d1 hvx HX1 HX2
   clear hg1
   obtain⟨gm,gn⟩:=g1
   simp only at d0 d1
   have heq:=fun W=>eqRef hr hvx W
   have bXr:=(hbx.block w.heap.size (by omega)).trans bX
   have y0:=cellOf bXr 0
   have y1:=cellOf bXr 1
   simp at y0 y1
   have hww:w.heap.size<wr.heap.size:=by omega
   by_cases he:(gm,gn)=(a,c)
   ·have hd:decide ((gm,gn)=(a,c))=true:=by simp[he]
    simp only[hd] at heq
    have HI:=hid (HX1.out he)
    clear HX1 HX2 he hd
    go_wp2_with fail
    go_quiet (fail)
    go_wp2
    go_ret
    exact⟨.inr ⟨HI.out,k,hlk,rfl⟩,below_drewN hbF _⟩
   ·have hd:decide ((gm,gn)=(a,c))=false:=by simp only[he,decide_false]
    simp only[hd] at heq
    have HI:=hid (HX2.out he)
    clear HX1 HX2 he hd
    go_wp2_with fail
    go_quiet (fail)
    go_wp2
    go_roundw
    case rel=>exact⟨k+1,by omega,by go_num,HI,below_drewN hbx _⟩
    case measure=>simp[intOf];omega
  ·have hkd:decide ((k:Int)<(l.length:Int))=false:=by simp;omega
   have HE:Hid ((a,c) ∉ l):=by
    have:=HK.out
    rwa [List.take_of_length_le (by omega)] at this
   go_wp2
   go_ret
   exact⟨.inl ⟨HE.out,rfl⟩,hbF⟩
set_option maxRecDepth 100000 in
set_option maxHeartbeats 4000000 in
theorem contains_any (l:List Ref) (ad:Option Addr) (cap n₀:Nat) (a c:ByteArray) (w:World) (hn:n₀≤w.heap.size) (hsl:SlAt 2 rcells n₀ w ad cap l) (hr:VLen (a,c)) (hV:∀ r∈l,VLen r) :
  Calls Tryz.prog 32 #[.slice ad l.length cap,.agg #[.string a,.string c]] w fun e w'=>e=.returned (.bool (decide ((a,c)∈l)))∧Below w.heap.size w w':=by
 have hq:=fun (W:World) (hW:Below w.heap.size w W)=>index_any l ad cap n₀ a c W (by have:=hW.size;omega) (hsl.below (hW.mono hn)) hr hV
 by_cases hm:(a,c)∈l
 ·have hd:decide ((a,c)∈l)=true:=by simp[hm]
  have hq2:∀ (W:World) (hW:Below w.heap.size w W),Calls Tryz.prog 64 #[.slice ad l.length cap,.agg #[.string a,.string c]] W fun e w'=>∃ i:Nat,e=.returned (.int .i64 (i:Int))∧Below W.heap.size W w':=fun W hW=>(hq W hW).mono (by
   rintro e w' ⟨⟨h,_⟩|⟨_,i,_,h⟩,hb⟩
   ·exact absurd hm h
   ·exact⟨i,h,hb⟩)
  rw[hd]
  clear hq hd hm
  have hB0:=(Below.refl w.heap.size w).al le_rfl' (.cells #[.string a,.string c] 66)
  go_enter Tryz.func32,Tryz.ntmps32
  go_wp2_with (go_at_call 64;(with_reducible refine (hq2 _ hB0).mono ?_);rintro r u1 ⟨i,rfl,bb1⟩;have hi0:(0:Int)≤(i:Int):=by omega)
  go_ret
  exact⟨rfl,hB0.tr le_rfl' bb1⟩
 ·have hd:decide ((a,c)∈l)=false:=by simp only[hm,decide_false]
  have hq2:∀ (W:World) (hW:Below w.heap.size w W),Calls Tryz.prog 64 #[.slice ad l.length cap,.agg #[.string a,.string c]] W fun e w'=>e=.returned (.int .i64 (-1))∧Below W.heap.size W w':=fun W hW=>(hq W hW).mono (by
   rintro e w' ⟨⟨_,h⟩|⟨h,_⟩,hb⟩
   ·exact⟨h,hb⟩
   ·exact absurd h hm)
  rw[hd]
  clear hq hd hm
  have hB0:=(Below.refl w.heap.size w).al le_rfl' (.cells #[.string a,.string c] 66)
  go_enter Tryz.func32,Tryz.ntmps32
  go_wp2_with (go_at_call 64;(with_reducible refine (hq2 _ hB0).mono ?_);rintro r u1 ⟨rfl,bb1⟩)
  go_ret
  exact⟨rfl,hB0.tr le_rfl' bb1⟩
def goesR (p:Pr) (r:Ref):Bool:=decide (r∈reachedOf p (leadsOf p r))
set_option maxRecDepth 100000 in
set_option maxHeartbeats 4000000 in
theorem goesRound_any (p:Pr) (a c:ByteArray) (n₀ b:Nat) (w:World) (hn:n₀≤w.heap.size) (hBk:Book w n₀ b p) (hr:VLen (a,c)) (hV:∀ r∈allRefs p,VLen r) (hF:Fine p) :
  Calls Tryz.prog 19 #[.map (some b),.agg #[.string a,.string c]] w fun e w'=>e=.returned (.bool (goesR p (a,c)))∧Below w.heap.size w w':=by
 have HG:=hid (show goesR p (a,c)=decide ((a,c)∈reachedOf p (leadsOf p (a,c))) from rfl)
 have hV2:∀ r∈leadsOf p (a,c)++allRefs p,VLen r:=fun r hr=>by
  rcases List.mem_append.1 hr with h|h
  ·exact hV r (leads_all p _ r h)
  ·exact hV r h
 have hV3:∀ r∈reachedOf p (leadsOf p (a,c)),VLen r:=fun r hr=>hV2 r (reached_sub p _ r hr)
 have hra:=fun (ad:Option Addr) (cap:Nat) (W:World) (hW:Below w.heap.size w W) (hs:SlAt 2 rcells n₀ W ad cap (leadsOf p (a,c)))=>reached_any p (leadsOf p (a,c)) ad cap n₀ b W (by have:=hW.size;omega) (hBk.below (hW.mono hn)) hs hV2 (by have:=hF.refs;have:=hF.lds (a,c);omega)
 have hco:=fun (ad:Option Addr) (cap:Nat) (W:World) (hs:SlAt 2 rcells W.heap.size W ad cap (reachedOf p (leadsOf p (a,c))))=>contains_any (reachedOf p (leadsOf p (a,c))) ad cap W.heap.size a c W (Nat.le_refl _) hs hr hV3
 simp only[← HG.out] at hco
 obtain⟨G,hG⟩:∃ G,goesR p (a,c)=G:=⟨_,rfl⟩
 rw[hG]
 simp only[hG] at hco
 obtain⟨bX,hBX,hzX⟩:=one_box w #[.string a,.string c] 66
 go_enter Tryz.func19,Tryz.ntmps19
 go_upto_region 1 with fail
 obtain⟨W1,hW1⟩:∃ W1,w.alloc (.cells #[.string a,.string c] 66)=W1:=⟨_,rfl⟩
 obtain⟨Bs,hBs⟩:∃ Bs,w.heap.size=Bs:=⟨_,rfl⟩
 have HBX:Hid (Below w.heap.size w W1):=by rw[← hW1];exact hBX
 rw[hW1] at bX ⊢
 rw[hBs] at bX ⊢
 have hBkd:Book W1.drew n₀ b p:=hBk.below (below_drewV (HBX.out.mono hn))
 obtain⟨gad,gcap,cad,ccap,hlook,-,hcl⟩:=hBkd.look hr
 simp only at hlook
 obtain⟨gb,hgb⟩:∃ gb,(bodyOf p (a,c)).body.length=gb:=⟨_,rfl⟩
 rw[hgb] at hlook
 have hf80:=fld80
 have hB1:Below w.heap.size w W1.drew:=below_drewV HBX.out
 have hrac:=hra cad ccap _ hB1 hcl
 obtain⟨gs,hgs⟩:∃ gs,leadsOf p (a,c)=gs:=⟨_,rfl⟩
 obtain⟨R,hR⟩:∃ R,reachedOf p (leadsOf p (a,c))=R:=⟨_,rfl⟩
 simp only[hR] at hrac hco
 rw[hgs] at hlook hrac
 clear hgs hR hgb hW1 hBs hBX hzX hra hBkd hcl
 have HK:Hid (∀ W,Below W1.heap.size W1 W→W.cell? ⟨Bs,0,none⟩=some (.string a)∧W.cell? ⟨Bs,1,none⟩=some (.string c)):=by
  intro W hW
  have hl:=(Array.getElem?_eq_some_iff.1 bX).1
  refine⟨(hW.cell (p:=⟨Bs,0,none⟩) hl).trans ?_,(hW.cell (p:=⟨Bs,1,none⟩) hl).trans ?_⟩
  ·rw[cellOf bX];simp
  ·rw[cellOf bX];simp
 have B:Below W1.heap.size W1 W1.drew:=⟨rfl,rfl,rfl,Nat.le_refl _,fun _ _=>rfl⟩
 go_region_held3 (fun W=>W.cell? ⟨Bs,0,none⟩=some (.string a)∧W.cell? ⟨Bs,1,none⟩=some (.string c)) (exact HK.out _ B)
  (first
   | (go_at_call 33;(with_reducible refine hrac.mono ?_);rintro r u ⟨v,rfl,hown,bb⟩;obtain⟨rad,rcp,rfl,hrs⟩:=slOwn rcells_len hown;have B:=B.trans (bb.mono B.size))
   | (go_at_call 32;(with_reducible refine (hco rad rcp _ hrs).mono ?_);rintro r u2 ⟨rfl,bb2⟩;have B:=B.trans (bb2.mono B.size)))
 have HB:=hid (HBX.out.trans (B.mono HBX.out.size))
 go_wp2
 go_ret
 exact⟨rfl,HB.out⟩
def Me.cyc (p:Pr) (mon:ByteArray) (f:Me):Option (Int × Int):=if goesR p (mon,f.name)=true then some (80,f.pos) else none
def Mo.cyc (p:Pr) (m:Mo):Option (Int × Int):=fstOf (Me.cyc p m.name) m.meths
def Ro.big (p:Pr) (r:Ro):Option (Int × Int):=if (cntOf p r.body).2=81 then some (81,r.pos) else none
def Pr.cchk (p:Pr):Int × Int:=if p.tchk.1=0 then ((fstOf (Mo.cyc p) p.mons).or (fstOf (Ro.big p) p.roles)).getD (0,0) else p.tchk
set_option maxRecDepth 100000 in
set_option maxHeartbeats 16000000 in
theorem Check_any (p:Pr) (n₀:Nat) (w:World) (hn:n₀≤w.heap.size) (hp:p.Is n₀ w) (hS:Shapes w) (hS3:3≤w.heap.size) (hvs:vsum p.mons≤1000000) (hF:Fine p) (hRo:∀ r∈p.roles,FineB r.body) :
  Calls Tryz.prog 11 #[p.val] w fun r w'=>ChkBack p.cchk w w' r:=by
 have hc1:=fun (W:World) (hW:Below w.heap.size w W)=>typesCheck_any p hvs n₀ W (by have:=hW.size;omega) (hp.below (hW.mono hn)) (hS.below hW hS3)
 have hc2:=fun (W:World) (hW:Below w.heap.size w W)=>newBook_any p n₀ W (by have:=hW.size;omega) (hp.below (hW.mono hn)) hF.subs hF.lens
 have hV:=vlen_all hp
 have hc3:=fun (b n:Nat) (W:World) (hnW:n≤W.heap.size) (hB:Book W n b p) (a c:ByteArray) (hr:VLen (a,c))=>goesRound_any p a c n b W hnW hB hr hV hF
 have hc4:=fun (b n:Nat) (W:World) (hnW:n≤W.heap.size) (hB:Book W n b p) (r:Ro) (hr:r∈p.roles) (hI:r.body.Is n W)=>count_any p r.body n b W hnW hB hI hV hF (hRo r hr)
 have HCC:=hid (show p.cchk=if p.tchk.1=0 then ((fstOf (Mo.cyc p) p.mons).or (fstOf (Ro.big p) p.roles)).getD (0,0) else p.tchk from rfl)
 obtain⟨P,hP⟩:∃ P:Pr,P=p:=⟨_,rfl⟩
 have HPP:=hid hP
 obtain⟨tc,htc⟩:∃ tc,p.tchk=tc:=⟨_,rfl⟩
 obtain⟨cc,hcc⟩:∃ cc,p.cchk=cc:=⟨_,rfl⟩
 rw[htc,hcc] at HCC
 simp only[htc] at hc1
 rw[hcc]
 rw[← hP] at HCC hc3 hc4
 have hc2:∀ (W:World),Below w.heap.size w W→Calls Tryz.prog 18 #[p.val] W fun r w'=>BookBack P W w' r:=by rw[hP];exact hc2
 have hPm:P.mons=p.mons:=by rw[hP]
 have hPr:P.roles=p.roles:=by rw[hP]
 rw[hPm,hPr] at HCC
 simp only[hPr] at hc4
 clear htc hcc hP hRo hvs hV hS hPm hPr
 rcases p with ⟨mad,mcap,mons,rad,rcap,roles⟩
 obtain⟨⟨h3,h4⟩,h5,h6⟩:=hp
 obtain⟨tc1,tc2⟩:=tc
 simp only[Pr.val] at hc1 hc2 hc4 h3 h4 h5 h6 HCC ⊢
 simp only[ChkBack] at hc1
 have hl1:=h3.1;have hl2:=h3.2.1
 unfold maxLen at hl2
 have hr1:=h5.1;have hr2:=h5.2.1
 unfold maxLen at hr2
 have hB:=(Below.refl w.heap.size w).al le_rfl' (.cells #[.slice mad mons.length mcap,.slice rad roles.length rcap] 25)
 have b1:=heapNew w (.cells #[.slice mad mons.length mcap,.slice rad roles.length rcap] 25)
 cases hte:(tc1 != 0:Bool)
 ·have ht0:tc1=0:=by simpa using hte
  subst ht0
  rw[if_pos rfl] at HCC
  go_enter Tryz.func11,Tryz.ntmps11
  go_upto_region 5 with (first
   | (go_at_call 17;(with_reducible refine (hc1 _ hB).mono ?_);rintro r wA ⟨rfl,bb1⟩;have b2:=(bb1.block w.heap.size (by simp)).trans b1;have p0:=cellOf b2 0;have p1:=cellOf b2 1;simp at p0 p1)
   | (go_at_call 18;(with_reducible refine (hc2 _ (hB.tr le_rfl' bb1)).mono ?_);rintro r wB ⟨b,rfl,hbk,bb2⟩))
  have hB1:=hB.tr le_rfl' bb1
  have hB2:=hB1.tr le_rfl' bb2
  have b3:=(bb2.block w.heap.size (by have:=hB1.size;have:=(Array.getElem?_eq_some_iff.1 b2).1;omega)).trans b2
  have q0:=cellOf b3 0
  have q1:=cellOf b3 1
  simp at q0 q1
  clear hc1 hc2 p0 p1 b1 b2 bb1 bb2 hte
  have hz2:=hB2.size
  go_wp2
  go_loopw [29] (fun i wr=>∃ j:Nat,j≤mons.length∧i=.int .i64 j∧Hid (fstOf (Mo.cyc P) mons=fstOf (Mo.cyc P) (mons.drop j))∧Below wB.heap.size wB wr)
   (fun i _=>mons.length-(intOf i).toNat)
  case atStart=>exact⟨0,by omega,rfl,rfl,Below.refl _ _⟩
  case round =>
   obtain⟨j,hj,rfl,HQ,hbw⟩:=hrel
   have hz1:=hbw.size
   have hbF:Below w.heap.size w wr:=hB2.tr le_rfl' hbw
   by_cases hlt:j<mons.length
   ·rcases h3.2.2 with h|⟨kb,koff,rfl,hbn,hrow⟩
    ·subst h;simp at hlt
    have HD:=hid (fstOf_drop (Mo.cyc P) mons j hlt)
    have HMU:Hid (Mo.cyc P mons[j]=fstOf (Me.cyc P mons[j].name) mons[j].meths):=rfl
    have hmj:=h4 _ (List.getElem_mem hlt)
    have hmm2:=hrow.below (hbF.mono hn) hbn
    rcases he':mons[j] with ⟨mname,vad,vcap,vars,fad,fcap,meths,mpos⟩
    have hc4r:=row4 hmm2 j hlt (by rw[he'];rfl)
    rw[he'] at hmj HMU
    rw[he'] at HD
    simp only at hc4r HMU
    obtain⟨c0,c1,c2,c3⟩:=hc4r
    have hkw:kb<wr.heap.size:=by omega
    obtain⟨⟨hml,-⟩,-,hfs,hfI⟩:=hmj
    simp only at hfs hfI hml
    have hf1:=hfs.1;have hf2:=hfs.2.1
    unfold maxLen at hf2
    clear he' hmm2
    go_upto_region 8 with fail
    obtain⟨bX,hBX,hzX⟩:=one_box wr #[.string mname,.slice vad vars.length vcap,.slice fad meths.length fcap,.int .i64 mpos] 38
    obtain⟨Bm,hBm⟩:∃ Bm,wr.heap.size=Bm:=⟨_,rfl⟩
    obtain⟨W1,hW1⟩:∃ W1,wr.alloc (.cells #[.string mname,.slice vad vars.length vcap,.slice fad meths.length fcap,.int .i64 mpos] 38)=W1:=⟨_,rfl⟩
    have hbw1:Below wB.heap.size wB W1:=by rw[← hW1];exact hbw.tr le_rfl' hBX
    rw[hW1] at bX ⊢
    rw[hBm] at bX ⊢
    have x2:=cellOf bX 2
    simp at x2
    clear hBX hzX hW1 hBm c0 c1 c2 c3
    obtain⟨wo,hwo⟩:∃ wo:World,wo=wr:=⟨_,rfl⟩
    subst hwo
    go_wp2
    clear x2
    go_loopw [36] (fun i wx=>∃ k:Nat,k≤meths.length∧i=.int .i64 k∧Hid (fstOf (Me.cyc P mname) meths=fstOf (Me.cyc P mname) (meths.drop k))∧Below W1.heap.size W1 wx)
     (fun i _=>meths.length-(intOf i).toNat)
    case atStart=>exact⟨0,by omega,rfl,rfl,Below.refl _ _⟩
    case round =>
     obtain⟨k,hk,rfl,HQ2,hbx⟩:=hrel
     have hzx:=hbx.size
     have hbx2:Below wB.heap.size wB wr:=hbw1.tr le_rfl' hbx
     have hbF2:Below w.heap.size w wr:=hB2.tr le_rfl' hbx2
     have bXi:=(hbx.block Bm (Array.getElem?_eq_some_iff.1 bX).1).trans bX
     by_cases hlk:k<meths.length
     ·rcases hfs.2.2 with h|⟨qb,qoff,rfl,hqn,hqrow⟩
      ·subst h;simp at hlk
      have HD2:=hid (fstOf_drop (Me.cyc P mname) meths k hlk)
      have HMe:Hid (Me.cyc P mname meths[k]=if goesR P (mname,meths[k].name)=true then some (80,meths[k].pos) else none):=rfl
      have hIf:=hfI _ (List.getElem_mem hlk)
      have hqrow2:=hqrow.below (hbF2.mono hn) hqn
      rcases he2:meths[k] with ⟨fname,⟨bad,bcap,bbody⟩,fpos⟩
      have hc3r:=row3 hqrow2 k hlk (by rw[he2];rfl)
      rw[he2] at HMe hIf
      rw[he2] at HD2
      simp only[Bl.slice] at hc3r
      simp only at HMe
      obtain⟨d0,d1,d2⟩:=hc3r
      have hfl:=hIf.1
      simp only at hfl
      have hvl:VLen (mname,fname):=by unfold VLen maxLen;unfold Len at hml hfl;exact⟨by simp;omega,by simp;omega⟩
      have hqw:qb<wr.heap.size:=by have:=hbF2.size;omega
      obtain⟨bF,hBF,hzF⟩:=one_box wr #[.string fname,.slice bad bbody.length bcap,.int .i64 fpos] 43
      have hcg:=hc3 b wB.heap.size (wr.alloc (.cells #[.string fname,.slice bad bbody.length bcap,.int .i64 fpos] 43)) (by have:=hbx2.size;simp;omega) (hbk.below (hbx2.tr le_rfl' hBF)) mname fname hvl
      have m0:=(hBF.cell (p:=⟨Bm,0,none⟩) (by show Bm<_;exact (Array.getElem?_eq_some_iff.1 bXi).1)).trans (cellOf bXi 0)
      simp at m0
      obtain⟨G,hG⟩:∃ G,goesR P (mname,fname)=G:=⟨_,rfl⟩
      rw[hG] at hcg HMe
      clear he2 hG hqrow2 hIf
      cases G
      ·simp only[Bool.false_eq_true,if_false] at HMe
       go_wp2_with (go_at_call 19;(with_reducible refine hcg.mono ?_);rintro r wE ⟨rfl,bb5⟩)
       go_roundw
       case rel=>exact⟨k+1,by omega,by go_num,by show _=_;rw[HQ2.out,HD2.out,HMe.out];rfl,(hbx.tr le_rfl' hBF).tr le_rfl' bb5⟩
       case measure=>simp[intOf];omega
      ·simp only[if_true] at HMe
       have HE:Hid (cc=(80,fpos)):=by
        show _=_
        rw[HCC.out,HQ.out,HD.out,HMU.out,HQ2.out,HD2.out,HMe.out];rfl
       go_wp2_with (go_at_call 19;(with_reducible refine hcg.mono ?_);rintro r wE ⟨rfl,bb5⟩;have f2:=(bb5.cell (p:=⟨wr.heap.size,2,none⟩) (by show wr.heap.size<_;simp)).trans (cellOf bF 2);simp at f2)
       go_quiet (fail)
       go_wp2
       go_ret2
       exact chkBack_mk HE.out (below_drewN ((hbF2.tr le_rfl' hBF).tr le_rfl' bb5) _)
     ·have hkd:decide ((k:Int)<(meths.length:Int))=false:=by simp;omega
      have HE:Hid (fstOf (Mo.cyc P) mons=fstOf (Mo.cyc P) (mons.drop (j+1))):=by
       show _=_
       rw[HQ.out,HD.out,HMU.out,HQ2.out,fstOf_end _ _ _ (by omega)];rfl
      go_wp2
      go_roundw
      case rel=>exact⟨j+1,by omega,by go_num,HE,hbx2⟩
      case measure=>simp[intOf];omega
   ·have hjd:decide ((j:Int)<(mons.length:Int))=false:=by simp;omega
    have HC2:Hid (cc=(fstOf (Ro.big P) roles).getD (0,0)):=by
     show _=_
     rw[HCC.out,HQ.out,fstOf_end _ _ _ (by omega)];rfl
    clear HCC HQ
    have b4:=(hbw.block w.heap.size (Array.getElem?_eq_some_iff.1 b3).1).trans b3
    have q0:=cellOf b4 0
    have q1:=cellOf b4 1
    simp at q0 q1
    obtain⟨wC,hu3⟩:∃ wC:World,wC=wr:=⟨_,rfl⟩
    subst hu3
    go_wp2
    clear q0 q1
    go_loopw [54] (fun i wx=>∃ k:Nat,k≤roles.length∧i=.int .i64 k∧Hid (fstOf (Ro.big P) roles=fstOf (Ro.big P) (roles.drop k))∧Below wB.heap.size wB wx)
     (fun i _=>roles.length-(intOf i).toNat)
    case atStart=>exact⟨0,by omega,rfl,rfl,hbw⟩
    case round =>
     obtain⟨k,hk,rfl,HQ2,hbx⟩:=hrel
     have hzx:=hbx.size
     have hbF2:Below w.heap.size w wr:=hB2.tr le_rfl' hbx
     by_cases hlk:k<roles.length
     ·rcases h5.2.2 with h|⟨qb,qoff,rfl,hqn,hqrow⟩
      ·subst h;simp at hlk
      have HD2:=hid (fstOf_drop (Ro.big P) roles k hlk)
      have HMe:Hid (Ro.big P roles[k]=if (cntOf P roles[k].body).2=81 then some (81,roles[k].pos) else none):=rfl
      have hIr:=h6 _ (List.getElem_mem hlk)
      have hcr:=fun (W:World) (hW:Below wr.heap.size wr W)=>hc4 b wB.heap.size W (by have:=hW.size;omega) (hbk.below (hbx.tr le_rfl' hW)) roles[k] (List.getElem_mem hlk) ((hIr.2.2.2.below ((hbF2.tr le_rfl' hW).mono hn)).mono (by omega))
      have hqrow2:=hqrow.below (hbF2.mono hn) hqn
      rcases he2:roles[k] with ⟨rname,rstar,rcount,⟨bad,bcap,bbody⟩,rpos⟩
      have hc5r:=row5 hqrow2 k hlk (by rw[he2];rfl)
      rw[he2] at HMe
      rw[he2] at HD2
      simp only[he2] at hcr
      simp only[Bl.slice] at hc5r hcr
      simp only at HMe
      obtain⟨d0,d1,d2,d3,d4⟩:=hc5r
      have hqw:qb<wr.heap.size:=by have:=hbF2.size;omega
      obtain⟨bF,hBF,hzF⟩:=one_box wr #[.string rname,.bool rstar,.int .i64 rcount,.slice bad bbody.length bcap,.int .i64 rpos] 46
      have hcg:=hcr _ hBF
      obtain⟨cn,hcn⟩:∃ cn,cntOf P (.mk bad bcap bbody)=cn:=⟨_,rfl⟩
      rw[hcn] at hcg HMe
      obtain⟨c1,c2⟩:=cn
      simp only[CntBack] at hcg
      simp only at HMe
      clear he2 hcn hcr hqrow2 hIr
      cases hc81:(c2==81:Bool)
      ·have hne:¬ c2=81:=by simpa using hc81
       rw[if_neg hne] at HMe
       go_wp2_with (go_at_call 20;(with_reducible refine hcg.mono ?_);rintro r wE ⟨rfl,bb5⟩)
       go_roundw
       case rel=>exact⟨k+1,by omega,by go_num,by show _=_;rw[HQ2.out,HD2.out,HMe.out];rfl,(hbx.tr le_rfl' hBF).tr le_rfl' bb5⟩
       case measure=>simp[intOf];omega
      ·have he:c2=81:=by simpa using hc81
       subst he
       rw[if_pos rfl] at HMe
       have HE:Hid (cc=(81,rpos)):=by
        show _=_
        rw[HC2.out,HQ2.out,HD2.out,HMe.out];rfl
       go_wp2_with (go_at_call 20;(with_reducible refine hcg.mono ?_);rintro r wE ⟨rfl,bb5⟩;have f2:=(bb5.cell (p:=⟨wr.heap.size,4,none⟩) (by show wr.heap.size<_;simp)).trans (cellOf bF 4);simp at f2)
       go_quiet (fail)
       go_wp2
       go_ret2
       exact chkBack_mk HE.out (below_drewN ((hbF2.tr le_rfl' hBF).tr le_rfl' bb5) _)
     ·have hkd:decide ((k:Int)<(roles.length:Int))=false:=by simp;omega
      have HE:Hid (cc=(0,0)):=by
       show _=_
       rw[HC2.out,HQ2.out,fstOf_end _ _ _ (by omega)];rfl
      go_wp2
      go_ret2
      exact chkBack_mk HE.out hbF2
 ·have hne:¬ tc1=0:=by simpa using hte
  rw[if_neg hne] at HCC
  go_enter Tryz.func11,Tryz.ntmps11
  go_wp2_with (go_at_call 17;(with_reducible refine (hc1 _ hB).mono ?_);rintro r wA ⟨rfl,bb1⟩)
  go_ret2
  exact chkBack_mk HCC.out (hB.tr le_rfl' bb1)
open Go.RowKit
theorem okB_iff {x:Bl}:x.okB=true↔∀ s∈x.subs,s.ok1=true:=by rw[Bl.okB,List.all_eq_true]
theorem call_blocks {s:St} (h:s.ok1=true) (hk:s.kind=8):s.blocks=[]:=by
 rcases s with ⟨kind,mon,name,n,e,ad,cap,blocks,pos⟩
 have hk:kind=8:=hk
 subst hk
 simp only[St.ok1,Bool.and_eq_true,decide_eq_true_eq] at h
 have h1:=h.2.2
 have h2:stMost (8:Int).toNat=0:=by kernel_rfl
 rw[h2] at h1
 exact List.eq_nil_of_length_eq_zero (Nat.le_zero.1 h1)
open Go.RowKit
theorem len_le_sz (l:List St):l.length≤(l.map St.sz).sum:=by
 induction l with
 | nil=>simp
 | cons s l ih =>
  rw[List.length_cons,List.map_cons,List.sum_cons]
  have:1≤s.sz:=by unfold St.sz;omega
  omega
theorem body_le_subs (b:Bl):b.body.length≤b.subs.length:=by
 rcases b with ⟨a,c,body⟩
 rw[Bl.subs_mk]
 exact len_flat1 St.subs body (fun s _=>List.length_pos_of_mem (subs_self s))
theorem calls_le (b:Bl):(callsOf b).length≤b.subs.length:=by
 have:=callsA_len b.subs []
 simpa[callsOf] using this
theorem flat_le {α β γ:Type} (f:α→List β) (g:α→List γ) (l:List α) (h:∀ x∈l,(f x).length≤(g x).length):(l.flatMap f).length≤(l.flatMap g).length:=by
 induction l with
 | nil=>simp
 | cons x l ih =>
  rw[List.flatMap_cons,List.flatMap_cons,List.length_append,List.length_append]
  have h1:=h x (by simp)
  have h2:=ih (fun y hy=>h y (by simp[hy]))
  omega
theorem fine_small {p:Pr} (h:p.size≤400):Fine0 p:=by
 have h1:p.stmts.length≤400:=Nat.le_trans (len_le_sz _) h
 have h2:(p.mons.flatMap fun m=>m.meths.flatMap fun x=>x.body.subs).length≤400:=by
  have:p.stmts=(p.mons.flatMap fun m=>m.meths.flatMap fun x=>x.body.subs)++p.roles.flatMap fun r=>r.body.subs:=rfl
  rw[this,List.length_append] at h1;omega
 have h3:∀ m∈p.mons,∀ f∈m.meths,f.body.subs.length≤400:=fun m hm f hf=>by
  have a1:=len_flat (fun m:Mo=>m.meths.flatMap fun x=>x.body.subs) p.mons m hm
  have a2:=len_flat (fun x:Me=>x.body.subs) m.meths f hf
  omega
 have h4:(allRefs p).length≤400:=Nat.le_trans (flat_le _ _ p.mons fun m _=>flat_le _ _ m.meths fun f _=>calls_le f.body) h2
 refine⟨fun m hm f hf=>by have:=h3 m hm f hf;omega,fun m hm f hf=>by have:=h3 m hm f hf;have:=body_le_subs f.body;omega,by omega,fun r=>?_⟩
 unfold leadsOf bodyOf
 split
 ·rename_i f hf
  obtain⟨m,hm,hfm⟩:=methIx_mem hf
  have:=h3 m hm f hfm;have:=calls_le f.body;omega
 ·rw[callsOf,Bl.subs_mk];simp[callsA]
open Go.RowKit
def Ord (G:Ref→List Ref) (A:List Ref):Prop:=∀ (i:Nat) (h:i<A.length),∀ y∈G A[i],y∈A.take i
theorem Ord.snoc {G:Ref→List Ref} {A:List Ref} (h:Ord G A) {r:Ref} (hr:∀ y∈G r,y∈A):Ord G (A++[r]):=by
 intro i hi y hy
 rw[List.length_append,List.length_singleton] at hi
 by_cases hlt:i<A.length
 ·rw[List.getElem_append_left hlt] at hy
  rw[List.take_append_of_le_length (by omega)]
  exact h i hlt y hy
 ·have hi2:i=A.length:=by omega
  subst hi2
  rw[List.getElem_append_right (by omega)] at hy
  simp at hy
  rw[List.take_left]
  exact hr y hy
theorem dfs_ord {G:Ref→List Ref} {U:List Ref} {D:Ref→Prop} {rk:Ref→Nat} (hUc:∀ r∈U,∀ x∈G r,x∈U) (hU:∀ r,D r→r∈U∧∀ x∈G r,D x∧rk x<rk r) (n:Nat):∀ (st:List Ref × List Ref) (r:Ref),D r→left U st.1≤n→Ord G st.2→(∀ x∈st.1,x∈st.2∨rk r<rk x)→Ord G (dfs G n st r).2:=by
 induction n with
 | zero=>intro st r _ _ h _;exact h
 | succ n ih =>
  rintro⟨S,A⟩ r hr hl ho hp
  by_cases hm:r∈S
  ·rw[dfs_seen hm];exact ho
  ·rw[dfs_new hm]
   have hl2:=left_snoc (hU r hr).1 hm
   simp only at hl ho hp
   have hf:∀ (l:List Ref),(∀ x∈l,D x∧rk x<rk r)→∀ st:List Ref × List Ref,left U st.1≤n→Ord G st.2→(∀ x∈st.1,x∈st.2∨rk r≤rk x) →
     Ord G (l.foldl (dfs G n) st).2∧(∀ x∈(l.foldl (dfs G n) st).1,x∈(l.foldl (dfs G n) st).2∨rk r≤rk x)∧∀ x∈l,x∈(l.foldl (dfs G n) st).1:=by
    intro l
    induction l with
    | nil=>intro _ st _ h1 h2;exact⟨h1,h2,fun x hx=>by cases hx⟩
    | cons y l ihl =>
     intro hl st hs h1 h2
     obtain⟨hy1,hy2⟩:=hl y (by simp)
     have hd:=dfs_done hUc n st y (hU y hy1).1 hs
     have ho:=ih st y hy1 hs h1 (fun x hx=>by
      rcases h2 x hx with h|h
      ·exact .inl h
      ·exact .inr (by omega))
     have hlm:=left_mono (U:=U) (dfs_mono G n st y)
     obtain⟨g1,g2,g3⟩:=ihl (fun z hz=>hl z (by simp[hz])) (dfs G n st y) (by omega) ho (fun x hx=>by
      rcases hd.2 x hx with h|h
      ·rcases h2 x h with h|h
       ·exact .inl (dfs_mono2 G n st y x h)
       ·exact .inr h
      ·exact .inl h)
     refine⟨g1,g2,fun x hx=>?_⟩
     rcases List.mem_cons.1 hx with rfl|hx
     ·exact fold_dfs_mono G n l _ x hd.1
     ·exact g3 x hx
   obtain⟨g1,g2,g3⟩:=hf (G r) (hU r hr).2 (S++[r],A) (by show left U (S++[r])≤n;omega) ho (fun x hx=>by
    rcases List.mem_append.1 hx with h|h
    ·rcases hp x h with h|h
     ·exact .inl h
     ·exact .inr (by omega)
    ·rw[List.mem_singleton.1 h];exact .inr (Nat.le_refl _))
   refine g1.snoc fun y hy=>?_
   rcases g2 y (g3 y hy) with h|h
   ·exact h
   ·have:=((hU r hr).2 y hy).2;omega
theorem reached_ord {p:Pr} {l:List Ref} {D:Ref→Prop} {rk:Ref→Nat} (hC:∀ r,D r→∀ x∈leadsOf p r,D x∧rk x<rk r) (hl:∀ x∈l,D x):Ord (leadsOf p) (reachedOf p l):=by
 have hU:=closedU p l
 have hD:∀ r,(D r∧r∈l++allRefs p)→r∈l++allRefs p∧∀ x∈leadsOf p r,(D x∧x∈l++allRefs p)∧rk x<rk r:=fun r hr=>⟨hr.2,fun x hx=>⟨⟨(hC r hr.1 x hx).1,hU r hr.2 x hx⟩,(hC r hr.1 x hx).2⟩⟩
 have key:∀ (m:List Ref),(∀ x∈m,D x∧x∈l++allRefs p)→∀ st:List Ref × List Ref,left (l++allRefs p) st.1≤l.length+(allRefs p).length→(∀ x∈st.1,x∈st.2)→Ord (leadsOf p) st.2→Ord (leadsOf p) (m.foldl (dfs (leadsOf p) (l.length+(allRefs p).length)) st).2:=by
  intro m
  induction m with
  | nil=>intro _ st _ _ h;exact h
  | cons y m ih =>
   intro hm st hs h ho
   have h1:=dfs_done hU _ st y (hm y (by simp)).2 hs
   have h2:=left_mono (U:=l++allRefs p) (dfs_mono (leadsOf p) (l.length+(allRefs p).length) st y)
   exact ih (fun x hx=>hm x (by simp[hx])) (dfs (leadsOf p) (l.length+(allRefs p).length) st y) (by omega) (fun x hx=>by
    rcases h1.2 x hx with h5|h5
    ·exact dfs_mono2 _ _ _ _ x (h x h5)
    ·exact h5) (dfs_ord hU hD _ st y (hm y (by simp)) hs ho fun x hx=>.inl (h x hx))
 have h2:left (l++allRefs p) []≤l.length+(allRefs p).length:=Nat.le_trans (List.length_filter_le _ _) (by simp)
 exact key l (fun x hx=>⟨hl x hx,List.mem_append.2 (.inl hx)⟩) ([],[]) h2 (fun x hx=>by cases hx) (fun i h=>by simp at h)
theorem reached_min {p:Pr} {l C:List Ref} (hC:∀ r∈C,∀ x∈leadsOf p r,x∈C) (hl:∀ x∈l,x∈C):∀ x∈reachedOf p l,x∈C:=
 fold_dfs_sub hC _ l hl ([],[]) (fun x hx=>by cases hx)
theorem sizesF_ord {body:Ref→Bl}:∀ (R:List Ref) (Z:List (Ref × Nat)),(∀ x∈Z.map Prod.fst,szGet Z x≠0)→(Z.map Prod.fst++R).Nodup→(∀ (i:Nat) (h:i<R.length),∀ y∈callsOf (body R[i]),y∈Z.map Prod.fst++R.take i)→∃ Z',sizesF (fun r=>callsOf (body r)) body R Z=some Z':=by
 intro R
 induction R with
 | nil=>intro Z _ _ _;exact⟨Z,rfl⟩
 | cons r R ih =>
  intro Z hz hn ho
  have h0:¬ ∃ x∈callsOf (body r),szGet Z x=0:=by
   rintro⟨x,hx,h⟩
   have:=ho 0 (by simp) x hx
   simp only[List.take_zero,List.append_nil] at this
   exact hz x this h
  have hrn:r ∉ Z.map Prod.fst:=by
   intro hm
   exact (List.nodup_append.1 hn).2.2 r hm r (by simp) rfl
  rw[sizesF,if_neg h0]
  refine ih _ (fun x hx=>?_) (by simpa using hn) (fun i hi y hy=>?_)
  ·by_cases hxz:x∈Z.map Prod.fst
   ·rw[szGet_app hxz];exact hz x hxz
   ·have hxr:x=r:=by
     rw[List.map_append] at hx
     rcases List.mem_append.1 hx with h|h
     ·exact absurd h hxz
     ·simpa using h
    subst hxr
    have:=szGet_new (E:=[]) (v:=1+min 401 (tot Z (body x))) hrn
    rw[List.append_nil] at this
    rw[this];omega
  ·have:=ho (i+1) (by simpa using hi) y hy
   simpa[or_assoc] using this
theorem cnt_closed {p:Pr} {x:Bl} {C:List Ref} {rk:Ref→Nat} (hC:∀ r∈C,∀ y∈leadsOf p r,y∈C∧rk y<rk r) (hroot:∀ r∈callsOf x,r∈C) (hk:∀ r∈C,methIx p.mons r.1 r.2≠none) :
  ∃ Z,Good p x (reachedOf p (callsOf x)) Z∧cntOf p x=if 400<min 401 (tot Z x) then (0,81) else (min 401 (tot Z x),0):=by
 have hmin:=reached_min (fun r hr y hy=>(hC r hr y hy).1) hroot
 have hord:=reached_ord (D:=fun r=>r∈C) hC hroot
 have hnd:=reached_nodup p (callsOf x)
 have hkn:¬ ∃ r∈reachedOf p (callsOf x),methIx p.mons r.1 r.2=none:=fun ⟨r,hr,h⟩=>hk r (hmin r hr) h
 obtain⟨Z,hz⟩:=sizesF_ord (body:=bodyOf p) (reachedOf p (callsOf x)) [] (fun x hx=>by cases hx) (by simpa using hnd) (fun i hi y hy=>by simpa using hord i hi y hy)
 obtain⟨-,g2,g3,g4⟩:=sizesF_some (body:=bodyOf p) _ _ _ hz (by simpa using hnd)
 refine⟨Z,⟨reached_has p _,hnd,fun r hr y hy=>?_,g4,fun r hr=>hk r (hmin r hr)⟩,?_⟩
 ·obtain⟨i,hi,rfl⟩:=List.getElem_of_mem hr
  have h2:=hord i hi y hy
  obtain⟨k,hk2,rfl⟩:=List.getElem_of_mem h2
  rw[List.length_take] at hk2
  rw[List.getElem_take]
  exact⟨List.getElem_mem _,by rw[rkOf_at hnd,rkOf_at hnd hi];omega⟩
 ·rw[cntOf_eq,if_neg hkn]
  show cntRes _ (sizesF (fun r=>callsOf (bodyOf p r)) (bodyOf p) (reachedOf p (callsOf x)) [])=_
  rw[hz];rfl
open Go.RowKit
def addR (S:List Ref) (r:Ref):List Ref:=if r∈S then S else S++[r]
def addN (S m:List Ref):List Ref:=m.foldl addR S
theorem addR_mem (S:List Ref) (r x:Ref):x∈addR S r↔x∈S∨x=r:=by
 unfold addR;split
 ·rename_i h
  constructor
  ·exact .inl
  ·rintro (h'|rfl)
   ·exact h'
   ·exact h
 ·simp
theorem addN_mem (m:List Ref):∀ (S:List Ref) (x:Ref),x∈addN S m↔x∈S∨x∈m:=by
 induction m with
 | nil=>intro S x;simp[addN]
 | cons r m ih =>
  intro S x
  show x∈addN (addR S r) m↔_
  rw[ih,addR_mem,List.mem_cons,or_assoc]
theorem addN_snoc (S m:List Ref) (r:Ref):addN S (m++[r])=addR (addN S m) r:=by simp[addN]
theorem addR_nodup {S:List Ref} (h:S.Nodup) (r:Ref):(addR S r).Nodup:=by
 unfold addR;split
 ·exact h
 ·rename_i hr
  exact List.nodup_append.2 ⟨h,by simp,fun a ha c hc=>by simp at hc;rintro rfl;exact hr (hc▸ha)⟩
theorem addN_nodup (m:List Ref):∀ {S:List Ref},S.Nodup→(addN S m).Nodup:=by
 induction m with
 | nil=>intro S h;exact h
 | cons r m ih=>intro S h;exact ih (addR_nodup h r)
theorem cstep_add (S T:List Ref) (s:St):addN S (cstep T s)=cstep (addN S T) s:=by
 by_cases hk:s.kind=8
 ·by_cases ht:s.ref∈T
  ·rw[cstep_no (S:=T) (fun h=>h.2 ht),cstep_no (S:=addN S T) (fun h=>h.2 ((addN_mem T S _).2 (.inr ht)))]
  ·rw[cstep_yes ⟨hk,ht⟩,addN_snoc]
   unfold addR
   split
   ·rename_i h;rw[cstep_no (fun h'=>h'.2 h)]
   ·rename_i h;rw[cstep_yes ⟨hk,h⟩]
 ·rw[cstep_no (fun h=>hk h.1),cstep_no (fun h=>hk h.1)]
theorem addN_calls (l:List St):∀ S T:List Ref,addN S (callsA T l)=callsA (addN S T) l:=by
 induction l with
 | nil=>intro S T;rfl
 | cons s l ih =>
  intro S T
  show addN S (callsA (cstep T s) l)=callsA (cstep (addN S T) s) l
  rw[ih,cstep_add]
theorem addN_block (S:List Ref) (b:Bl):addN S (callsOf b)=callsA S b.subs:=addN_calls b.subs S []
theorem cstep_addR (S:List Ref) (s:St) (h:s.kind=8):cstep S s=addR S s.ref:=by
 unfold addR;split
 ·rename_i hr;exact cstep_no fun h'=>h'.2 hr
 ·rename_i hr;exact cstep_yes ⟨h,hr⟩
theorem dfs_closed {G:Ref→List Ref} {U:List Ref} (hU:∀ r∈U,∀ x∈G r,x∈U) (n:Nat):∀ (st:List Ref × List Ref) (r:Ref),r∈U→left U st.1≤n→(∀ x∈st.2,∀ y∈G x,y∈st.1)→∀ x∈(dfs G n st r).2,∀ y∈G x,y∈(dfs G n st r).1:=by
 induction n with
 | zero=>intro st r _ _ h;exact h
 | succ n ih =>
  rintro⟨S,A⟩ r hr hl hc
  by_cases hm:r∈S
  ·rw[dfs_seen hm];exact hc
  ·rw[dfs_new hm]
   have hl2:=left_snoc hr hm
   simp only at hl hc
   have hf:∀ (l:List Ref),(∀ x∈l,x∈U)→∀ st:List Ref × List Ref,left U st.1≤n→(∀ x∈st.2,∀ y∈G x,y∈st.1) →
     (∀ x∈(l.foldl (dfs G n) st).2,∀ y∈G x,y∈(l.foldl (dfs G n) st).1)∧∀ x∈l,x∈(l.foldl (dfs G n) st).1:=by
    intro l
    induction l with
    | nil=>intro _ st _ h;exact⟨h,fun x hx=>by cases hx⟩
    | cons z l ihl =>
     intro hl st hs h
     have hd:=dfs_done hU n st z (hl z (by simp)) hs
     have hlm:=left_mono (U:=U) (dfs_mono G n st z)
     obtain⟨g1,g2⟩:=ihl (fun x hx=>hl x (by simp[hx])) (dfs G n st z) (by omega) (ih st z (hl z (by simp)) hs h)
     refine⟨g1,fun x hx=>?_⟩
     rcases List.mem_cons.1 hx with rfl|hx
     ·exact fold_dfs_mono G n l _ x hd.1
     ·exact g2 x hx
   obtain⟨g1,g2⟩:=hf (G r) (hU r hr) (S++[r],A) (by show left U (S++[r])≤n;omega) (fun x hx y hy=>List.mem_append.2 (.inl (hc x hx y hy)))
   intro x hx y hy
   rcases List.mem_append.1 hx with h|h
   ·exact g1 x h y hy
   ·rw[List.mem_singleton.1 h] at hy
    exact g2 y hy
theorem reached_closed (p:Pr) (l:List Ref):∀ r∈reachedOf p l,∀ y∈leadsOf p r,y∈reachedOf p l:=by
 have hU:=closedU p l
 have key:∀ (m:List Ref),(∀ x∈m,x∈l++allRefs p)→∀ st:List Ref × List Ref,left (l++allRefs p) st.1≤l.length+(allRefs p).length→(∀ x∈st.1,x∈st.2)→(∀ x∈st.2,∀ y∈leadsOf p x,y∈st.1) →
   (∀ x∈(m.foldl (dfs (leadsOf p) (l.length+(allRefs p).length)) st).1,x∈(m.foldl (dfs (leadsOf p) (l.length+(allRefs p).length)) st).2)∧∀ x∈(m.foldl (dfs (leadsOf p) (l.length+(allRefs p).length)) st).2,∀ y∈leadsOf p x,y∈(m.foldl (dfs (leadsOf p) (l.length+(allRefs p).length)) st).1:=by
  intro m
  induction m with
  | nil=>intro _ st _ h1 h2;exact⟨h1,h2⟩
  | cons z m ih =>
   intro hm st hs h1 h2
   have hd:=dfs_done hU _ st z (hm z (by simp)) hs
   have hlm:=left_mono (U:=l++allRefs p) (dfs_mono (leadsOf p) (l.length+(allRefs p).length) st z)
   exact ih (fun x hx=>hm x (by simp[hx])) _ (by omega) (fun x hx=>by
    rcases hd.2 x hx with h5|h5
    ·exact dfs_mono2 _ _ _ _ x (h1 x h5)
    ·exact h5) (dfs_closed hU _ st z (hm z (by simp)) hs h2)
 have h2:left (l++allRefs p) []≤l.length+(allRefs p).length:=Nat.le_trans (List.length_filter_le _ _) (by simp)
 obtain⟨h3,h4⟩:=key l (fun x hx=>List.mem_append.2 (.inl hx)) ([],[]) h2 (fun x hx=>by cases hx) (fun x hx=>by cases hx)
 exact fun r hr y hy=>h3 y (h4 r hr y hy)
structure Leads (p:Pr) (l L:List Ref):Prop where
 has:∀ x∈l,x∈L
 closed:∀ r∈L,∀ y∈leadsOf p r,y∈L
 min:∀ C:List Ref,(∀ r∈C,∀ y∈leadsOf p r,y∈C)→(∀ x∈l,x∈C)→∀ x∈L,x∈C
theorem Leads.iff {p:Pr} {l L:List Ref} (h:Leads p l L) (x:Ref):x∈L↔x∈reachedOf p l:=
 ⟨h.min _ (reached_closed p l) (reached_has p l) x,reached_min h.closed h.has x⟩
def Round (p:Pr) (r:Ref):Prop:=r∈reachedOf p (leadsOf p r)
theorem nodup_le {A B:List Ref} (hA:A.Nodup) (h:∀ x∈A,x∈B):A.length≤B.length:=by
 induction A generalizing B with
 | nil=>simp
 | cons a A ih =>
  obtain⟨ha,hA'⟩:=List.nodup_cons.1 hA
  obtain⟨i,hi,he⟩:=List.getElem_of_mem (h a (by simp))
  have h2:=ih (B:=B.eraseIdx i) hA' (fun x hx=>by
   obtain⟨k,hk,hke⟩:=List.getElem_of_mem (h x (by simp[hx]))
   have hne:k≠i:=by rintro rfl;exact ha (by rw[← he,hke];exact hx)
   rw[List.mem_eraseIdx_iff_getElem]
   exact⟨k,hk,hne,hke⟩)
  have h3:=List.length_eraseIdx_of_lt hi
  simp only[List.length_cons];omega
theorem nodup_lt {A B:List Ref} (hA:A.Nodup) (h:∀ x∈A,x∈B) {y:Ref} (hy:y∈B) (hn:y ∉ A):A.length<B.length:=by
 have h2:=nodup_le (A:=y::A) (B:=B) (List.nodup_cons.2 ⟨hn,hA⟩) (fun x hx=>by
  rcases List.mem_cons.1 hx with rfl|hx
  ·exact hy
  ·exact h x hx)
 rw[List.length_cons] at h2
 omega
theorem rank_of {p:Pr} {C:List Ref} (hC:∀ r∈C,∀ y∈leadsOf p r,y∈C) (hn:∀ r∈C,¬ Round p r):∀ r∈C,∀ y∈leadsOf p r,y∈C∧(reachedOf p (leadsOf p y)).length<(reachedOf p (leadsOf p r)).length:=by
 intro r hr y hy
 refine⟨hC r hr y hy,?_⟩
 have h1:y∈reachedOf p (leadsOf p r):=reached_has p _ y hy
 refine nodup_lt (reached_nodup p _) (reached_min (reached_closed p _) (fun x hx=>reached_closed p _ y h1 x hx)) h1 ?_
 exact hn y (hC r hr y hy)
theorem not_round {p:Pr} {C:List Ref} {rk:Ref→Nat} (hC:∀ r∈C,∀ y∈leadsOf p r,y∈C∧rk y<rk r):∀ r∈C,¬ Round p r:=by
 intro r hr h
 have h1:∀ x∈C.filter (fun x=>decide (rk x<rk r)),∀ y∈leadsOf p x,y∈C.filter (fun x=>decide (rk x<rk r)):=by
  intro x hx y hy
  rw[List.mem_filter] at hx ⊢
  have h2:=hC x hx.1 y hy
  have h3:rk x<rk r:=by simpa using hx.2
  exact⟨h2.1,by simp;omega⟩
 have h4:=reached_min h1 (l:=leadsOf p r) (fun x hx=>by
  rw[List.mem_filter]
  have h2:=hC r hr x hx
  exact⟨h2.1,by simpa using h2.2⟩) r h
 rw[List.mem_filter] at h4
 simp at h4
theorem cnt_cases (p:Pr) (x:Bl) :
  ((∃ r∈reachedOf p (callsOf x),methIx p.mons r.1 r.2=none)∧cntOf p x=(0,61)) ∨
  ((∀ r∈reachedOf p (callsOf x),methIx p.mons r.1 r.2≠none)∧(∃ r∈reachedOf p (callsOf x),Round p r)∧cntOf p x=(0,80)) ∨
  ((∀ r∈reachedOf p (callsOf x),methIx p.mons r.1 r.2≠none)∧(∀ r∈reachedOf p (callsOf x),¬ Round p r)∧∃ Z,Good p x (reachedOf p (callsOf x)) Z∧cntOf p x=if 400<min 401 (tot Z x) then (0,81) else (min 401 (tot Z x),0)):=by
 by_cases hk:∃ r∈reachedOf p (callsOf x),methIx p.mons r.1 r.2=none
 ·left;refine⟨hk,?_⟩
  rw[cntOf_eq,if_pos hk]
 ·have hk2:∀ r∈reachedOf p (callsOf x),methIx p.mons r.1 r.2≠none:=fun r hr h=>hk ⟨r,hr,h⟩
  right
  by_cases hr:∃ r∈reachedOf p (callsOf x),Round p r
  ·left;refine⟨hk2,hr,?_⟩
   rw[cntOf_eq,if_neg hk]
   cases hz:sizesF (leadsOf p) (bodyOf p) (reachedOf p (callsOf x)) [] with
   | none=>rfl
   | some Z =>
    obtain⟨r,hr1,hr2⟩:=hr
    have hnd:=reached_nodup p (callsOf x)
    obtain⟨-,g2,g3,g4⟩:=sizesF_some (body:=bodyOf p) _ _ _ hz (by simpa using hnd)
    exact absurd hr2 (not_round (C:=reachedOf p (callsOf x)) (rk:=rkOf (reachedOf p (callsOf x))) (fun r hr y hy=>by
     obtain⟨i,hi,rfl⟩:=List.getElem_of_mem hr
     have h2:=g3 i hi y hy
     simp only[List.map_nil,List.nil_append] at h2
     obtain⟨k,hk2,rfl⟩:=List.getElem_of_mem h2
     rw[List.length_take] at hk2
     rw[List.getElem_take]
     exact⟨List.getElem_mem _,by rw[rkOf_at hnd,rkOf_at hnd hi];omega⟩) r hr1)
  ·right
   have hr2:∀ r∈reachedOf p (callsOf x),¬ Round p r:=fun r h h'=>hr ⟨r,h,h'⟩
   refine⟨hk2,hr2,?_⟩
   exact cnt_closed (C:=reachedOf p (callsOf x)) (rk:=fun r=>(reachedOf p (leadsOf p r)).length) (rank_of (reached_closed p _) hr2) (reached_has p _) hk2
open Go.RowKit
def hasR (l:List Ref) (r:Ref):Bool:=decide (r∈l)
set_option maxRecDepth 100000 in
set_option maxHeartbeats 4000000 in
theorem hasRef_any (l:List Ref) (ad:Option Addr) (cap n₀:Nat) (a c:ByteArray) (w:World) (hn:n₀≤w.heap.size) (hsl:SlAt 2 rcells n₀ w ad cap l) (hr:VLen (a,c)) (hV:∀ r∈l,VLen r) :
  Calls Tryz.prog 40 #[.slice ad l.length cap,.agg #[.string a,.string c]] w fun e w'=>e=.returned (.bool (hasR l (a,c)))∧Below w.heap.size w w':=by
 have hl1:=hsl.1;have hl2:=hsl.2.1
 unfold maxLen at hl2
 have HR:=hid (show hasR l (a,c)=decide ((a,c)∈l) from rfl)
 obtain⟨rr,hrr⟩:∃ rr,hasR l (a,c)=rr:=⟨_,rfl⟩
 rw[hrr] at HR ⊢
 clear hrr
 go_enter Tryz.func40,Tryz.ntmps40
 go_upto_region 1 with fail
 obtain⟨bX,hBX,hzX⟩:=one_box w #[.string a,.string c] 66
 obtain⟨W1,hW1⟩:∃ W1,w.alloc (.cells #[.string a,.string c] 66)=W1:=⟨_,rfl⟩
 rw[hW1] at bX hBX hzX ⊢
 clear hW1
 have HZ:=hid hzX
 clear hzX
 go_wp2
 go_loopw [5] (fun i wr=>∃ k:Nat,k≤l.length∧i=.int .i64 k∧Hid ((a,c) ∉ l.take k)∧Below W1.heap.size W1 wr)
  (fun i _=>l.length-(intOf i).toNat)
 case atStart=>exact⟨0,by omega,rfl,(by show _ ∉ _;simp),Below.refl _ _⟩
 case round =>
  obtain⟨k,hk,rfl,HK,hbx⟩:=hrel
  have hzx:=hbx.size
  have hz0:=HZ.out
  have hbF:Below w.heap.size w wr:=hBX.tr (by omega) hbx
  by_cases hlk:k<l.length
  ·rcases hsl.2.2 with h|⟨tb,toff,rfl,htn,htrow⟩
   ·subst h;simp at hlk
   have htrow2:=htrow.below (hbF.mono hn) htn
   have d0:=htrow2 k hlk 0 (by omega)
   have d1:=htrow2 k hlk 1 (by omega)
   have htw:tb<wr.heap.size:=by omega
   have hvx:=hV _ (List.getElem_mem hlk)
   have HX1:Hid (l[k]=(a,c)→(a,c)∈l):=fun h=>h▸List.getElem_mem hlk
   have HX2:Hid (l[k]≠(a,c)→(a,c) ∉ l.take (k+1)):=by
    intro h hx
    rw[List.take_succ_eq_append_getElem hlk] at hx
    rcases List.mem_append.1 hx with hx|hx
    ·exact HK.out hx
    ·exact h (List.mem_singleton.1 hx).symm
   simp only[rcells] at d0 d1
   simp at d0 d1
   obtain⟨g1,hg1⟩:∃ g1,l[k]=g1:=⟨_,rfl⟩
   rw[hg1] at d0 d1 hvx HX1 HX2
   clear hg1
   obtain⟨gm,gn⟩:=g1
   simp only at d0 d1
   have heq:=fun W=>eqRef hvx hr W
   have bXr:=(hbx.block w.heap.size (by omega)).trans bX
   have y0:=cellOf bXr 0
   have y1:=cellOf bXr 1
   simp at y0 y1
   have hww:w.heap.size<wr.heap.size:=by omega
   by_cases he:(a,c)=(gm,gn)
   ·have hd:decide ((a,c)=(gm,gn))=true:=by simp[he]
    simp only[hd] at heq
    have hrt:rr=true:=HR.out.trans (decide_eq_true (HX1.out he.symm))
    subst hrt
    clear HX1 HX2 he hd HR
    go_wp2_with fail
    go_quiet (fail)
    go_wp2
    go_ret
    exact⟨rfl,below_drewN hbF _⟩
   ·have hd:decide ((a,c)=(gm,gn))=false:=by simp only[he,decide_false]
    simp only[hd] at heq
    have HI:=hid (HX2.out (fun h=>he h.symm))
    clear HX1 HX2 he hd
    go_wp2_with fail
    go_quiet (fail)
    go_wp2
    go_roundw
    case rel=>exact⟨k+1,by omega,by go_num,HI.out,below_drewN hbx _⟩
    case measure=>simp[intOf];omega
  ·have hkd:decide ((k:Int)<(l.length:Int))=false:=by simp;omega
   have hke:l.take k=l:=List.take_of_length_le (by omega)
   rw[hke] at HK
   have hrt:rr=false:=HR.out.trans (by simp[HK.out])
   subst hrt
   go_wp2
   go_ret
   exact⟨rfl,hbF⟩
end Go.Proofs.YtfkabkbnfeiggaaGreatDoor
