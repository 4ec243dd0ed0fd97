/-
  Own texts joined by program: ClL ClV ClN ClO.
-/
import Derived.Test.YtbmbchdjjfmafaaGreatDoorQap
import Derived.Test.YtbmbchdjjfmafaaGreatDoorQaz
namespace Go.Proofs.YtbmbchdjjfmafaaGreatDoor
open Go.RowKit
theorem eqKey {r s:Ref} (hr:VLen r) (hs:VLen s) (W:World):(Op.equal 99 (vkey r) (vkey s)).run Tryz.prog W=.ok (decide (s=r)) W:=by
 have h:=keyLaw.find W (keyOf_v hr) [⟨vkey s,.bool true,0⟩] (fun e he=>by rw[List.mem_singleton.1 he];exact⟨_,keyOf_v hs⟩)
 have hf:∀ o W',(Instr.findKey 99 (vkey r) [⟨vkey s,.bool true,0⟩]).run Tryz.prog W=.ok o W'→(Op.equal 99 (vkey r) (vkey s)).run Tryz.prog W=.ok o.isSome W':=by
  intro o W' ho
  simp only[Instr.findKey,Sem.run_bind,run_underlying Tryz.underlying99,Result.andThen,Instr.findNow,Instr.sameNow,vkey,Instr.findAsking] at ho ⊢
  cases hE:(Op.equal 99 (.agg #[.string r.1,.string r.2]) (.agg #[.string s.1,.string s.2])).run Tryz.prog W with
  | ok b w' =>
   rw[hE] at ho
   cases b
   ·simp at ho
    obtain⟨h1,h2⟩:=ho
    subst h1 h2;rfl
   ·simp at ho
    obtain⟨h1,h2⟩:=ho
    subst h1 h2;rfl
  | halt h w'=>rw[hE] at ho;simp at ho
 rcases h with ⟨h1,h2⟩|⟨j,e,h1,h2,h3⟩
 ·have hne:¬ s=r:=fun e=>h2 ⟨vkey s,.bool true,0⟩ (List.mem_singleton.2 rfl) (by show vkey s=vkey r;rw[e])
  rw[hf _ _ h1];simp[hne]
 ·have he:e=⟨vkey s,.bool true,0⟩:=by simpa using List.mem_of_getElem? h2
  rw[he] at h3
  have hse:s=r:=vkey_inj h3
  rw[hf _ _ h1];simp[hse]
theorem eqRef {a b c d:ByteArray} (hr:VLen (a,b)) (hs:VLen (c,d)) (W:World):(binOp .eql 99 (.agg #[.string a,.string b]) (.agg #[.string c,.string d])).run Tryz.prog W=.ok (.bool (decide ((c,d)=(a,b)))) W:=by
 have h:(Op.equal 99 (.agg #[.string a,.string b]) (.agg #[.string c,.string d])).run Tryz.prog W=.ok (decide ((c,d)=(a,b))) W:=eqKey hr hs W
 simp[binOp,go_sem,h]
def IxBack (l:List Ref) (r:Ref) (w w':World) (e:Ending):Prop:=((r ∉ l∧e=.returned (.int .i64 (-1)))∨(r∈l∧∃ i:Nat,i<l.length∧e=.returned (.int .i64 (i:Int))))∧Below w.heap.size w w'
set_option maxRecDepth 100000 in
set_option maxHeartbeats 4000000 in
theorem index_any (l:List Ref) (ad:Option Addr) (cap n₀:Nat) (a c:ByteArray) (w:World) (hn:n₀≤w.heap.size) (hsl:SlAt 2 rcells n₀ w ad cap l) (hr:VLen (a,c)) (hV:∀ r∈l,VLen r) :
  Calls Tryz.prog 143 #[.slice ad l.length cap,.agg #[.string a,.string c]] w fun e w'=>IxBack l (a,c) w w' e:=by
 have hl1:=hsl.1;have hl2:=hsl.2.1
 unfold maxLen at hl2
 go_enter Tryz.func143,Tryz.ntmps143
 go_upto_region 1 with fail
 obtain⟨bX,hBX,hzX⟩:=one_box w #[.string a,.string c] 99
 obtain⟨W1,hW1⟩:∃ W1,w.alloc (.cells #[.string a,.string c] 99)=W1:=⟨_,rfl⟩
 rw[hW1] at bX hBX hzX ⊢
 clear hW1
 have HZ:=hid hzX
 clear hzX
 go_wp2
 go_loopw [8] (fun i wr=>∃ k:Nat,k≤l.length∧i=.int .i64 k∧Hid ((a,c) ∉ l.take k)∧Below W1.heap.size W1 wr)
  (fun i _=>l.length-(intOf i).toNat)
 case atStart=>exact⟨0,by omega,rfl,(by show _ ∉ _;simp),Below.refl _ _⟩
 case round =>
  obtain⟨k,hk,rfl,HK,hbx⟩:=hrel
  have hzx:=hbx.size
  have hz0:=HZ.out
  have hbF:Below w.heap.size w wr:=hBX.tr (by omega) hbx
  by_cases hlk:k<l.length
  ·rcases hsl.2.2 with h|⟨tb,toff,rfl,htn,htrow⟩
   ·subst h;simp at hlk
   have htrow2:=htrow.below (hbF.mono hn) htn
   have d0:=htrow2 k hlk 0 (by omega)
   have d1:=htrow2 k hlk 1 (by omega)
   have htw:tb<wr.heap.size:=by omega
   have hvx:=hV _ (List.getElem_mem hlk)
   have HX1:Hid (l[k]=(a,c)→(a,c)∈l):=fun h=>h▸List.getElem_mem hlk
   have HX2:Hid (l[k]≠(a,c)→(a,c) ∉ l.take (k+1)):=by
    intro h hx
    rw[List.take_succ_eq_append_getElem hlk] at hx
    rcases List.mem_append.1 hx with hx|hx
    ·exact HK.out hx
    ·exact h (List.mem_singleton.1 hx).symm
   simp only[rcells] at d0 d1
   simp at d0 d1
   obtain⟨g1,hg1⟩:∃ g1,l[k]=g1:=⟨_,rfl⟩
   rw[hg1] at d0 d1 hvx HX1 HX2
   clear hg1
   obtain⟨gm,gn⟩:=g1
   simp only at d0 d1
   have heq:=fun W=>eqRef hr hvx W
   have bXr:=(hbx.block w.heap.size (by omega)).trans bX
   have y0:=cellOf bXr 0
   have y1:=cellOf bXr 1
   simp at y0 y1
   have hww:w.heap.size<wr.heap.size:=by omega
   by_cases he:(gm,gn)=(a,c)
   ·have hd:decide ((gm,gn)=(a,c))=true:=by simp[he]
    simp only[hd] at heq
    have HI:=hid (HX1.out he)
    clear HX1 HX2 he hd
    go_wp2_with fail
    go_quiet (fail)
    go_wp2
    go_ret
    exact⟨.inr ⟨HI.out,k,hlk,rfl⟩,below_drewN hbF _⟩
   ·have hd:decide ((gm,gn)=(a,c))=false:=by simp only[he,decide_false]
    simp only[hd] at heq
    have HI:=hid (HX2.out he)
    clear HX1 HX2 he hd
    go_wp2_with fail
    go_quiet (fail)
    go_wp2
    go_roundw
    case rel=>exact⟨k+1,by omega,by go_num,HI,below_drewN hbx _⟩
    case measure=>simp[intOf];omega
  ·have hkd:decide ((k:Int)<(l.length:Int))=false:=by simp;omega
   have HE:Hid ((a,c) ∉ l):=by
    have:=HK.out
    rwa [List.take_of_length_le (by omega)] at this
   go_wp2
   go_ret
   exact⟨.inl ⟨HE.out,rfl⟩,hbF⟩
set_option maxRecDepth 100000 in
set_option maxHeartbeats 4000000 in
theorem contains_any (l:List Ref) (ad:Option Addr) (cap n₀:Nat) (a c:ByteArray) (w:World) (hn:n₀≤w.heap.size) (hsl:SlAt 2 rcells n₀ w ad cap l) (hr:VLen (a,c)) (hV:∀ r∈l,VLen r) :
  Calls Tryz.prog 116 #[.slice ad l.length cap,.agg #[.string a,.string c]] w fun e w'=>e=.returned (.bool (decide ((a,c)∈l)))∧Below w.heap.size w w':=by
 have hq:=fun (W:World) (hW:Below w.heap.size w W)=>index_any l ad cap n₀ a c W (by have:=hW.size;omega) (hsl.below (hW.mono hn)) hr hV
 by_cases hm:(a,c)∈l
 ·have hd:decide ((a,c)∈l)=true:=by simp[hm]
  have hq2:∀ (W:World) (hW:Below w.heap.size w W),Calls Tryz.prog 143 #[.slice ad l.length cap,.agg #[.string a,.string c]] W fun e w'=>∃ i:Nat,e=.returned (.int .i64 (i:Int))∧Below W.heap.size W w':=fun W hW=>(hq W hW).mono (by
   rintro e w' ⟨⟨h,_⟩|⟨_,i,_,h⟩,hb⟩
   ·exact absurd hm h
   ·exact⟨i,h,hb⟩)
  rw[hd]
  clear hq hd hm
  have hB0:=(Below.refl w.heap.size w).al le_rfl' (.cells #[.string a,.string c] 99)
  go_enter Tryz.func116,Tryz.ntmps116
  go_wp2_with (go_at_call 143;(with_reducible refine (hq2 _ hB0).mono ?_);rintro r u1 ⟨i,rfl,bb1⟩;have hi0:(0:Int)≤(i:Int):=by omega)
  go_ret
  exact⟨rfl,hB0.tr le_rfl' bb1⟩
 ·have hd:decide ((a,c)∈l)=false:=by simp only[hm,decide_false]
  have hq2:∀ (W:World) (hW:Below w.heap.size w W),Calls Tryz.prog 143 #[.slice ad l.length cap,.agg #[.string a,.string c]] W fun e w'=>e=.returned (.int .i64 (-1))∧Below W.heap.size W w':=fun W hW=>(hq W hW).mono (by
   rintro e w' ⟨⟨_,h⟩|⟨h,_⟩,hb⟩
   ·exact⟨h,hb⟩
   ·exact absurd h hm)
  rw[hd]
  clear hq hd hm
  have hB0:=(Below.refl w.heap.size w).al le_rfl' (.cells #[.string a,.string c] 99)
  go_enter Tryz.func116,Tryz.ntmps116
  go_wp2_with (go_at_call 143;(with_reducible refine (hq2 _ hB0).mono ?_);rintro r u1 ⟨rfl,bb1⟩)
  go_ret
  exact⟨rfl,hB0.tr le_rfl' bb1⟩
def goesR (p:Pr) (r:Ref):Bool:=decide (r∈reachedOf p (leadsOf p r))
set_option maxRecDepth 100000 in
set_option maxHeartbeats 4000000 in
theorem goesRound_any (p:Pr) (a c:ByteArray) (n₀ b:Nat) (w:World) (hn:n₀≤w.heap.size) (hBk:Book w n₀ b p) (hr:VLen (a,c)) (hV:∀ r∈allRefs p,VLen r) (hF:Fine p) :
  Calls Tryz.prog 89 #[.map (some b),.agg #[.string a,.string c]] w fun e w'=>e=.returned (.bool (goesR p (a,c)))∧Below w.heap.size w w':=by
 have HG:=hid (show goesR p (a,c)=decide ((a,c)∈reachedOf p (leadsOf p (a,c))) from rfl)
 have hV2:∀ r∈leadsOf p (a,c)++allRefs p,VLen r:=fun r hr=>by
  rcases List.mem_append.1 hr with h|h
  ·exact hV r (leads_all p _ r h)
  ·exact hV r h
 have hV3:∀ r∈reachedOf p (leadsOf p (a,c)),VLen r:=fun r hr=>hV2 r (reached_sub p _ r hr)
 have hra:=fun (ad:Option Addr) (cap:Nat) (W:World) (hW:Below w.heap.size w W) (hs:SlAt 2 rcells n₀ W ad cap (leadsOf p (a,c)))=>reached_any p (leadsOf p (a,c)) ad cap n₀ b W (by have:=hW.size;omega) (hBk.below (hW.mono hn)) hs hV2 (by have:=hF.refs;have:=hF.lds (a,c);omega)
 have hco:=fun (ad:Option Addr) (cap:Nat) (W:World) (hs:SlAt 2 rcells W.heap.size W ad cap (reachedOf p (leadsOf p (a,c))))=>contains_any (reachedOf p (leadsOf p (a,c))) ad cap W.heap.size a c W (Nat.le_refl _) hs hr hV3
 simp only[← HG.out] at hco
 obtain⟨G,hG⟩:∃ G,goesR p (a,c)=G:=⟨_,rfl⟩
 rw[hG]
 simp only[hG] at hco
 obtain⟨bX,hBX,hzX⟩:=one_box w #[.string a,.string c] 99
 go_enter Tryz.func89,Tryz.ntmps89
 go_upto_region 1 with fail
 obtain⟨W1,hW1⟩:∃ W1,w.alloc (.cells #[.string a,.string c] 99)=W1:=⟨_,rfl⟩
 obtain⟨Bs,hBs⟩:∃ Bs,w.heap.size=Bs:=⟨_,rfl⟩
 have HBX:Hid (Below w.heap.size w W1):=by rw[← hW1];exact hBX
 rw[hW1] at bX ⊢
 rw[hBs] at bX ⊢
 have hBkd:Book W1.drew n₀ b p:=hBk.below (below_drewV (HBX.out.mono hn))
 obtain⟨gad,gcap,cad,ccap,hlook,-,hcl⟩:=hBkd.look hr
 simp only at hlook
 obtain⟨gb,hgb⟩:∃ gb,(bodyOf p (a,c)).body.length=gb:=⟨_,rfl⟩
 rw[hgb] at hlook
 have hf80:=fld80
 have hB1:Below w.heap.size w W1.drew:=below_drewV HBX.out
 have hrac:=hra cad ccap _ hB1 hcl
 obtain⟨gs,hgs⟩:∃ gs,leadsOf p (a,c)=gs:=⟨_,rfl⟩
 obtain⟨R,hR⟩:∃ R,reachedOf p (leadsOf p (a,c))=R:=⟨_,rfl⟩
 simp only[hR] at hrac hco
 rw[hgs] at hlook hrac
 clear hgs hR hgb hW1 hBs hBX hzX hra hBkd hcl
 have HK:Hid (∀ W,Below W1.heap.size W1 W→W.cell? ⟨Bs,0,none⟩=some (.string a)∧W.cell? ⟨Bs,1,none⟩=some (.string c)):=by
  intro W hW
  have hl:=(Array.getElem?_eq_some_iff.1 bX).1
  refine⟨(hW.cell (p:=⟨Bs,0,none⟩) hl).trans ?_,(hW.cell (p:=⟨Bs,1,none⟩) hl).trans ?_⟩
  ·rw[cellOf bX];simp
  ·rw[cellOf bX];simp
 have B:Below W1.heap.size W1 W1.drew:=⟨rfl,rfl,rfl,Nat.le_refl _,fun _ _=>rfl⟩
 go_region_held3 (fun W=>W.cell? ⟨Bs,0,none⟩=some (.string a)∧W.cell? ⟨Bs,1,none⟩=some (.string c)) (exact HK.out _ B)
  (first
   | (go_at_call 73;(with_reducible refine hrac.mono ?_);rintro r u ⟨v,rfl,hown,bb⟩;obtain⟨rad,rcp,rfl,hrs⟩:=slOwn rcells_len hown;have B:=B.trans (bb.mono B.size))
   | (go_at_call 116;(with_reducible refine (hco rad rcp _ hrs).mono ?_);rintro r u2 ⟨rfl,bb2⟩;have B:=B.trans (bb2.mono B.size)))
 have HB:=hid (HBX.out.trans (B.mono HBX.out.size))
 go_wp2
 go_ret
 exact⟨rfl,HB.out⟩
def Me.cyc (p:Pr) (mon:ByteArray) (f:Me):Option (Int × Int):=if goesR p (mon,f.name)=true then some (80,f.pos) else none
def Mo.cyc (p:Pr) (m:Mo):Option (Int × Int):=fstOf (Me.cyc p m.name) m.meths
def Ro.big (p:Pr) (r:Ro):Option (Int × Int):=if (cntOf p r.body).2=81 then some (81,r.pos) else none
def Pr.cchk (p:Pr):Int × Int:=if p.tchk.1=0 then ((fstOf (Mo.cyc p) p.mons).or (fstOf (Ro.big p) p.roles)).getD (0,0) else p.tchk
set_option maxRecDepth 100000 in
set_option maxHeartbeats 16000000 in
theorem Check_any (p:Pr) (n₀:Nat) (w:World) (hn:n₀≤w.heap.size) (hp:p.Is n₀ w) (hS:Shapes w) (hS3:6≤w.heap.size) (hvs:vsum p.mons≤1000000) (hF:Fine p) (hRo:∀ r∈p.roles,FineB r.body) :
  Calls Tryz.prog 51 #[p.val] w fun r w'=>ChkBack p.cchk w w' r:=by
 have hc1:=fun (W:World) (hW:Below w.heap.size w W)=>typesCheck_any p hvs n₀ W (by have:=hW.size;omega) (hp.below (hW.mono hn)) (hS.below hW hS3)
 have hc2:=fun (W:World) (hW:Below w.heap.size w W)=>newBook_any p n₀ W (by have:=hW.size;omega) (hp.below (hW.mono hn)) hF.subs hF.lens
 have hV:=vlen_all hp
 have hc3:=fun (b n:Nat) (W:World) (hnW:n≤W.heap.size) (hB:Book W n b p) (a c:ByteArray) (hr:VLen (a,c))=>goesRound_any p a c n b W hnW hB hr hV hF
 have hc4:=fun (b n:Nat) (W:World) (hnW:n≤W.heap.size) (hB:Book W n b p) (r:Ro) (hr:r∈p.roles) (hI:r.body.Is n W)=>count_any p r.body n b W hnW hB hI hV hF (hRo r hr)
 have HCC:=hid (show p.cchk=if p.tchk.1=0 then ((fstOf (Mo.cyc p) p.mons).or (fstOf (Ro.big p) p.roles)).getD (0,0) else p.tchk from rfl)
 obtain⟨P,hP⟩:∃ P:Pr,P=p:=⟨_,rfl⟩
 have HPP:=hid hP
 obtain⟨tc,htc⟩:∃ tc,p.tchk=tc:=⟨_,rfl⟩
 obtain⟨cc,hcc⟩:∃ cc,p.cchk=cc:=⟨_,rfl⟩
 rw[htc,hcc] at HCC
 simp only[htc] at hc1
 rw[hcc]
 rw[← hP] at HCC hc3 hc4
 have hc2:∀ (W:World),Below w.heap.size w W→Calls Tryz.prog 40 #[p.val] W fun r w'=>BookBack P W w' r:=by rw[hP];exact hc2
 have hPm:P.mons=p.mons:=by rw[hP]
 have hPr:P.roles=p.roles:=by rw[hP]
 rw[hPm,hPr] at HCC
 simp only[hPr] at hc4
 clear htc hcc hP hRo hvs hV hS hPm hPr
 rcases p with ⟨mad,mcap,mons,rad,rcap,roles⟩
 obtain⟨⟨h3,h4⟩,h5,h6⟩:=hp
 obtain⟨tc1,tc2⟩:=tc
 simp only[Pr.val] at hc1 hc2 hc4 h3 h4 h5 h6 HCC ⊢
 simp only[ChkBack] at hc1
 have hl1:=h3.1;have hl2:=h3.2.1
 unfold maxLen at hl2
 have hr1:=h5.1;have hr2:=h5.2.1
 unfold maxLen at hr2
 have hB:=(Below.refl w.heap.size w).al le_rfl' (.cells #[.slice mad mons.length mcap,.slice rad roles.length rcap] 25)
 have b1:=heapNew w (.cells #[.slice mad mons.length mcap,.slice rad roles.length rcap] 25)
 cases hte:(tc1 != 0:Bool)
 ·have ht0:tc1=0:=by simpa using hte
  subst ht0
  rw[if_pos rfl] at HCC
  go_enter Tryz.func51,Tryz.ntmps51
  go_upto_region 5 with (first
   | (go_at_call 88;(with_reducible refine (hc1 _ hB).mono ?_);rintro r wA ⟨rfl,bb1⟩;have b2:=(bb1.block w.heap.size (by simp)).trans b1;have p0:=cellOf b2 0;have p1:=cellOf b2 1;simp at p0 p1)
   | (go_at_call 40;(with_reducible refine (hc2 _ (hB.tr le_rfl' bb1)).mono ?_);rintro r wB ⟨b,rfl,hbk,bb2⟩))
  have hB1:=hB.tr le_rfl' bb1
  have hB2:=hB1.tr le_rfl' bb2
  have b3:=(bb2.block w.heap.size (by have:=hB1.size;have:=(Array.getElem?_eq_some_iff.1 b2).1;omega)).trans b2
  have q0:=cellOf b3 0
  have q1:=cellOf b3 1
  simp at q0 q1
  clear hc1 hc2 p0 p1 b1 b2 bb1 bb2 hte
  have hz2:=hB2.size
  go_wp2
  go_loopw [29] (fun i wr=>∃ j:Nat,j≤mons.length∧i=.int .i64 j∧Hid (fstOf (Mo.cyc P) mons=fstOf (Mo.cyc P) (mons.drop j))∧Below wB.heap.size wB wr)
   (fun i _=>mons.length-(intOf i).toNat)
  case atStart=>exact⟨0,by omega,rfl,rfl,Below.refl _ _⟩
  case round =>
   obtain⟨j,hj,rfl,HQ,hbw⟩:=hrel
   have hz1:=hbw.size
   have hbF:Below w.heap.size w wr:=hB2.tr le_rfl' hbw
   by_cases hlt:j<mons.length
   ·rcases h3.2.2 with h|⟨kb,koff,rfl,hbn,hrow⟩
    ·subst h;simp at hlt
    have HD:=hid (fstOf_drop (Mo.cyc P) mons j hlt)
    have HMU:Hid (Mo.cyc P mons[j]=fstOf (Me.cyc P mons[j].name) mons[j].meths):=rfl
    have hmj:=h4 _ (List.getElem_mem hlt)
    have hmm2:=hrow.below (hbF.mono hn) hbn
    rcases he':mons[j] with ⟨mname,vad,vcap,vars,fad,fcap,meths,mpos⟩
    have hc4r:=row4 hmm2 j hlt (by rw[he'];rfl)
    rw[he'] at hmj HMU
    rw[he'] at HD
    simp only at hc4r HMU
    obtain⟨c0,c1,c2,c3⟩:=hc4r
    have hkw:kb<wr.heap.size:=by omega
    obtain⟨⟨hml,-⟩,-,hfs,hfI⟩:=hmj
    simp only at hfs hfI hml
    have hf1:=hfs.1;have hf2:=hfs.2.1
    unfold maxLen at hf2
    clear he' hmm2
    go_upto_region 8 with fail
    obtain⟨bX,hBX,hzX⟩:=one_box wr #[.string mname,.slice vad vars.length vcap,.slice fad meths.length fcap,.int .i64 mpos] 64
    obtain⟨Bm,hBm⟩:∃ Bm,wr.heap.size=Bm:=⟨_,rfl⟩
    obtain⟨W1,hW1⟩:∃ W1,wr.alloc (.cells #[.string mname,.slice vad vars.length vcap,.slice fad meths.length fcap,.int .i64 mpos] 64)=W1:=⟨_,rfl⟩
    have hbw1:Below wB.heap.size wB W1:=by rw[← hW1];exact hbw.tr le_rfl' hBX
    rw[hW1] at bX ⊢
    rw[hBm] at bX ⊢
    have x2:=cellOf bX 2
    simp at x2
    clear hBX hzX hW1 hBm c0 c1 c2 c3
    obtain⟨wo,hwo⟩:∃ wo:World,wo=wr:=⟨_,rfl⟩
    subst hwo
    go_wp2
    clear x2
    go_loopw [36] (fun i wx=>∃ k:Nat,k≤meths.length∧i=.int .i64 k∧Hid (fstOf (Me.cyc P mname) meths=fstOf (Me.cyc P mname) (meths.drop k))∧Below W1.heap.size W1 wx)
     (fun i _=>meths.length-(intOf i).toNat)
    case atStart=>exact⟨0,by omega,rfl,rfl,Below.refl _ _⟩
    case round =>
     obtain⟨k,hk,rfl,HQ2,hbx⟩:=hrel
     have hzx:=hbx.size
     have hbx2:Below wB.heap.size wB wr:=hbw1.tr le_rfl' hbx
     have hbF2:Below w.heap.size w wr:=hB2.tr le_rfl' hbx2
     have bXi:=(hbx.block Bm (Array.getElem?_eq_some_iff.1 bX).1).trans bX
     by_cases hlk:k<meths.length
     ·rcases hfs.2.2 with h|⟨qb,qoff,rfl,hqn,hqrow⟩
      ·subst h;simp at hlk
      have HD2:=hid (fstOf_drop (Me.cyc P mname) meths k hlk)
      have HMe:Hid (Me.cyc P mname meths[k]=if goesR P (mname,meths[k].name)=true then some (80,meths[k].pos) else none):=rfl
      have hIf:=hfI _ (List.getElem_mem hlk)
      have hqrow2:=hqrow.below (hbF2.mono hn) hqn
      rcases he2:meths[k] with ⟨fname,⟨bad,bcap,bbody⟩,fpos⟩
      have hc3r:=row3 hqrow2 k hlk (by rw[he2];rfl)
      rw[he2] at HMe hIf
      rw[he2] at HD2
      simp only[Bl.slice] at hc3r
      simp only at HMe
      obtain⟨d0,d1,d2⟩:=hc3r
      have hfl:=hIf.1
      simp only at hfl
      have hvl:VLen (mname,fname):=by unfold VLen maxLen;unfold Len at hml hfl;exact⟨by simp;omega,by simp;omega⟩
      have hqw:qb<wr.heap.size:=by have:=hbF2.size;omega
      obtain⟨bF,hBF,hzF⟩:=one_box wr #[.string fname,.slice bad bbody.length bcap,.int .i64 fpos] 68
      have hcg:=hc3 b wB.heap.size (wr.alloc (.cells #[.string fname,.slice bad bbody.length bcap,.int .i64 fpos] 68)) (by have:=hbx2.size;simp;omega) (hbk.below (hbx2.tr le_rfl' hBF)) mname fname hvl
      have m0:=(hBF.cell (p:=⟨Bm,0,none⟩) (by show Bm<_;exact (Array.getElem?_eq_some_iff.1 bXi).1)).trans (cellOf bXi 0)
      simp at m0
      obtain⟨G,hG⟩:∃ G,goesR P (mname,fname)=G:=⟨_,rfl⟩
      rw[hG] at hcg HMe
      clear he2 hG hqrow2 hIf
      cases G
      ·simp only[Bool.false_eq_true,if_false] at HMe
       go_wp2_with (go_at_call 89;(with_reducible refine hcg.mono ?_);rintro r wE ⟨rfl,bb5⟩)
       go_roundw
       case rel=>exact⟨k+1,by omega,by go_num,by show _=_;rw[HQ2.out,HD2.out,HMe.out];rfl,(hbx.tr le_rfl' hBF).tr le_rfl' bb5⟩
       case measure=>simp[intOf];omega
      ·simp only[if_true] at HMe
       have HE:Hid (cc=(80,fpos)):=by
        show _=_
        rw[HCC.out,HQ.out,HD.out,HMU.out,HQ2.out,HD2.out,HMe.out];rfl
       go_wp2_with (go_at_call 89;(with_reducible refine hcg.mono ?_);rintro r wE ⟨rfl,bb5⟩;have f2:=(bb5.cell (p:=⟨wr.heap.size,2,none⟩) (by show wr.heap.size<_;simp)).trans (cellOf bF 2);simp at f2)
       go_quiet (fail)
       go_wp2
       go_ret2
       exact chkBack_mk HE.out (below_drewN ((hbF2.tr le_rfl' hBF).tr le_rfl' bb5) _)
     ·have hkd:decide ((k:Int)<(meths.length:Int))=false:=by simp;omega
      have HE:Hid (fstOf (Mo.cyc P) mons=fstOf (Mo.cyc P) (mons.drop (j+1))):=by
       show _=_
       rw[HQ.out,HD.out,HMU.out,HQ2.out,fstOf_end _ _ _ (by omega)];rfl
      go_wp2
      go_roundw
      case rel=>exact⟨j+1,by omega,by go_num,HE,hbx2⟩
      case measure=>simp[intOf];omega
   ·have hjd:decide ((j:Int)<(mons.length:Int))=false:=by simp;omega
    have HC2:Hid (cc=(fstOf (Ro.big P) roles).getD (0,0)):=by
     show _=_
     rw[HCC.out,HQ.out,fstOf_end _ _ _ (by omega)];rfl
    clear HCC HQ
    have b4:=(hbw.block w.heap.size (Array.getElem?_eq_some_iff.1 b3).1).trans b3
    have q0:=cellOf b4 0
    have q1:=cellOf b4 1
    simp at q0 q1
    obtain⟨wC,hu3⟩:∃ wC:World,wC=wr:=⟨_,rfl⟩
    subst hu3
    go_wp2
    clear q0 q1
    go_loopw [54] (fun i wx=>∃ k:Nat,k≤roles.length∧i=.int .i64 k∧Hid (fstOf (Ro.big P) roles=fstOf (Ro.big P) (roles.drop k))∧Below wB.heap.size wB wx)
     (fun i _=>roles.length-(intOf i).toNat)
    case atStart=>exact⟨0,by omega,rfl,rfl,hbw⟩
    case round =>
     obtain⟨k,hk,rfl,HQ2,hbx⟩:=hrel
     have hzx:=hbx.size
     have hbF2:Below w.heap.size w wr:=hB2.tr le_rfl' hbx
     by_cases hlk:k<roles.length
     ·rcases h5.2.2 with h|⟨qb,qoff,rfl,hqn,hqrow⟩
      ·subst h;simp at hlk
      have HD2:=hid (fstOf_drop (Ro.big P) roles k hlk)
      have HMe:Hid (Ro.big P roles[k]=if (cntOf P roles[k].body).2=81 then some (81,roles[k].pos) else none):=rfl
      have hIr:=h6 _ (List.getElem_mem hlk)
      have hcr:=fun (W:World) (hW:Below wr.heap.size wr W)=>hc4 b wB.heap.size W (by have:=hW.size;omega) (hbk.below (hbx.tr le_rfl' hW)) roles[k] (List.getElem_mem hlk) ((hIr.2.2.2.below ((hbF2.tr le_rfl' hW).mono hn)).mono (by omega))
      have hqrow2:=hqrow.below (hbF2.mono hn) hqn
      rcases he2:roles[k] with ⟨rname,rstar,rcount,⟨bad,bcap,bbody⟩,rpos⟩
      have hc5r:=row5 hqrow2 k hlk (by rw[he2];rfl)
      rw[he2] at HMe
      rw[he2] at HD2
      simp only[he2] at hcr
      simp only[Bl.slice] at hc5r hcr
      simp only at HMe
      obtain⟨d0,d1,d2,d3,d4⟩:=hc5r
      have hqw:qb<wr.heap.size:=by have:=hbF2.size;omega
      obtain⟨bF,hBF,hzF⟩:=one_box wr #[.string rname,.bool rstar,.int .i64 rcount,.slice bad bbody.length bcap,.int .i64 rpos] 39
      have hcg:=hcr _ hBF
      obtain⟨cn,hcn⟩:∃ cn,cntOf P (.mk bad bcap bbody)=cn:=⟨_,rfl⟩
      rw[hcn] at hcg HMe
      obtain⟨c1,c2⟩:=cn
      simp only[CntBack] at hcg
      simp only at HMe
      clear he2 hcn hcr hqrow2 hIr
      cases hc81:(c2==81:Bool)
      ·have hne:¬ c2=81:=by simpa using hc81
       rw[if_neg hne] at HMe
       go_wp2_with (go_at_call 41;(with_reducible refine hcg.mono ?_);rintro r wE ⟨rfl,bb5⟩)
       go_roundw
       case rel=>exact⟨k+1,by omega,by go_num,by show _=_;rw[HQ2.out,HD2.out,HMe.out];rfl,(hbx.tr le_rfl' hBF).tr le_rfl' bb5⟩
       case measure=>simp[intOf];omega
      ·have he:c2=81:=by simpa using hc81
       subst he
       rw[if_pos rfl] at HMe
       have HE:Hid (cc=(81,rpos)):=by
        show _=_
        rw[HC2.out,HQ2.out,HD2.out,HMe.out];rfl
       go_wp2_with (go_at_call 41;(with_reducible refine hcg.mono ?_);rintro r wE ⟨rfl,bb5⟩;have f2:=(bb5.cell (p:=⟨wr.heap.size,4,none⟩) (by show wr.heap.size<_;simp)).trans (cellOf bF 4);simp at f2)
       go_quiet (fail)
       go_wp2
       go_ret2
       exact chkBack_mk HE.out (below_drewN ((hbF2.tr le_rfl' hBF).tr le_rfl' bb5) _)
     ·have hkd:decide ((k:Int)<(roles.length:Int))=false:=by simp;omega
      have HE:Hid (cc=(0,0)):=by
       show _=_
       rw[HC2.out,HQ2.out,fstOf_end _ _ _ (by omega)];rfl
      go_wp2
      go_ret2
      exact chkBack_mk HE.out hbF2
 ·have hne:¬ tc1=0:=by simpa using hte
  rw[if_neg hne] at HCC
  go_enter Tryz.func51,Tryz.ntmps51
  go_wp2_with (go_at_call 88;(with_reducible refine (hc1 _ hB).mono ?_);rintro r wA ⟨rfl,bb1⟩)
  go_ret2
  exact chkBack_mk HCC.out (hB.tr le_rfl' bb1)
open Go.RowKit
open Go.RowKit
theorem clr_subs (y:Bl):y.clr.subs=y.subs.map St.clr:=
 Bl.ind (P:=fun s=>s.clr.subs=s.subs.map St.clr) (Q:=fun b=>b.clr.subs=b.subs.map St.clr)
  (fun kind mon name n e ad cap blocks pos ih=>by
   rw[St.clr_mk,St.subs_mk,St.subs_mk,List.map_cons,St.clr_mk,List.flatMap_map,List.map_flatMap]
   congr 1
   clear ad cap
   induction blocks with
   | nil=>rfl
   | cons b l ihl=>rw[List.flatMap_cons,List.flatMap_cons,ih b (by simp),ihl (fun x hx=>ih x (by simp[hx]))])
  (fun ad cap body ih=>by
   rw[Bl.clr_mk,Bl.subs_mk,Bl.subs_mk,List.flatMap_map,List.map_flatMap]
   clear ad cap
   induction body with
   | nil=>rfl
   | cons b l ihl=>rw[List.flatMap_cons,List.flatMap_cons,ih b (by simp),ihl (fun x hx=>ih x (by simp[hx]))]) y
theorem clr_ok1 (s:St):s.clr.ok1=s.ok1:=by rcases s with ⟨a1,a2,a3,a4,a5,a6,a7,a8,a9⟩;rw[St.clr_mk];simp[St.ok1]
theorem clr_okB (y:Bl):y.clr.okB=y.okB:=by
 rw[Bl.okB,Bl.okB,clr_subs,List.all_map]
 congr 1
 funext s
 exact clr_ok1 s
theorem inl_all {P Q:St→Prop} {f:Ref→Bl} (h1:∀ s,P s→Q (s.inl f)) (hf:∀ s,P s→s.kind=8→∀ t∈(f s.ref).subs,Q t) (x:Bl):(∀ s∈x.subs,P s)→∀ t∈(x.inl f).subs,Q t:=
 Bl.ind (P:=fun s=>(∀ t∈s.subs,P t)→∀ t∈(s.inl f).subs,Q t) (Q:=fun b=>(∀ t∈b.subs,P t)→∀ t∈(b.inl f).subs,Q t)
  (fun kind mon name n e ad cap blocks pos ih hP t ht=>by
   have hs:=hP _ (subs_self _)
   have hq:=h1 _ hs
   by_cases hk:kind=8
   ·subst hk
    rw[St.inl_call] at ht hq
    rw[St.subs_mk] at ht
    rcases List.mem_cons.1 ht with rfl|ht
    ·exact hq
    ·simp only[List.flatMap_cons,List.flatMap_nil,List.append_nil] at ht
     exact hf _ hs rfl t ht
   ·rw[St.inl_other _ _ hk] at ht hq
    rw[St.subs_mk] at ht
    rcases List.mem_cons.1 ht with rfl|ht
    ·exact hq
    ·rw[List.flatMap_map] at ht
     obtain⟨b,hb,ht⟩:=List.mem_flatMap.1 ht
     exact ih b hb (fun u hu=>hP u (by rw[St.subs_mk];exact List.mem_cons_of_mem _ (List.mem_flatMap.2 ⟨b,hb,hu⟩))) t ht)
  (fun ad cap body ih hP t ht=>by
   rw[Bl.inl_mk,Bl.subs_mk,List.flatMap_map] at ht
   obtain⟨s,hs,ht⟩:=List.mem_flatMap.1 ht
   exact ih s hs (fun u hu=>hP u (by rw[Bl.subs_mk];exact List.mem_flatMap.2 ⟨s,hs,hu⟩)) t ht) x
theorem zeroEx_fits:fitsEx zeroEx (stExpr (7:Int).toNat)=true:=by kernel_rfl
theorem inl_ok1 (f:Ref→Bl) (s:St) (h:s.ok1=true):(s.inl f).ok1=true:=by
 rcases s with ⟨kind,mon,name,n,e,ad,cap,blocks,pos⟩
 by_cases hk:kind=8
 ·subst hk
  rw[St.inl_call]
  simp only[St.ok1,Bool.and_eq_true,decide_eq_true_eq] at h ⊢
  refine⟨⟨by decide,by decide⟩,⟨⟨⟨⟨h.2.1.1.1.1.1,by kernel_rfl⟩,by kernel_rfl⟩,zeroEx_fits⟩,by show stLeast (Int.toNat 7)≤1;decide⟩,by show 1≤stMost (Int.toNat 7);decide⟩
 ·rw[St.inl_other _ _ hk]
  simpa[St.ok1] using h
theorem body_okB {p:Pr} (h:p.ok=true) (r:Ref):(bodyOf p r).okB=true:=by
 rw[bodyOf]
 split
 ·rename_i f hf
  obtain⟨m,hm,hfm⟩:=methIx_mem hf
  exact ok_meth h m hm f hfm
 ·rw[Bl.okB,Bl.subs_mk];rfl
theorem okB_iff {x:Bl}:x.okB=true↔∀ s∈x.subs,s.ok1=true:=by rw[Bl.okB,List.all_eq_true]
theorem inlR_ok {p:Pr} (h:p.ok=true) (N:Nat):∀ r,∀ t∈(inlR p N r).subs,t.ok1=true:=by
 induction N with
 | zero=>intro r t ht;simp[inlR,Bl.subs_mk] at ht
 | succ N ih=>intro r;exact inl_all (P:=fun s=>s.ok1=true) (Q:=fun t=>t.ok1=true) (fun s hs=>inl_ok1 _ s hs) (fun s _ _=>ih s.ref) (bodyOf p r) (okB_iff.1 (body_okB h r))
theorem inl_okB {p:Pr} (h:p.ok=true) (N:Nat) {x:Bl} (hx:x.okB=true):(x.inl (inlR p N)).okB=true:=
 okB_iff.2 (inl_all (P:=fun s=>s.ok1=true) (Q:=fun t=>t.ok1=true) (fun s hs=>inl_ok1 _ s hs) (fun s _ _=>inlR_ok h N s.ref) x (okB_iff.1 hx))
theorem inl_len (f:Ref→Bl) (x:Bl):(∀ s∈x.subs,s.kind=8→s.blocks=[])→(x.inl f).subs.length=(x.subs.map fun s=>if s.kind=8 then 1+(f s.ref).subs.length else 1).sum:=
 Bl.ind (P:=fun s=>(∀ t∈s.subs,t.kind=8→t.blocks=[])→(s.inl f).subs.length=(s.subs.map fun s=>if s.kind=8 then 1+(f s.ref).subs.length else 1).sum)
  (Q:=fun b=>(∀ t∈b.subs,t.kind=8→t.blocks=[])→(b.inl f).subs.length=(b.subs.map fun s=>if s.kind=8 then 1+(f s.ref).subs.length else 1).sum)
  (fun kind mon name n e ad cap blocks pos ih hP=>by
   have hs:=hP _ (subs_self _)
   by_cases hk:kind=8
   ·subst hk
    have hb:blocks=[]:=hs rfl
    subst hb
    rw[St.inl_call,St.subs_mk,St.subs_mk]
    simp[St.kind,St.ref];omega
   ·rw[St.inl_other _ _ hk,St.subs_mk,St.subs_mk,List.flatMap_map,List.length_cons,List.map_cons,List.sum_cons,if_neg (show ¬ (St.mk kind mon name n e ad cap blocks pos).kind=8 from hk)]
    have hP2:∀ b∈blocks,∀ t∈b.subs,t.kind=8→t.blocks=[]:=fun b hb t ht=>hP t (by rw[St.subs_mk];exact List.mem_cons_of_mem _ (List.mem_flatMap.2 ⟨b,hb,ht⟩))
    have:(blocks.flatMap fun b=>(b.inl f).subs).length=((blocks.flatMap Bl.subs).map fun s=>if s.kind=8 then 1+(f s.ref).subs.length else 1).sum:=by
     clear hP hs
     induction blocks with
     | nil=>rfl
     | cons b l ihl=>rw[List.flatMap_cons,List.flatMap_cons,List.length_append,List.map_append,List.sum_append,ih b (by simp) (hP2 b (by simp)),ihl (fun x hx=>ih x (by simp[hx])) (fun x hx=>hP2 x (by simp[hx]))]
    omega)
  (fun ad cap body ih hP=>by
   rw[Bl.inl_mk,Bl.subs_mk,Bl.subs_mk,List.flatMap_map]
   have hP2:∀ b∈body,∀ t∈b.subs,t.kind=8→t.blocks=[]:=fun b hb t ht=>hP t (by rw[Bl.subs_mk];exact List.mem_flatMap.2 ⟨b,hb,ht⟩)
   clear hP
   induction body with
   | nil=>rfl
   | cons b l ihl=>rw[List.flatMap_cons,List.flatMap_cons,List.length_append,List.map_append,List.sum_append,ih b (by simp) (hP2 b (by simp)),ihl (fun x hx=>ih x (by simp[hx])) (fun x hx=>hP2 x (by simp[hx]))]) x
theorem call_blocks {s:St} (h:s.ok1=true) (hk:s.kind=8):s.blocks=[]:=by
 rcases s with ⟨kind,mon,name,n,e,ad,cap,blocks,pos⟩
 have hk:kind=8:=hk
 subst hk
 simp only[St.ok1,Bool.and_eq_true,decide_eq_true_eq] at h
 have h1:=h.2.2
 have h2:stMost (8:Int).toNat=0:=by kernel_rfl
 rw[h2] at h1
 exact List.eq_nil_of_length_eq_zero (Nat.le_zero.1 h1)
theorem le_sum {l:List Nat} {a:Nat} (h:a∈l):a≤l.sum:=by
 induction l with
 | nil=>cases h
 | cons b l ih =>
  rw[List.sum_cons]
  rcases List.mem_cons.1 h with rfl|h
  ·omega
  ·have:=ih h;omega
theorem inlR_len {p:Pr} {x:Bl} {R:List Ref} {Z:List (Ref × Nat)} (hok:p.ok=true) (hg:Good p x R Z) (N:Nat):∀ r∈R,rkOf R r<N→szGet Z r≤400→szGet Z r=1+(inlR p N r).subs.length:=by
 induction N with
 | zero=>intro r _ h;omega
 | succ N ih =>
  intro r hr hk hs
  have h1:=hg.size r hr
  have h2:tot Z (bodyOf p r)≤399:=by omega
  have h3:szGet Z r=1+tot Z (bodyOf p r):=by omega
  rw[h3]
  congr 1
  have hb:=okB_iff.1 (body_okB hok r)
  show tot Z (bodyOf p r)=((bodyOf p r).inl (inlR p N)).subs.length
  rw[inl_len _ _ (fun s hs hk=>call_blocks (hb s hs) hk)]
  unfold tot sumOf at h2 ⊢
  congr 1
  refine List.map_congr_left fun s hs=>?_
  unfold sown
  split
  ·rename_i hk8
   have hm:s.ref∈leadsOf p r:=(callsOf_mem _ _).2 ⟨s,hs,hk8,rfl⟩
   obtain⟨h4,h5⟩:=hg.leads r hr _ hm
   refine ih _ h4 (by omega) ?_
   have h6:sown Z s≤((bodyOf p r).subs.map (sown Z)).sum:=le_sum (List.mem_map.2 ⟨s,hs,rfl⟩)
   unfold sown at h6
   rw[if_pos hk8] at h6
   have h7:((bodyOf p r).subs.map (sown Z)).sum=((bodyOf p r).subs.map fun s=>if s.kind=8 then szGet Z s.ref else 1).sum:=rfl
   omega
  ·rfl
theorem inl_size {p:Pr} {x:Bl} {n:Nat} (hok:p.ok=true) (hx:x.okB=true) (h:cntOf p x=(n,0)):(x.inl (inlR p (reachedOf p (callsOf x)).length)).subs.length=n∧n≤400:=by
 obtain⟨Z,hg,ht,hn⟩:=good_of h
 refine⟨?_,hn⟩
 have hb:=okB_iff.1 hx
 rw[inl_len _ _ (fun s hs hk=>call_blocks (hb s hs) hk),← ht]
 unfold tot sumOf
 congr 1
 refine List.map_congr_left fun s hs=>?_
 unfold sown
 split
 ·rename_i hk8
  have hm:s.ref∈callsOf x:=(callsOf_mem _ _).2 ⟨s,hs,hk8,rfl⟩
  have h4:=hg.root _ hm
  refine (inlR_len hok hg _ _ h4 (rkOf_lt h4) ?_).symm
  have h6:sown Z s≤(x.subs.map (sown Z)).sum:=le_sum (List.mem_map.2 ⟨s,hs,rfl⟩)
  unfold sown at h6
  rw[if_pos hk8] at h6
  have h7:tot Z x=(x.subs.map fun s=>if s.kind=8 then szGet Z s.ref else 1).sum:=rfl
  omega
 ·rfl
open Go.RowKit
theorem len_le_sz (l:List St):l.length≤(l.map St.sz).sum:=by
  induction l with
  | nil=>simp
  | cons s l ih=>
    rw[List.length_cons,List.map_cons,List.sum_cons]
    have:1≤s.sz:=by unfold St.sz;omega
    omega
theorem body_le_subs (b:Bl):b.body.length≤b.subs.length:=by
  rcases b with ⟨a,c,body⟩
  rw[Bl.subs_mk]
  exact len_flat1 St.subs body (fun s _=>List.length_pos_of_mem (subs_self s))
theorem calls_le (b:Bl):(callsOf b).length≤b.subs.length:=by
  have:=callsA_len b.subs []
  simpa[callsOf] using this
theorem flat_le {α β γ:Type} (f:α→List β) (g:α→List γ) (l:List α) (h:∀ x∈l,(f x).length≤(g x).length):(l.flatMap f).length≤(l.flatMap g).length:=by
  induction l with
  | nil=>simp
  | cons x l ih =>
    rw[List.flatMap_cons,List.flatMap_cons,List.length_append,List.length_append]
    have h1:=h x (by simp)
    have h2:=ih (fun y hy=>h y (by simp[hy]))
    omega
theorem fine_small {p:Pr} (h:p.size≤400):Fine0 p:=by
  have h1:p.stmts.length≤400:=Nat.le_trans (len_le_sz _) h
  have h2:(p.mons.flatMap fun m=>m.meths.flatMap fun x=>x.body.subs).length≤400:=by
    have:p.stmts=(p.mons.flatMap fun m=>m.meths.flatMap fun x=>x.body.subs)++p.roles.flatMap fun r=>r.body.subs:=rfl
    rw[this,List.length_append] at h1;omega
  have h3:∀ m∈p.mons,∀ f∈m.meths,f.body.subs.length≤400:=fun m hm f hf=>by
    have a1:=len_flat (fun m:Mo=>m.meths.flatMap fun x=>x.body.subs) p.mons m hm
    have a2:=len_flat (fun x:Me=>x.body.subs) m.meths f hf
    omega
  have h4:(allRefs p).length≤400:=Nat.le_trans (flat_le _ _ p.mons fun m _=>flat_le _ _ m.meths fun f _=>calls_le f.body) h2
  refine⟨fun m hm f hf=>by have:=h3 m hm f hf;omega,fun m hm f hf=>by have:=h3 m hm f hf;have:=body_le_subs f.body;omega,by omega,fun r=>?_⟩
  unfold leadsOf bodyOf
  split
  · rename_i f hf
    obtain⟨m,hm,hfm⟩:=methIx_mem hf
    have:=h3 m hm f hfm;have:=calls_le f.body;omega
  · rw[callsOf,Bl.subs_mk];simp[callsA]
end Go.Proofs.YtbmbchdjjfmafaaGreatDoor
