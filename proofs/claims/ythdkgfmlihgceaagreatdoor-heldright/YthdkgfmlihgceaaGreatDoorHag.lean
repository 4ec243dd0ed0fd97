import Derived.Test.YthdkgfmlihgceaaGreatDoorHac
import Derived.Test.YthdkgfmlihgceaaGreatDoorHae
namespace Go.Proofs.YthdkgfmlihgceaaGreatDoor
set_option maxRecDepth 100000
set_option maxHeartbeats 4000000
open Go.RowKit Go.Shelf
attribute [local go_sem] Oper.semAt_some
abbrev StA (nz:Nat) (w:World):={ x:St // x.Is nz w }
def St.blocks:St->List Bl
 | .mk _ _ _ _ _ _ _ blocks _=>blocks
theorem qbb {α β:Type}(f:α->List β) (l:List α) (k:Nat):(l.take k).flatMap f <+: l.flatMap f:=by
 refine⟨(l.drop k).flatMap f,?_⟩
 rw[<- List.flatMap_append,List.take_append_drop]
theorem qdb {α β:Type}(f:α->List β) (l:List α) (k:Nat):((l.take k).flatMap f).length<=(l.flatMap f).length:=(qbb f l k).length_le
theorem ql4 (F:Fence) (hd:F.depth=none) (h120:F.fn 120) (hro:F.round=none) (l nz B N:Nat) (w:World) (hn₀:nz<=w.heap.size) (hBw:B<=w.heap.size) (J Jx:List (StA nz w)->World->Prop)
  (hJA:∀pre W o,J pre W->J pre (W.alloc o))
  (hY:∀m pre (x:StA nz w) W,J pre W->pre.length<N->YieldAt F m Tryz.prog l #[x.1.val] W λe W' =>
   (e=.returned (.bool true)/\J (pre++[x]) W'/\Kp nz B W W')\/(e=.returned (.bool false)/\Jx (pre++[x]) W')) (b:Bl) :
  ∀(n:Nat) (pre:List (StA nz w)) (W:World),b.Is nz w->Below nz w W->J pre W->pre.length+b.subs.length<=N ->
   CallsIn F n Tryz.prog 120 #[b.slice,.func (.yield l) #[] #[]] W λe W' =>
    (e=.returned (.bool true)/\∃q,q.map Subtype.val=b.subs/\J (pre++q) W'/\Kp nz B W W')\/(e=.returned (.bool false)/\∃q,q.map Subtype.val <+: b.subs/\Jx (pre++q) W'):=by
 refine Bl.ind (P:=λs=>∀b∈s.blocks,∀(n:Nat) (pre:List (StA nz w)) (W:World),b.Is nz w->Below nz w W->J pre W->pre.length+b.subs.length<=N ->
   CallsIn F n Tryz.prog 120 #[b.slice,.func (.yield l) #[] #[]] W λe W' =>
    (e=.returned (.bool true)/\∃q,q.map Subtype.val=b.subs/\J (pre++q) W'/\Kp nz B W W')\/(e=.returned (.bool false)/\∃q,q.map Subtype.val <+: b.subs/\Jx (pre++q) W'))
  (Q:=λb=>∀(n:Nat) (pre:List (StA nz w)) (W:World),b.Is nz w->Below nz w W->J pre W->pre.length+b.subs.length<=N ->
   CallsIn F n Tryz.prog 120 #[b.slice,.func (.yield l) #[] #[]] W λe W' =>
    (e=.returned (.bool true)/\∃q,q.map Subtype.val=b.subs/\J (pre++q) W'/\Kp nz B W W')\/(e=.returned (.bool false)/\∃q,q.map Subtype.val <+: b.subs/\Jx (pre++q) W')) ?_ ?_ b
 ·intro kind mon name n e ad cap blocks pos ih b hb
  exact ih b hb
 ·intro ad cap body ih n pre W hT hB hJ hN
  have hT':=hT.down
  have hdd:∀k:Nat,(F.depth.isSome=true->1<=k):=λk h=>by rw[hd] at h;cases h
  have hlW:=hB.size
  have hl1:=hT'.1.1;have hl2:=hT'.1.2.1
  unfold maxLen at hl2
  rw[Bl.subs_mk] at hN
  have HSU:=hid (Bl.subs_mk ad cap body)
  simp only[Bl.slice]
  refine callsIn_of_wp Tryz.func120 rfl h120 ?_ hro
  simp only[Tryz.ntmps120,List.size_toArray,List.length_cons,List.length_nil,Nat.reduceAdd,Nat.reduceSub,Array.replicate_succ,Array.replicate_zero,List.push_toArray,List.append_toArray,List.nil_append,List.cons_append]
  gi_wp2
  gi_loopw [11] (λi wr=>∃(j:Nat) (q:List (StA nz w)),j<=body.length/\i=.int .i64 j/\Hid (q.map Subtype.val=(body.take j).flatMap St.subs)/\J (pre++q) wr/\Kp nz B W wr)
   (λi _=>body.length-(intOf i).toNat)
  case atStart=>exact⟨0,[],by omega,rfl,by simp[Hid],by simpa using hJ,Kp.refl _ _ _⟩
  case round =>
   obtain⟨j,q,hj,rfl,HQ,hJj,hkj⟩:=hrel
   by_cases hlt:j<body.length
   ·rcases hT'.1.2.2 with h|⟨bb,off,rfl,hbn,hrow⟩
    ·subst h;simp at hlt
    have hB2:=hB.trans hkj.1
    have hr:=hrow.below hB2 hbn
    have hbr:bb<wr.heap.size:=by have:=hB2.size;omega
    have HSN:=hid (qa0 St.subs body j hlt)
    have hlen:q.length=((body.take j).flatMap St.subs).length:=by have:=congrArg List.length HQ.out;simpa using this
    have hcnt:=qdb St.subs body (j+1)
    rw[HSN.out,List.length_append] at hcnt
    have hih:=ih _ (List.getElem_mem hlt)
    clear ih
    rcases he:body[j] with ⟨kind,mon,name,k,⟨eop,emon,ename,en,ead,ecap,ekids,epos⟩,sad,scap,blocks,pos⟩
    obtain⟨c0,c1,c2,c3,c4,c5,c6,c7,c8,c9,c10,c11⟩:=qiz hr j hlt (by rw[he];rfl)
    have HE:=hid he
    have hI:(St.mk kind mon name k ⟨eop,emon,ename,en,ead,ecap,ekids,epos⟩ sad scap blocks pos).Is nz w:=he▸hT'.2 _ (List.getElem_mem hlt)
    have hsub:((St.mk kind mon name k ⟨eop,emon,ename,en,ead,ecap,ekids,epos⟩ sad scap blocks pos).subs).length=1+(blocks.flatMap Bl.subs).length:=by rw[St.subs_mk,List.length_cons];omega
    rw[he,hsub] at hcnt
    rw[he] at hih
    simp only[St.blocks] at hih
    have HSS:Hid ((body.take (j+1)).flatMap St.subs=(body.take j).flatMap St.subs++(St.mk kind mon name k ⟨eop,emon,ename,en,ead,ecap,ekids,epos⟩ sad scap blocks pos)::blocks.flatMap Bl.subs):=by
     show _=_
     rw[HSN.out,HE.out,St.subs_mk]
    clear he HSN
    have hy0:=hY (n-1) (pre++q) ⟨_,hI⟩ (wr.alloc (.cells (St.mk kind mon name k ⟨eop,emon,ename,en,ead,ecap,ekids,epos⟩ sad scap blocks pos).cells.toArray 86)) (hJA _ _ _ hJj) (by rw[List.length_append];omega)
    have hy0:=YieldAt.mono hy0 (R':=λe W'=>(e=.returned (.bool true)/\J (pre++q++[⟨_,hI⟩]) W'/\Kp nz B W W'/\W'.cell? ⟨wr.heap.size,10,none⟩=some (.slice sad blocks.length scap))\/(e=.returned (.bool false)/\Jx (pre++q++[⟨_,hI⟩]) W')) λe W' h=>h.elim
     (λ⟨he,hj,hk⟩=>.inl ⟨he,hj,hkj.t ((Kp.alloc (by have:=hB2.size;omega) _).t hk),by rw[cell_of (hk.2 _ _ _ _ (by have:=hB2.size;omega) (by decide) (World.alloc_heap_new wr _))];rfl⟩) .inr
    simp only[St.val,St.cells,Ex.cells,List.cons_append,List.nil_append] at hy0
    obtain⟨fn,tmps,assign,bdy,hy,hR⟩:=hy0
    clear hY
    have hID:=hI.down
    have hm1:=hID.2.2.1.1;have hm2:=hID.2.2.1.2.1
    unfold maxLen at hm2
    gi_wp2_with (first
     | ((try refine⟨hdd _,?_⟩);refine hR.mono ?_;clear hR;rintro e W1 (⟨rfl,hJ1,hk1,hc1⟩|⟨rfl,hx1⟩)))
    ·have hkW:=hk1.1.size
     gi_loopw [22] (λi wr2=>∃(j2:Nat) (q2:List (StA nz w)),j2<=blocks.length/\i=.int .i64 j2/\Hid (q2.map Subtype.val=(body.take j).flatMap St.subs++(St.mk kind mon name k ⟨eop,emon,ename,en,ead,ecap,ekids,epos⟩ sad scap blocks pos)::(blocks.take j2).flatMap Bl.subs)/\J (pre++q2) wr2/\Kp nz B W wr2)
      (λi _=>blocks.length-(intOf i).toNat)
     case atStart =>
      refine⟨0,q++[⟨_,hI⟩],by omega,rfl,?_,by rw[<- List.append_assoc];exact hJ1,hk1⟩
      show _=_
      rw[List.map_append,HQ.out];rfl
     case round =>
      obtain⟨j2,q2,hj2,rfl,HQ2,hJj2,hkj2⟩:=hrel
      by_cases hlt2:j2<blocks.length
      ·rcases hID.2.2.1.2.2 with h|⟨b3,off3,rfl,hbn3,hrow3⟩
       ·subst h;simp at hlt2
       have hB3:=hB.trans hkj2.1
       have hr3:=hrow3.below hB3 hbn3
       have hbr3:b3<wr.heap.size:=by have:=hB3.size;omega
       have HSN2:=hid (qa0 Bl.subs blocks j2 hlt2)
       have hlen2:q2.length=((body.take j).flatMap St.subs).length+(1+((blocks.take j2).flatMap Bl.subs).length):=by have:=congrArg List.length HQ2.out;simp at this;simp;omega
       have hcnt2:=qdb Bl.subs blocks (j2+1)
       rw[HSN2.out,List.length_append] at hcnt2
       have hq:=hih blocks[j2] (List.getElem_mem hlt2) (n-1) (pre++q2) wr (hID.2.2.2 _ (List.getElem_mem hlt2)) hB3 hJj2 (by rw[List.length_append];omega)
       have hq:=hq.mono (R':=λe W'=>(e=.returned (.bool true)/\(∃q3,Hid (q3.map Subtype.val=(body.take j).flatMap St.subs++(St.mk kind mon name k ⟨eop,emon,ename,en,ead,ecap,ekids,epos⟩ (some ⟨b3,off3,none⟩) scap blocks pos)::(blocks.take (j2+1)).flatMap Bl.subs)/\J (pre++q3) W'/\Kp nz B W W'))\/(e=.returned (.bool false)/\∃q3,q3.map Subtype.val <+: (Bl.mk (some ⟨bb,off,none⟩) cap body).subs/\Jx (pre++q3) W')) (by
        rintro e W' (⟨rfl,q3,hq3,hJ3,hk3⟩|⟨rfl,q3,hq3,hx3⟩)
        ·refine .inl ⟨rfl,q2++q3,?_,by rw[<- List.append_assoc];exact hJ3,hkj2.t hk3⟩
         show _=_
         rw[List.map_append,HQ2.out,hq3,HSN2.out,List.append_assoc,List.cons_append]
        ·refine .inr ⟨rfl,q2++q3,?_,by rw[<- List.append_assoc];exact hx3⟩
         rw[List.map_append,HQ2.out,HSU.out]
         refine List.IsPrefix.trans (List.prefix_append_right_inj _ |>.2 hq3) ?_
         rw[List.append_assoc,List.cons_append,<- HSN2.out]
         refine List.IsPrefix.trans ?_ (qbb St.subs body (j+1))
         rw[HSS.out]
         exact List.prefix_append_right_inj _ |>.2 (List.prefix_cons_inj _ |>.2 (qbb Bl.subs blocks (j2+1))))
       rcases he2:blocks[j2] with ⟨bad,bcap,bbody⟩
       have d0:=qru hr3 j2 hlt2 (by rw[he2];rfl)
       simp only[he2,Bl.slice] at hq d0
       have HF:=hid he2
       clear he2
       gi_wp2_with ((try refine⟨hdd _,?_⟩);gi_at_call 120;refine hq.mono ?_;clear hq;rintro e W2 (⟨rfl,q3,hq3,hJ3,hk3⟩|⟨rfl,q3,hq3,hx3⟩))
       ·go_roundw
        case rel=>exact⟨j2+1,q3,by omega,by go_num,hq3,hJ3,hk3⟩
        case measure=>simp[intOf];omega
       ·go_ret
        exact .inr ⟨rfl,q3,hq3,hx3⟩
      ·have hj2':j2=blocks.length:=by omega
       gi_wp2
       go_roundw
       case rel =>
        refine⟨j+1,q2,by omega,by go_num,?_,hJj2,hkj2⟩
        show _=_
        rw[HQ2.out,HSS.out,hj2',List.take_length]
       case measure=>simp[intOf];omega
    ·go_ret
     refine .inr ⟨rfl,q++[⟨_,hI⟩],?_,by rw[<- List.append_assoc];exact hx1⟩
     rw[List.map_append,HQ.out,HSU.out]
     refine List.IsPrefix.trans ?_ (qbb St.subs body (j+1))
     rw[HSS.out]
     exact List.prefix_append_right_inj _ |>.2 (by simp)
   ·have hj':j=body.length:=by omega
    gi_wp2
    go_ret
    refine .inl ⟨rfl,q,?_,hJj,hkj⟩
    rw[HQ.out,HSU.out,hj',List.take_length]
open Go.RowKit Go.Shelf
attribute [local go_sem] Oper.semAt_some
def PrBox (W:World) (b:Nat) (p:Pr):Prop:=W.heap[b]?=some (.cells #[.slice p.mad p.mons.length p.mcap,.slice p.rad p.roles.length p.rcap] 25 (0,0))
theorem PrBox.lt {W:World}{b:Nat}{p:Pr}(h:PrBox W b p):b<W.heap.size:=(Array.getElem?_eq_some_iff.1 h).1
theorem PrBox.below {W W':World}{b n:Nat}{p:Pr}(h:PrBox W b p) (hb:Below n W W') (hlt:b<n):PrBox W' b p:=(hb.block b hlt).trans h
def qbu (m:Mo):List St:=m.meths.flatMap λx=>x.body.subs
theorem qi0 (F:Fence) (hd:F.depth=none) (n:Nat) (h119:F.fn 119) (h120:F.fn 120) (hro:F.round=none) (l Bt nz B:Nat) (w:World) (hn₀:nz<=w.heap.size) (hBw:B<=w.heap.size) (hBt0:B<=Bt) (p:Pr) (hT:p.Is nz w) (J Jx:List (StA nz w)->World->Prop)
  (hJA:∀pre W o,J pre W->J pre (W.alloc o))
  (hY:∀pre (x:StA nz w) W,J pre W->pre.length<p.stmts.length->YieldAt F (n-1) Tryz.prog l #[x.1.val] W λe W' =>
   (e=.returned (.bool true)/\J (pre++[x]) W'/\Kp nz B W W')\/(e=.returned (.bool false)/\Jx (pre++[x]) W'))
  (W:World) (hW:Below nz w W) (hBt:PrBox W Bt p) (h0:J [] W) :
  CallsIn F n Tryz.prog 119 #[.func (.yield l) #[] #[],.pointer (some ⟨Bt,0,none⟩)] W λe W'=>(∃v,e=.returned v) /\
   ((∃ys:List (StA nz w),ys.map Subtype.val=p.stmts/\J ys W')\/(∃pre:List (StA nz w),pre.map Subtype.val <+: p.stmts/\Jx pre W')):=by
 have hdd:∀k:Nat,(F.depth.isSome=true->1<=k):=λk h=>by rw[hd] at h;cases h
 have hp:=ql4 F hd h120 hro l nz B p.stmts.length w hn₀ hBw J Jx hJA (λm pre x W hj hl=>qeh hd m (hY pre x W hj hl))
 clear hY
 rcases p with ⟨mad,mcap,mons,rad,rcap,roles⟩
 have HST:Hid (Pr.stmts ⟨mad,mcap,mons,rad,rcap,roles⟩=mons.flatMap qbu++roles.flatMap λr=>r.body.subs):=rfl
 have hlW:=hW.size
 have b0:=cell_of hBt 0
 have b1:=cell_of hBt 1
 simp at b0 b1
 have hl1:=hT.1.1.1;have hl2:=hT.1.1.2.1;have hl3:=hT.2.1.1;have hl4:=hT.2.1.2.1
 unfold maxLen at hl2 hl4
 simp only at hl1 hl2 hl3 hl4
 refine callsIn_of_wp Tryz.func119 rfl h119 ?_ hro
 simp only[Tryz.ntmps119,List.size_toArray,List.length_cons,List.length_nil,Nat.reduceAdd,Nat.reduceSub,Array.replicate_succ,Array.replicate_zero,List.push_toArray,List.append_toArray,List.nil_append,List.cons_append]
 gi_wp2
 gi_loopw [12] (λi wr=>∃(j:Nat) (q:List (StA nz w)),j<=mons.length/\i=.int .i64 j/\Hid (q.map Subtype.val=(mons.take j).flatMap qbu)/\J q wr/\Kp nz B W wr)
  (λi _=>mons.length-(intOf i).toNat)
 case atStart=>exact⟨0,[],by omega,rfl,by simp[Hid],h0,Kp.refl _ _ _⟩
 case round =>
  obtain⟨j,q,hj,rfl,HQ,hJj,hkj⟩:=hrel
  have hkz:=hkj.1.size
  by_cases hlt:j<mons.length
  ·rcases hT.1.1.2.2 with h|⟨bb,off,rfl,hbn,hrow⟩
   ·simp only at h;subst h;simp at hlt
   simp only at hrow
   have hB2:=hW.trans hkj.1
   have hr:=hrow.below hB2 hbn
   have hbr:bb<wr.heap.size:=by omega
   have HSN:=hid (qa0 qbu mons j hlt)
   have hlen:q.length=((mons.take j).flatMap qbu).length:=by have:=congrArg List.length HQ.out;simpa using this
   have hcnt:=qdb qbu mons (j+1)
   rw[HSN.out,List.length_append] at hcnt
   have hI:(mons[j]).Is nz w:=hT.1.2 _ (List.getElem_mem hlt)
   have HST2:=hid (congrArg List.length HST.out)
   rw[List.length_append] at HST2
   rcases he:mons[j] with ⟨name,vad,vcap,vars,xad,xcap,meths,pos⟩
   rw[he] at hI hcnt
   obtain⟨c0,c1,c2,c3⟩:=qra hr j hlt (by rw[he];rfl)
   have HSS:Hid ((mons.take (j+1)).flatMap qbu=(mons.take j).flatMap qbu++meths.flatMap λx=>x.body.subs):=by
    show _=_
    rw[HSN.out,he];rfl
   have bd':((mons.take j).flatMap qbu).length+(meths.flatMap λx=>x.body.subs).length<=(mons.flatMap qbu).length:=hcnt
   clear he HSN hcnt
   have hm1:=hI.2.2.1.1;have hm2:=hI.2.2.1.2.1
   unfold maxLen at hm2
   simp only at hm1 hm2
   gi_wp2
   gi_loopw [19] (λi wr2=>∃(j2:Nat) (q2:List (StA nz w)),j2<=meths.length/\i=.int .i64 j2/\Hid (q2.map Subtype.val=(mons.take j).flatMap qbu++(meths.take j2).flatMap λx=>x.body.subs)/\J q2 wr2/\Kp nz B W wr2)
    (λi _=>meths.length-(intOf i).toNat)
   case atStart=>exact⟨0,q,by omega,rfl,by show _=_;rw[HQ.out];simp,hJA _ _ _ hJj,hkj.t (Kp.alloc (by omega) _)⟩
   case round =>
    obtain⟨j2,q2,hj2,rfl,HQ2,hJj2,hkj2⟩:=hrel
    have hkz2:=hkj2.1.size
    by_cases hlt2:j2<meths.length
    ·rcases hI.2.2.1.2.2 with h|⟨b3,off3,rfl,hbn3,hrow3⟩
     ·simp only at h;subst h;simp at hlt2
     simp only at hrow3
     have hB3:=hW.trans hkj2.1
     have hr3:=hrow3.below hB3 hbn3
     have hbr3:b3<wr.heap.size:=by omega
     have HSN2:=hid (qa0 (λx:Me=>x.body.subs) meths j2 hlt2)
     have hlen2:q2.length=((mons.take j).flatMap qbu).length+((meths.take j2).flatMap λx=>x.body.subs).length:=by have:=congrArg List.length HQ2.out;rw[List.length_map,List.length_append] at this;exact this
     have hcnt2:=qdb (λx:Me=>x.body.subs) meths (j2+1)
     rw[HSN2.out,List.length_append] at hcnt2
     have hq:=hp (meths[j2]).body (n-1) q2 (wr.alloc (.cells (meths[j2]).cells.toArray 56)) (hI.2.2.2 _ (List.getElem_mem hlt2)).2.2 (hB3.al hn₀ _) (hJA _ _ _ hJj2) (by have:=HST2.out;omega)
     have hq:=hq.mono (R':=λe W'=>(e=.returned (.bool true)/\(∃q3,Hid (q3.map Subtype.val=(mons.take j).flatMap qbu++(meths.take (j2+1)).flatMap λx=>x.body.subs)/\J q3 W'/\Kp nz B W W'))\/(e=.returned (.bool false)/\∃q3,q3.map Subtype.val <+: (Pr.stmts ⟨some ⟨bb,off,none⟩,mcap,mons,rad,rcap,roles⟩)/\Jx q3 W')) (by
      rintro e W' (⟨rfl,q3,hq3,hJ3,hk3⟩|⟨rfl,q3,hq3,hx3⟩)
      ·refine .inl ⟨rfl,q2++q3,?_,hJ3,hkj2.t ((Kp.alloc (by omega) _).t hk3)⟩
       show _=_
       rw[List.map_append,HQ2.out,hq3,HSN2.out,List.append_assoc]
      ·refine .inr ⟨rfl,q2++q3,?_,hx3⟩
       rw[List.map_append,HQ2.out,HST.out]
       refine List.IsPrefix.trans (List.prefix_append_right_inj _ |>.2 hq3) ?_
       rw[List.append_assoc,<- HSN2.out]
       refine List.IsPrefix.trans ?_ (List.prefix_append _ _)
       refine List.IsPrefix.trans ?_ (qbb qbu mons (j+1))
       rw[HSS.out]
       exact List.prefix_append_right_inj _ |>.2 (qbb _ meths (j2+1)))
     rcases he2:meths[j2] with ⟨mname,⟨bad,bcap,bbody⟩,mpos⟩
     obtain⟨d0,d1,d2⟩:=qun hr3 j2 hlt2 (by rw[he2];rfl)
     simp only[he2,Bl.slice,Me.cells] at hq d1
     have HF:=hid he2
     clear he2
     gi_wp2_with ((try refine⟨hdd _,?_⟩);gi_at_call 120;refine hq.mono ?_;clear hq;rintro e W2 (⟨rfl,q3,hq3,hJ3,hk3⟩|⟨rfl,q3,hq3,hx3⟩))
     ·go_roundw
      case rel=>exact⟨j2+1,q3,by omega,by go_num,hq3,hJ3,hk3⟩
      case measure=>simp[intOf];omega
     ·refine bodyPost_ret (results_none rfl _ _ _) rfl ?_
      exact⟨⟨_,rfl⟩,.inr ⟨q3,hq3,hx3⟩⟩
    ·have hj2':j2=meths.length:=by omega
     gi_wp2
     go_roundw
     case rel =>
      refine⟨j+1,q2,by omega,by go_num,?_,hJj2,hkj2⟩
      show _=_
      rw[HQ2.out,HSS.out,hj2',List.take_length]
     case measure=>simp[intOf];omega
  ·have hj':j=mons.length:=by omega
   have bq1:=cell_of (hkj.2 _ _ _ _ hBt0 (by decide) hBt) 1
   simp at bq1
   have hqm:Hid (q.map Subtype.val=mons.flatMap qbu):=by
    show _=_
    rw[HQ.out,hj',List.take_length]
   clear hj'
   gi_wp2
   gi_loopw [33] (λi wr2=>∃(j2:Nat) (q2:List (StA nz w)),j2<=roles.length/\i=.int .i64 j2/\Hid (q2.map Subtype.val=mons.flatMap qbu++(roles.take j2).flatMap λx=>x.body.subs)/\J q2 wr2/\Kp nz B W wr2)
    (λi _=>roles.length-(intOf i).toNat)
   case atStart=>exact⟨0,q,by omega,rfl,by show _=_;rw[hqm.out];simp,hJj,hkj⟩
   case round =>
    obtain⟨j2,q2,hj2,rfl,HQ2,hJj2,hkj2⟩:=hrel
    have hkz2:=hkj2.1.size
    by_cases hlt2:j2<roles.length
    ·rcases hT.2.1.2.2 with h|⟨b3,off3,rfl,hbn3,hrow3⟩
     ·simp only at h;subst h;simp at hlt2
     simp only at hrow3
     have hB3:=hW.trans hkj2.1
     have hr3:=hrow3.below hB3 hbn3
     have hbr3:b3<wr.heap.size:=by omega
     have HSN2:=hid (qa0 (λx:Ro=>x.body.subs) roles j2 hlt2)
     have hlen2:q2.length=(mons.flatMap qbu).length+((roles.take j2).flatMap λx=>x.body.subs).length:=by have:=congrArg List.length HQ2.out;rw[List.length_map,List.length_append] at this;exact this
     have hcnt2:=qdb (λx:Ro=>x.body.subs) roles (j2+1)
     rw[HSN2.out,List.length_append] at hcnt2
     have HST2:=hid (congrArg List.length HST.out)
     rw[List.length_append] at HST2
     have hq:=hp (roles[j2]).body (n-1) q2 (wr.alloc (.cells (roles[j2]).cells.toArray 59)) (hT.2.2 _ (List.getElem_mem hlt2)).2.2.2 (hB3.al hn₀ _) (hJA _ _ _ hJj2) (by have:=HST2.out;omega)
     have hq:=hq.mono (R':=λe W'=>(e=.returned (.bool true)/\(∃q3,Hid (q3.map Subtype.val=mons.flatMap qbu++(roles.take (j2+1)).flatMap λx=>x.body.subs)/\J q3 W'/\Kp nz B W W'))\/(e=.returned (.bool false)/\∃q3,q3.map Subtype.val <+: (Pr.stmts ⟨mad,mcap,mons,some ⟨b3,off3,none⟩,rcap,roles⟩)/\Jx q3 W')) (by
      rintro e W' (⟨rfl,q3,hq3,hJ3,hk3⟩|⟨rfl,q3,hq3,hx3⟩)
      ·refine .inl ⟨rfl,q2++q3,?_,hJ3,hkj2.t ((Kp.alloc (by omega) _).t hk3)⟩
       show _=_
       rw[List.map_append,HQ2.out,hq3,HSN2.out,List.append_assoc]
      ·refine .inr ⟨rfl,q2++q3,?_,hx3⟩
       rw[List.map_append,HQ2.out,HST.out]
       refine List.IsPrefix.trans (List.prefix_append_right_inj _ |>.2 hq3) ?_
       rw[List.append_assoc,<- HSN2.out]
       exact List.prefix_append_right_inj _ |>.2 (qbb _ roles (j2+1)))
     rcases he2:roles[j2] with ⟨mname,mstar,mcount,⟨bad,bcap,bbody⟩,mpos⟩
     obtain⟨d0,d1,d2,d3,d4⟩:=qup hr3 j2 hlt2 (by rw[he2];rfl)
     simp only[he2,Bl.slice,Ro.cells] at hq d3
     have HF:=hid he2
     clear he2
     gi_wp2_with ((try refine⟨hdd _,?_⟩);gi_at_call 120;refine hq.mono ?_;clear hq;rintro e W2 (⟨rfl,q3,hq3,hJ3,hk3⟩|⟨rfl,q3,hq3,hx3⟩))
     ·go_roundw
      case rel=>exact⟨j2+1,q3,by omega,by go_num,hq3,hJ3,hk3⟩
      case measure=>simp[intOf];omega
     ·refine bodyPost_ret (results_none rfl _ _ _) rfl ?_
      exact⟨⟨_,rfl⟩,.inr ⟨q3,hq3,hx3⟩⟩
    ·have hj2':j2=roles.length:=by omega
     gi_wp2
     go_end0
     refine⟨⟨_,rfl⟩,.inl ⟨q2,?_,hJj2⟩⟩
     rw[HQ2.out,HST.out,hj2',List.take_length]
theorem qkn (F:Fence) (n:Nat) (h96:F.fn 96) (hro:F.round=none) (p:Pr) (w:World) :
  CallsIn F n Tryz.prog 96 #[p.val] w λe w'=>e=.returned (.func (.func 119) #[] #[.pointer (some ⟨w.heap.size,0,none⟩)])/\w'=w.alloc (.cells #[.slice p.mad p.mons.length p.mcap,.slice p.rad p.roles.length p.rcap] 25):=by
 simp only[Pr.val]
 refine callsIn_of_wp Tryz.func96 rfl h96 ?_ hro
 simp only[Tryz.ntmps96,List.size_toArray,List.length_cons,List.length_nil,Nat.reduceAdd,Nat.reduceSub,Array.replicate_succ,Array.replicate_zero,List.push_toArray,List.append_toArray,List.nil_append,List.cons_append]
 gi_wp2
 go_ret
 exact⟨rfl,rfl⟩
theorem qg1 (F:Fence) (hd:F.depth=none) (n:Nat) (h119:F.fn 119) (h120:F.fn 120) (hro:F.round=none) (Bt nz B:Nat) (w:World) (hn₀:nz<=w.heap.size) (hBw:B<=w.heap.size) (hBt0:B<=Bt) (p:Pr) (hT:p.Is nz w) (hBt:PrBox w Bt p) :
  SeqStopsK F n Tryz.prog 119 #[.pointer (some ⟨Bt,0,none⟩)] (λx:StA nz w=>#[x.1.val]) (Kp nz B) (λys=>ys.map Subtype.val=p.stmts) (λpre=>pre.map Subtype.val <+: p.stmts) p.stmts.length w:=λl J Jx W hW hJ _ hY h0 =>
 qi0 F hd n h119 h120 hro l Bt nz B w hn₀ hBw hBt0 p hT J Jx (λpre W' o hj=>hJ pre W' _ none hj (World.grownBy_alloc W' o none) (λr e=>by cases e)) hY W (hW.mono hn₀) (hBt.below hW hBt.lt) h0
