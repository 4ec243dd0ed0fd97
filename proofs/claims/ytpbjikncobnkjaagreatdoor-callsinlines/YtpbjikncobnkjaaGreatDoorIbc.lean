/-
  Own texts joined by program: ClZ.
-/
import Derived.Test.YtpbjikncobnkjaaGreatDoorIba
import Derived.Test.YtpbjikncobnkjaaGreatDoorIbb
namespace Go.Proofs.YtpbjikncobnkjaaGreatDoor
open Go.RowKit
theorem addR_len (S:List Ref) (r:Ref):(addR S r).length≤S.length+1:=by
 unfold addR
 split <;> simp
theorem addN_len (m:List Ref):∀ S:List Ref,(addN S m).length≤S.length+m.length:=by
 induction m with
 | nil=>intro S;exact Nat.le_refl _
 | cons r m ih =>
  intro S
  have h1:=ih (addR S r)
  have h2:=addR_len S r
  show (addN (addR S r) m).length≤_
  simp only[List.length_cons]
  omega
theorem addR_has2 {S:List Ref} {r:Ref} (h:hasR S r=true):addR S r=S:=by rw[addR,if_pos (of_decide_eq_true h)]
theorem addR_new {S:List Ref} {r:Ref} (h:hasR S r=false):addR S r=S++[r]:=by rw[addR,if_neg (of_decide_eq_false h)]
theorem addN_take (S m:List Ref) (j:Nat) (h:j<m.length):addN S (m.take (j+1))=addR (addN S (m.take j)) m[j]:=by
 rw[List.take_succ_eq_append_getElem h,addN_snoc]
structure RO (w wr:World) (v:Value) (S:List Ref):Prop where
 own:wr.ownsRow w.heap.size 70 2 v S.length (S.flatMap rcells)
 vl:∀ r∈S,VLen r
 bel:Below w.heap.size w wr
theorem RO.below {w wr w5:World} {v:Value} {S:List Ref} (h:RO w wr v S) (hb:Below wr.heap.size wr w5):RO w w5 v S:=⟨ownsRow_below h.own hb,h.vl,h.bel.tr le_rfl' hb⟩
def Off (m v:Value):Prop:=m.ownBlock=none∨m.ownBlock≠v.ownBlock
theorem Off.of {w:World} {b1 b2 e1 e2 s1 s2 n1 n2:Nat} {m v:Value} {xs ys:List Value} {w1:World} (hv:w1.ownsRow b1 e1 s1 v n1 xs) (hB:w1.heap.size≤b2) (hm:w.ownsRow b2 e2 s2 m n2 ys):Off m v:=by
 by_cases h:m.ownBlock=none
 ·exact .inl h
 ·right
  intro he
  obtain⟨k,hk⟩:=Option.ne_none_iff_exists'.1 h
  have h1:=own_lt hm hk
  have h2:=own_lt hv (he▸hk)
  omega
theorem app_ref {w:World} {ops:Array Go.Oper} {rest:List Go.Oper} {o:Go.Oper} {a:Act} {Q:Exit→Act→World→Prop} (hgd:o.guard=none) (s x:Operand)
  (ho:o.op=.call { callee:=.builtin .append,args:=#[s,x],argTypes:=#[45,45] }) (w0:World) (S:List Ref) (v:Value) (r:Ref) (hs:a.eval s=v) (hO:RO w0 w v S) (hr:VLen r)
  (b:Nat) (hx:a.eval x=.slice (some ⟨b,0,none⟩) 1 1) (hb:w.heap[b]?=some (.cells #[.string r.1,.string r.2] 70 (0,0))) (hl:S.length≤1000000)
  (h:∀ v' w',RO w0 w' v' (S++[r])→w.grownBy w' v.ownBlock→(∀ (m:Value) (b2 n2:Nat) (ys:List Value),Off m v→w.ownsRow b2 70 2 m n2 ys→w'.ownsRow b2 70 2 m n2 ys∧Off m v')→wpList Tryz.prog ops Q rest (a.put o.dst v') w'):wpList Tryz.prog ops Q (o::rest) a w:=by
 obtain⟨i0,hi0,iz0,iz1,iz2⟩:=info_parts infoRef
 refine wpList_append_far hgd s x 45 ho w0.heap.size 70 i0 _ 2 32 Tryz.underlying45 hi0 iz0 iz1 iz2 rfl (by decide) v S.length (S.flatMap rcells) hs hO.own ⟨b,0,none⟩ 1 1 (rcells r) hx rfl (fun j u hj=>?_) (rcells_one r) (by omega) (by unfold maxLen;omega) (by omega) hO.bel.size (fun g cap w' h1 h2 h3=>h _ w' ⟨?_,?_,owns_grown_below hO.bel hO.own h2 hO.bel.size⟩ h2 (fun m b2 n2 ys h4 h5=>⟨h5.kept h2 h4,?_⟩))
 ·rw[Addr.add_lit,cellOf hb]
  rcases j with _|_|j
  ·simpa[rcells] using hj
  ·simpa[rcells] using hj
  ·simp[rcells] at hj
 ·rw[List.flatMap_append,List.length_append]
  simpa using h1
 ·intro r' hr'
  rcases List.mem_append.1 hr' with h'|h'
  ·exact hO.vl r' h'
  ·rw[List.mem_singleton.1 h'];exact hr
 ·by_cases hm:m.ownBlock=none
  ·exact .inl hm
  ·rcases h3 with h3|⟨rfl,-⟩
   ·rcases h4 with h4|h4
    ·exact .inl h4
    ·right;rw[h3] at h4;exact h4
   ·right
    intro he
    exact absurd (own_lt h5 he).2 (Nat.lt_irrefl _)
def RCal (x:Bl):Prop:=∀ (n₀:Nat) (w:World),n₀≤w.heap.size→x.Is n₀ w→x.subs.length≤1000000→Calls Tryz.prog 17 #[x.slice] w fun r w'=>CallsBack (callsOf x) w w' r
set_option maxRecDepth 100000 in
set_option maxHeartbeats 16000000 in
theorem rcal_step (ad:Option Addr) (cap:Nat) (body:List St) (ih:∀ s∈body,∀ x∈s.blocks,RCal x):RCal (.mk ad cap body):=by
 intro n₀ w hn hI hlen
 have HS:Hid (callsOf (.mk ad cap body)=callsA [] (body.flatMap St.subs)):=by show callsA [] _=_;rw[Bl.subs_mk]
 rw[Bl.subs_mk] at hlen
 have hIk:=hI.down.2
 have hsl:=hI.down.1
 have hl1:=hsl.1;have hl2:=hsl.2.1
 unfold maxLen at hl2
 obtain⟨R,hR⟩:∃ R,callsOf (.mk ad cap body)=R:=⟨_,rfl⟩
 rw[hR] at HS ⊢
 clear hR
 simp only[Bl.slice]
 go_enter Tryz.func17,Tryz.ntmps17
 go_wp2
 go_loopw [3,4] (fun v i wr=>∃ j:Nat,j≤body.length∧i=.int .i64 j∧RO w wr v (callsA [] ((body.take j).flatMap St.subs)))
  (fun _ i _=>body.length-(intOf i).toNat)
 case atStart=>exact⟨0,by omega,rfl,⟨World.ownsRow_nil _ _ _ _,fun r hr=>by simp[callsA] at hr,Below.refl _ _⟩⟩
 case round =>
  obtain⟨j,hj,rfl,hO⟩:=hrel
  have hz1:=hO.bel.size
  have hb0:Below n₀ w wr:=hO.bel.mono hn
  by_cases hlt:j<body.length
  ·rcases hsl.2.2 with h|⟨kb,koff,rfl,hbn,hrow⟩
   ·subst h;simp at hlt
   have HC:=hid (callsA_body [] body j hlt)
   have hIj:=hIk _ (List.getElem_mem hlt)
   have ihj:=ih _ (List.getElem_mem hlt)
   have hvl:=vlen_ref hIj
   have hrj:=hrow.below hb0 hbn
   have hkw0:kb<wr.heap.size:=by omega
   have HLN:Hid ((callsA [] ((body.take j).flatMap St.subs)).length+body[j].subs.length≤1000000):=by
    have h1:=callsA_len ((body.take j).flatMap St.subs) []
    have h2:((body.take (j+1)).flatMap St.subs).length≤(body.flatMap St.subs).length:=by
     conv=>rhs;rw[← List.take_append_drop (j+1) body,List.flatMap_append,List.length_append]
     omega
    rw[flatMap_snoc St.subs body j hlt,List.length_append] at h2
    simp only[List.length_nil] at h1
    show _≤_
    omega
   obtain⟨S1,hS1⟩:∃ S1,callsA [] ((body.take j).flatMap St.subs)=S1:=⟨_,rfl⟩
   rw[hS1] at hO HC HLN
   rcases he':body[j] with ⟨kind',mon',name',n',⟨eop',emon',ename',en',ead',ecap',ekids',epos'⟩,ad',cap',blocks',pos'⟩
   obtain⟨c0,c1,c2,c3,c4,c5,c6,c7,c8,c9,c10,c11⟩:=row12 hrj j hlt (by rw[he'];rfl)
   have HC10:Hid (∀ W,Below n₀ w W→W.cell? ⟨kb,koff+j*12+10,none⟩=some (.slice ad' blocks'.length cap')):=fun W hW=>(row12 (hrow.below hW hbn) j hlt (by rw[he'];rfl)).2.2.2.2.2.2.2.2.2.2.1
   rw[he'] at hIj ihj HC hvl HLN
   rw[callsA_st] at HC
   simp only[St.ref] at hvl
   clear he' ih hS1
   have hsB:=hIj.down.2.2.1
   have hIB:=hIj.down.2.2.2
   have hbl1:=hsB.1;have hbl2:=hsB.2.1
   unfold maxLen at hbl2
   simp only[St.blocks] at ihj
   have HLN2:Hid (∀ k≤blocks'.length,(callsA (cstep S1 (St.mk kind' mon' name' n' (Ex.mk eop' emon' ename' en' ead' ecap' ekids' epos') ad' cap' blocks' pos')) ((blocks'.take k).flatMap Bl.subs)).length+((blocks'.drop k).flatMap Bl.subs).length≤1000000):=by
    intro k hk
    have h1:=callsA_len ((blocks'.take k).flatMap Bl.subs) (cstep S1 (St.mk kind' mon' name' n' (Ex.mk eop' emon' ename' en' ead' ecap' ekids' epos') ad' cap' blocks' pos'))
    have h2:(cstep S1 (St.mk kind' mon' name' n' (Ex.mk eop' emon' ename' en' ead' ecap' ekids' epos') ad' cap' blocks' pos')).length≤S1.length+1:=by unfold cstep;split <;> simp
    have h3:=HLN.out
    rw[St.subs_mk,List.length_cons] at h3
    have h4:(blocks'.flatMap Bl.subs).length=((blocks'.take k).flatMap Bl.subs).length+((blocks'.drop k).flatMap Bl.subs).length:=by
     conv=>lhs;rw[← List.take_append_drop k blocks',List.flatMap_append,List.length_append]
    omega
   have HS1L:Hid (S1.length≤1000000):=by show _≤_;have:=HLN.out;omega
   by_cases hk8:kind'=8
   ·subst hk8
    have hcs:=cstep_addR S1 (St.mk 8 mon' name' n' (Ex.mk eop' emon' ename' en' ead' ecap' ekids' epos') ad' cap' blocks' pos') rfl
    rw[hcs] at HC HLN2
    simp only[St.ref] at HC HLN2
    clear hcs HLN
    obtain⟨oad,ocap,rfl,hos⟩:=slOwn rcells_len hO.own
    have hol:=hos.1
    have hh:=fun (W:World) (hW:Below wr.heap.size wr W)=>hasRef_any S1 oad ocap wr.heap.size mon' name' W hW.size (hos.below hW) hvl hO.vl
    go_upto_region 6 with fail
    go_region
    obtain⟨bR,hBR,hzR⟩:=one_box wr #[.string mon',.string name'] 70
    have hB1:Below wr.heap.size wr (wr.alloc (.cells #[.string mon',.string name'] 70)).drew:=⟨hBR.os,hBR.tape,hBR.output,hBR.size,hBR.block⟩
    have bR1:(wr.alloc (.cells #[.string mon',.string name'] 70)).drew.heap[wr.heap.size]?=some (.cells #[.string mon',.string name'] 70 (0,0)):=bR
    have HZ1:Hid ((wr.alloc (.cells #[.string mon',.string name'] 70)).drew.heap.size=wr.heap.size+1):=hzR
    clear bR hBR hzR
    obtain⟨W1,hW1⟩:∃ W1,(wr.alloc (.cells #[.string mon',.string name'] 70)).drew=W1:=⟨_,rfl⟩
    rw[hW1] at hB1 bR1 HZ1 ⊢
    clear hW1
    have hh:=hh W1 hB1
    have y0:=cellOf bR1 0
    have y1:=cellOf bR1 1
    simp at y0 y1
    have hww:wr.heap.size<W1.heap.size:=by have:=HZ1.out;omega
    clear c0 c1 c2 c3 c4 c5 c6 c7 c8 c9 c10 c11
    cases hhas:hasR S1 (mon',name')
    ·rw[hhas] at hh
     rw[addR_new hhas] at HC HLN2
     obtain⟨S2,hS2⟩:∃ S2,S1++[(mon',name')]=S2:=⟨_,rfl⟩
     rw[hS2] at HC HLN2
     clear hhas
     go_wp2_with (first
      | (go_at_call 37;(with_reducible refine hh.mono ?_);rintro r w5 ⟨rfl,bb5⟩;have bR5:=(bb5.block wr.heap.size hww).trans bR1;have y0:=cellOf bR5 0;have y1:=cellOf bR5 1;simp at y0 y1;have hww5:wr.heap.size<w5.heap.size:=by have:=bb5.size;omega)
      | (at_builtin;refine app_ref rfl _ _ rfl w S1 _ (mon',name') rfl ((hO.below (hB1.tr le_rfl' bb5)).below ((Below.refl _ _).al le_rfl' _)) hvl w5.heap.size rfl (heapNew w5 _) HS1L.out ?_;intro v7 w7 hO7 hg7 hk7))
     rw[hS2] at hO7
     have hO3:=hO7
     clear hO7 hg7 hk7 bR5 y0 y1 hww5 bR1 hS2 hO hos hww HZ1 hh
     go_loopw [3,6] (fun v i wx=>∃ k:Nat,k≤blocks'.length∧i=.int .i64 k∧RO w wx v (callsA S2 ((blocks'.take k).flatMap Bl.subs)))
      (fun _ i _=>blocks'.length-(intOf i).toNat)
     case atStart=>exact⟨0,by omega,rfl,hO3⟩
     case round =>
      obtain⟨k,hk,rfl,hOx⟩:=hrel
      have hbx0:=hOx.bel.mono hn
      have hzx:=hOx.bel.size
      have e10:=HC10.out wr hbx0
      have hkw:kb<wr.heap.size:=by omega
      by_cases hlk:k<blocks'.length
      ·rcases hsB.2.2 with h|⟨qb,qoff,rfl,hqn,hqrow⟩
       ·subst h;simp at hlk
       have HCB:=hid (callsA_blocks S2 blocks' k hlk)
       have d0:=(hqrow.below hbx0 hqn) k hlk 0 (by omega)
       have hqw:qb<wr.heap.size:=by omega
       have HLk:Hid ((callsA S2 ((blocks'.take k).flatMap Bl.subs)).length+blocks'[k].subs.length≤1000000):=by
        have h1:=HLN2.out k hk
        have h2:blocks'.drop k=blocks'[k]::blocks'.drop (k+1):=by rw[List.drop_eq_getElem_cons hlk]
        rw[h2,List.flatMap_cons,List.length_append] at h1
        show _≤_
        omega
       have hIx:=(hIB _ (List.getElem_mem hlk)).below hbx0
       have HVM:=hid (vlen_calls hIx)
       have hq:=ihj _ (List.getElem_mem hlk) n₀ wr (by omega) hIx (by have:=HLk.out;omega)
       rw[← addN_block] at HCB
       have HML:Hid ((callsA S2 ((blocks'.take k).flatMap Bl.subs)).length+(callsOf blocks'[k]).length≤1000000):=by
        have h1:=callsA_len blocks'[k].subs []
        have h2:=HLk.out
        show _+(callsA [] _).length≤_
        simp only[List.length_nil] at h1
        omega
       obtain⟨S3,hS3⟩:∃ S3,callsA S2 ((blocks'.take k).flatMap Bl.subs)=S3:=⟨_,rfl⟩
       obtain⟨M,hM⟩:∃ M,callsOf blocks'[k]=M:=⟨_,rfl⟩
       rw[hS3] at HCB HML hOx
       rw[hM] at HCB HML HVM hq
       rcases hbk:blocks'[k] with ⟨qad,qcap,qbody⟩
       simp only[hbk,Bl.slice,Bl.cells,CallsBack] at hq d0
       simp at d0
       clear hbk hS3 hM HLk hIx
       go_wp2_with (go_at_call 17;(with_reducible refine hq.mono ?_);rintro r w5 ⟨mv,rfl,hmo,hb5⟩)
       have hO5:=hOx.below hb5
       have hoff:=Off.of hOx.own (Nat.le_refl _) hmo
       obtain⟨mad,mcap,rfl,hms⟩:=slOwn rcells_len hmo
       obtain⟨MB,hMB⟩:∃ MB,wr.heap.size=MB:=⟨_,rfl⟩
       rw[hMB] at hmo
       clear hOx e10 hkw d0 hqw hq hb5 hms hMB
       have hml:M.length≤1000000:=by have:=HML.out;omega
       go_loopw [3,8] (fun v i wy=>∃ q:Nat,q≤M.length∧i=.int .i64 q∧RO w wy v (addN S3 (M.take q))∧wy.ownsRow MB 70 2 (.slice mad M.length mcap) M.length (M.flatMap rcells)∧Off (.slice mad M.length mcap) v)
        (fun _ i _=>M.length-(intOf i).toNat)
       case atStart=>exact⟨0,by omega,rfl,hO5,hmo,hoff⟩
       case round =>
        obtain⟨q,hqm,rfl,hOy,hmy,hoy⟩:=hrel
        by_cases hlq:q<M.length
        ·have HT:=hid (addN_take S3 M q hlq)
         have HTL:Hid ((addN S3 (M.take q)).length≤1000000):=by
          have h1:=addN_len (M.take q) S3
          have h2:=HML.out
          rw[List.length_take] at h1
          show _≤_
          omega
         obtain⟨T,hT⟩:∃ T,addN S3 (M.take q)=T:=⟨_,rfl⟩
         rw[hT] at HT HTL hOy
         clear hT
         obtain⟨mad2,mcap2,he2,hms⟩:=slOwn rcells_len hmy
         cases he2
         have hmfull:=hmy
         rcases hms.2.2 with h|⟨mb,moff,rfl,hmn,hmrow⟩
         ·subst h;simp at hlq
         have f0:=hmrow q hlq 0 (by omega)
         have f1:=hmrow q hlq 1 (by omega)
         have hvr:=HVM.out _ (List.getElem_mem hlq)
         have HTI:=hid HT.out
         obtain⟨g1,hg1⟩:∃ g1,M[q]=g1:=⟨_,rfl⟩
         rw[hg1] at HTI hvr
         simp only[rcells,hg1] at f0 f1
         simp at f0 f1
         clear hg1 HT
         obtain⟨ga,gc⟩:=g1
         simp only at f0 f1
         obtain⟨oad,ocap,rfl,hos⟩:=slOwn rcells_len hOy.own
         have hol:=hos.1
         have hh:=hasRef_any T oad ocap wr.heap.size ga gc wr (Nat.le_refl _) hos hvr hOy.vl
         have F0:=hid (fun (W:World) (hW:Below wr.heap.size wr W)=>(hW.cell (p:=⟨mb,moff+q*2,none⟩) hmn).trans f0)
         have F1:=hid (fun (W:World) (hW:Below wr.heap.size wr W)=>(hW.cell (p:=⟨mb,moff+q*2+1,none⟩) hmn).trans f1)
         cases hhas:hasR T (ga,gc)
         ·rw[hhas] at hh
          rw[addR_new hhas] at HTI
          clear hhas
          go_wp2_with (first
           | (go_at_call 37;(with_reducible refine hh.mono ?_);rintro r w6 ⟨rfl,bb6⟩;have f0:=F0.out w6 bb6;have f1:=F1.out w6 bb6;have hm6:mb<w6.heap.size:=by have:=bb6.size;omega)
           | (at_builtin;refine app_ref rfl _ _ rfl w T _ (ga,gc) rfl ((hOy.below bb6).below ((Below.refl _ _).al le_rfl' _)) hvr w6.heap.size rfl (heapNew w6 _) HTL.out ?_;intro v7 w7 hO7 hg7 hk7))
          go_roundw
          case rel=>exact⟨q+1,by omega,by go_num,by rw[HTI.out];exact hO7,(hk7 _ _ _ _ hoy ((ownsRow_below hmy bb6).alloc _)).1,(hk7 _ _ _ _ hoy ((ownsRow_below hmy bb6).alloc _)).2⟩
          case measure=>simp[intOf];omega
         ·rw[hhas] at hh
          rw[addR_has2 hhas] at HTI
          clear hhas
          go_wp2_with (go_at_call 37;(with_reducible refine hh.mono ?_);rintro r w6 ⟨rfl,bb6⟩)
          go_roundw
          case rel=>exact⟨q+1,by omega,by go_num,by rw[HTI.out];exact hOy.below bb6,ownsRow_below hmy bb6,hoy⟩
          case measure=>simp[intOf];omega
        ·have hqd:decide ((q:Int)<(M.length:Int))=false:=by simp;omega
         have hqe:M.take q=M:=List.take_of_length_le (by omega)
         rw[hqe] at hOy
         go_wp2
         go_roundw
         case rel=>exact⟨k+1,by omega,by go_num,by rw[HCB.out];exact hOy⟩
         case measure=>simp[intOf];omega
      ·have hkd:decide ((k:Int)<(blocks'.length:Int))=false:=by simp;omega
       have hke:blocks'.take k=blocks':=List.take_of_length_le (by omega)
       rw[hke] at hOx
       go_wp2
       go_roundw
       case rel=>exact⟨j+1,by omega,by go_num,by rw[HC.out];exact hOx⟩
       case measure=>simp[intOf];omega
    ·rw[hhas] at hh
     rw[addR_has2 hhas] at HC HLN2
     clear hhas
     obtain⟨S2,hS2⟩:∃ S2,S1=S2:=⟨_,rfl⟩
     rw[hS2] at HC HLN2 hO hh hos hol ⊢
     clear hS2 HS1L
     go_wp2_with (go_at_call 37;(with_reducible refine hh.mono ?_);rintro r w5 ⟨rfl,bb5⟩)
     have hO3:=hO.below (hB1.tr le_rfl' bb5)
     clear y0 y1 bR1 hO hww HZ1 hh
     go_loopw [3,6] (fun v i wx=>∃ k:Nat,k≤blocks'.length∧i=.int .i64 k∧RO w wx v (callsA S2 ((blocks'.take k).flatMap Bl.subs)))
      (fun _ i _=>blocks'.length-(intOf i).toNat)
     case atStart=>exact⟨0,by omega,rfl,hO3⟩
     case round =>
      obtain⟨k,hk,rfl,hOx⟩:=hrel
      have hbx0:=hOx.bel.mono hn
      have hzx:=hOx.bel.size
      have e10:=HC10.out wr hbx0
      have hkw:kb<wr.heap.size:=by omega
      by_cases hlk:k<blocks'.length
      ·rcases hsB.2.2 with h|⟨qb,qoff,rfl,hqn,hqrow⟩
       ·subst h;simp at hlk
       have HCB:=hid (callsA_blocks S2 blocks' k hlk)
       have d0:=(hqrow.below hbx0 hqn) k hlk 0 (by omega)
       have hqw:qb<wr.heap.size:=by omega
       have HLk:Hid ((callsA S2 ((blocks'.take k).flatMap Bl.subs)).length+blocks'[k].subs.length≤1000000):=by
        have h1:=HLN2.out k hk
        have h2:blocks'.drop k=blocks'[k]::blocks'.drop (k+1):=by rw[List.drop_eq_getElem_cons hlk]
        rw[h2,List.flatMap_cons,List.length_append] at h1
        show _≤_
        omega
       have hIx:=(hIB _ (List.getElem_mem hlk)).below hbx0
       have HVM:=hid (vlen_calls hIx)
       have hq:=ihj _ (List.getElem_mem hlk) n₀ wr (by omega) hIx (by have:=HLk.out;omega)
       rw[← addN_block] at HCB
       have HML:Hid ((callsA S2 ((blocks'.take k).flatMap Bl.subs)).length+(callsOf blocks'[k]).length≤1000000):=by
        have h1:=callsA_len blocks'[k].subs []
        have h2:=HLk.out
        show _+(callsA [] _).length≤_
        simp only[List.length_nil] at h1
        omega
       obtain⟨S3,hS3⟩:∃ S3,callsA S2 ((blocks'.take k).flatMap Bl.subs)=S3:=⟨_,rfl⟩
       obtain⟨M,hM⟩:∃ M,callsOf blocks'[k]=M:=⟨_,rfl⟩
       rw[hS3] at HCB HML hOx
       rw[hM] at HCB HML HVM hq
       rcases hbk:blocks'[k] with ⟨qad,qcap,qbody⟩
       simp only[hbk,Bl.slice,Bl.cells,CallsBack] at hq d0
       simp at d0
       clear hbk hS3 hM HLk hIx
       go_wp2_with (go_at_call 17;(with_reducible refine hq.mono ?_);rintro r w5 ⟨mv,rfl,hmo,hb5⟩)
       have hO5:=hOx.below hb5
       have hoff:=Off.of hOx.own (Nat.le_refl _) hmo
       obtain⟨mad,mcap,rfl,hms⟩:=slOwn rcells_len hmo
       obtain⟨MB,hMB⟩:∃ MB,wr.heap.size=MB:=⟨_,rfl⟩
       rw[hMB] at hmo
       clear hOx e10 hkw d0 hqw hq hb5 hms hMB
       have hml:M.length≤1000000:=by have:=HML.out;omega
       go_loopw [3,8] (fun v i wy=>∃ q:Nat,q≤M.length∧i=.int .i64 q∧RO w wy v (addN S3 (M.take q))∧wy.ownsRow MB 70 2 (.slice mad M.length mcap) M.length (M.flatMap rcells)∧Off (.slice mad M.length mcap) v)
        (fun _ i _=>M.length-(intOf i).toNat)
       case atStart=>exact⟨0,by omega,rfl,hO5,hmo,hoff⟩
       case round =>
        obtain⟨q,hqm,rfl,hOy,hmy,hoy⟩:=hrel
        by_cases hlq:q<M.length
        ·have HT:=hid (addN_take S3 M q hlq)
         have HTL:Hid ((addN S3 (M.take q)).length≤1000000):=by
          have h1:=addN_len (M.take q) S3
          have h2:=HML.out
          rw[List.length_take] at h1
          show _≤_
          omega
         obtain⟨T,hT⟩:∃ T,addN S3 (M.take q)=T:=⟨_,rfl⟩
         rw[hT] at HT HTL hOy
         clear hT
         obtain⟨mad2,mcap2,he2,hms⟩:=slOwn rcells_len hmy
         cases he2
         have hmfull:=hmy
         rcases hms.2.2 with h|⟨mb,moff,rfl,hmn,hmrow⟩
         ·subst h;simp at hlq
         have f0:=hmrow q hlq 0 (by omega)
         have f1:=hmrow q hlq 1 (by omega)
         have hvr:=HVM.out _ (List.getElem_mem hlq)
         have HTI:=hid HT.out
         obtain⟨g1,hg1⟩:∃ g1,M[q]=g1:=⟨_,rfl⟩
         rw[hg1] at HTI hvr
         simp only[rcells,hg1] at f0 f1
         simp at f0 f1
         clear hg1 HT
         obtain⟨ga,gc⟩:=g1
         simp only at f0 f1
         obtain⟨oad,ocap,rfl,hos⟩:=slOwn rcells_len hOy.own
         have hol:=hos.1
         have hh:=hasRef_any T oad ocap wr.heap.size ga gc wr (Nat.le_refl _) hos hvr hOy.vl
         have F0:=hid (fun (W:World) (hW:Below wr.heap.size wr W)=>(hW.cell (p:=⟨mb,moff+q*2,none⟩) hmn).trans f0)
         have F1:=hid (fun (W:World) (hW:Below wr.heap.size wr W)=>(hW.cell (p:=⟨mb,moff+q*2+1,none⟩) hmn).trans f1)
         cases hhas:hasR T (ga,gc)
         ·rw[hhas] at hh
          rw[addR_new hhas] at HTI
          clear hhas
          go_wp2_with (first
           | (go_at_call 37;(with_reducible refine hh.mono ?_);rintro r w6 ⟨rfl,bb6⟩;have f0:=F0.out w6 bb6;have f1:=F1.out w6 bb6;have hm6:mb<w6.heap.size:=by have:=bb6.size;omega)
           | (at_builtin;refine app_ref rfl _ _ rfl w T _ (ga,gc) rfl ((hOy.below bb6).below ((Below.refl _ _).al le_rfl' _)) hvr w6.heap.size rfl (heapNew w6 _) HTL.out ?_;intro v7 w7 hO7 hg7 hk7))
          go_roundw
          case rel=>exact⟨q+1,by omega,by go_num,by rw[HTI.out];exact hO7,(hk7 _ _ _ _ hoy ((ownsRow_below hmy bb6).alloc _)).1,(hk7 _ _ _ _ hoy ((ownsRow_below hmy bb6).alloc _)).2⟩
          case measure=>simp[intOf];omega
         ·rw[hhas] at hh
          rw[addR_has2 hhas] at HTI
          clear hhas
          go_wp2_with (go_at_call 37;(with_reducible refine hh.mono ?_);rintro r w6 ⟨rfl,bb6⟩)
          go_roundw
          case rel=>exact⟨q+1,by omega,by go_num,by rw[HTI.out];exact hOy.below bb6,ownsRow_below hmy bb6,hoy⟩
          case measure=>simp[intOf];omega
        ·have hqd:decide ((q:Int)<(M.length:Int))=false:=by simp;omega
         have hqe:M.take q=M:=List.take_of_length_le (by omega)
         rw[hqe] at hOy
         go_wp2
         go_roundw
         case rel=>exact⟨k+1,by omega,by go_num,by rw[HCB.out];exact hOy⟩
         case measure=>simp[intOf];omega
      ·have hkd:decide ((k:Int)<(blocks'.length:Int))=false:=by simp;omega
       have hke:blocks'.take k=blocks':=List.take_of_length_le (by omega)
       rw[hke] at hOx
       go_wp2
       go_roundw
       case rel=>exact⟨j+1,by omega,by go_num,by rw[HC.out];exact hOx⟩
       case measure=>simp[intOf];omega
   ·have hcs:cstep S1 (St.mk kind' mon' name' n' (Ex.mk eop' emon' ename' en' ead' ecap' ekids' epos') ad' cap' blocks' pos')=S1:=cstep_no (fun h=>hk8 h.1)
    rw[hcs] at HC HLN2
    have hkb:(kind'==8)=false:=by simp[hk8]
    clear hcs HLN
    obtain⟨S2,hS2⟩:∃ S2,S1=S2:=⟨_,rfl⟩
    rw[hS2] at HC HLN2 hO
    have hO3:=hO
    clear hS2 hO
    go_wp2
    clear c0 c1 c2 c3 c4 c5 c6 c7 c8 c9 c10 c11 hkb hk8
    go_loopw [3,6] (fun v i wx=>∃ k:Nat,k≤blocks'.length∧i=.int .i64 k∧RO w wx v (callsA S2 ((blocks'.take k).flatMap Bl.subs)))
     (fun _ i _=>blocks'.length-(intOf i).toNat)
    case atStart=>exact⟨0,by omega,rfl,hO3⟩
    case round =>
     obtain⟨k,hk,rfl,hOx⟩:=hrel
     have hbx0:=hOx.bel.mono hn
     have hzx:=hOx.bel.size
     have e10:=HC10.out wr hbx0
     have hkw:kb<wr.heap.size:=by omega
     by_cases hlk:k<blocks'.length
     ·rcases hsB.2.2 with h|⟨qb,qoff,rfl,hqn,hqrow⟩
      ·subst h;simp at hlk
      have HCB:=hid (callsA_blocks S2 blocks' k hlk)
      have d0:=(hqrow.below hbx0 hqn) k hlk 0 (by omega)
      have hqw:qb<wr.heap.size:=by omega
      have HLk:Hid ((callsA S2 ((blocks'.take k).flatMap Bl.subs)).length+blocks'[k].subs.length≤1000000):=by
       have h1:=HLN2.out k hk
       have h2:blocks'.drop k=blocks'[k]::blocks'.drop (k+1):=by rw[List.drop_eq_getElem_cons hlk]
       rw[h2,List.flatMap_cons,List.length_append] at h1
       show _≤_
       omega
      have hIx:=(hIB _ (List.getElem_mem hlk)).below hbx0
      have HVM:=hid (vlen_calls hIx)
      have hq:=ihj _ (List.getElem_mem hlk) n₀ wr (by omega) hIx (by have:=HLk.out;omega)
      rw[← addN_block] at HCB
      have HML:Hid ((callsA S2 ((blocks'.take k).flatMap Bl.subs)).length+(callsOf blocks'[k]).length≤1000000):=by
       have h1:=callsA_len blocks'[k].subs []
       have h2:=HLk.out
       show _+(callsA [] _).length≤_
       simp only[List.length_nil] at h1
       omega
      obtain⟨S3,hS3⟩:∃ S3,callsA S2 ((blocks'.take k).flatMap Bl.subs)=S3:=⟨_,rfl⟩
      obtain⟨M,hM⟩:∃ M,callsOf blocks'[k]=M:=⟨_,rfl⟩
      rw[hS3] at HCB HML hOx
      rw[hM] at HCB HML HVM hq
      rcases hbk:blocks'[k] with ⟨qad,qcap,qbody⟩
      simp only[hbk,Bl.slice,Bl.cells,CallsBack] at hq d0
      simp at d0
      clear hbk hS3 hM HLk hIx
      go_wp2_with (go_at_call 17;(with_reducible refine hq.mono ?_);rintro r w5 ⟨mv,rfl,hmo,hb5⟩)
      have hO5:=hOx.below hb5
      have hoff:=Off.of hOx.own (Nat.le_refl _) hmo
      obtain⟨mad,mcap,rfl,hms⟩:=slOwn rcells_len hmo
      obtain⟨MB,hMB⟩:∃ MB,wr.heap.size=MB:=⟨_,rfl⟩
      rw[hMB] at hmo
      clear hOx e10 hkw d0 hqw hq hb5 hms hMB
      have hml:M.length≤1000000:=by have:=HML.out;omega
      go_loopw [3,8] (fun v i wy=>∃ q:Nat,q≤M.length∧i=.int .i64 q∧RO w wy v (addN S3 (M.take q))∧wy.ownsRow MB 70 2 (.slice mad M.length mcap) M.length (M.flatMap rcells)∧Off (.slice mad M.length mcap) v)
       (fun _ i _=>M.length-(intOf i).toNat)
      case atStart=>exact⟨0,by omega,rfl,hO5,hmo,hoff⟩
      case round =>
       obtain⟨q,hqm,rfl,hOy,hmy,hoy⟩:=hrel
       by_cases hlq:q<M.length
       ·have HT:=hid (addN_take S3 M q hlq)
        have HTL:Hid ((addN S3 (M.take q)).length≤1000000):=by
         have h1:=addN_len (M.take q) S3
         have h2:=HML.out
         rw[List.length_take] at h1
         show _≤_
         omega
        obtain⟨T,hT⟩:∃ T,addN S3 (M.take q)=T:=⟨_,rfl⟩
        rw[hT] at HT HTL hOy
        clear hT
        obtain⟨mad2,mcap2,he2,hms⟩:=slOwn rcells_len hmy
        cases he2
        have hmfull:=hmy
        rcases hms.2.2 with h|⟨mb,moff,rfl,hmn,hmrow⟩
        ·subst h;simp at hlq
        have f0:=hmrow q hlq 0 (by omega)
        have f1:=hmrow q hlq 1 (by omega)
        have hvr:=HVM.out _ (List.getElem_mem hlq)
        have HTI:=hid HT.out
        obtain⟨g1,hg1⟩:∃ g1,M[q]=g1:=⟨_,rfl⟩
        rw[hg1] at HTI hvr
        simp only[rcells,hg1] at f0 f1
        simp at f0 f1
        clear hg1 HT
        obtain⟨ga,gc⟩:=g1
        simp only at f0 f1
        obtain⟨oad,ocap,rfl,hos⟩:=slOwn rcells_len hOy.own
        have hol:=hos.1
        have hh:=hasRef_any T oad ocap wr.heap.size ga gc wr (Nat.le_refl _) hos hvr hOy.vl
        have F0:=hid (fun (W:World) (hW:Below wr.heap.size wr W)=>(hW.cell (p:=⟨mb,moff+q*2,none⟩) hmn).trans f0)
        have F1:=hid (fun (W:World) (hW:Below wr.heap.size wr W)=>(hW.cell (p:=⟨mb,moff+q*2+1,none⟩) hmn).trans f1)
        cases hhas:hasR T (ga,gc)
        ·rw[hhas] at hh
         rw[addR_new hhas] at HTI
         clear hhas
         go_wp2_with (first
          | (go_at_call 37;(with_reducible refine hh.mono ?_);rintro r w6 ⟨rfl,bb6⟩;have f0:=F0.out w6 bb6;have f1:=F1.out w6 bb6;have hm6:mb<w6.heap.size:=by have:=bb6.size;omega)
          | (at_builtin;refine app_ref rfl _ _ rfl w T _ (ga,gc) rfl ((hOy.below bb6).below ((Below.refl _ _).al le_rfl' _)) hvr w6.heap.size rfl (heapNew w6 _) HTL.out ?_;intro v7 w7 hO7 hg7 hk7))
         go_roundw
         case rel=>exact⟨q+1,by omega,by go_num,by rw[HTI.out];exact hO7,(hk7 _ _ _ _ hoy ((ownsRow_below hmy bb6).alloc _)).1,(hk7 _ _ _ _ hoy ((ownsRow_below hmy bb6).alloc _)).2⟩
         case measure=>simp[intOf];omega
        ·rw[hhas] at hh
         rw[addR_has2 hhas] at HTI
         clear hhas
         go_wp2_with (go_at_call 37;(with_reducible refine hh.mono ?_);rintro r w6 ⟨rfl,bb6⟩)
         go_roundw
         case rel=>exact⟨q+1,by omega,by go_num,by rw[HTI.out];exact hOy.below bb6,ownsRow_below hmy bb6,hoy⟩
         case measure=>simp[intOf];omega
       ·have hqd:decide ((q:Int)<(M.length:Int))=false:=by simp;omega
        have hqe:M.take q=M:=List.take_of_length_le (by omega)
        rw[hqe] at hOy
        go_wp2
        go_roundw
        case rel=>exact⟨k+1,by omega,by go_num,by rw[HCB.out];exact hOy⟩
        case measure=>simp[intOf];omega
     ·have hkd:decide ((k:Int)<(blocks'.length:Int))=false:=by simp;omega
      have hke:blocks'.take k=blocks':=List.take_of_length_le (by omega)
      rw[hke] at hOx
      go_wp2
      go_roundw
      case rel=>exact⟨j+1,by omega,by go_num,by rw[HC.out];exact hOx⟩
      case measure=>simp[intOf];omega
  ·have hjd:decide ((j:Int)<(body.length:Int))=false:=by simp;omega
   have hje:body.take j=body:=List.take_of_length_le (by omega)
   rw[hje,← HS.out] at hO
   go_wp2
   go_ret
   exact⟨_,rfl,hO.own,hO.bel⟩
theorem rcal_any (x:Bl):RCal x:=
 Bl.ind (P:=fun s=>∀ x∈s.blocks,RCal x) (Q:=fun x=>RCal x) (fun _ _ _ _ _ _ _ _ _ ih x hx=>ih x hx) (fun ad cap body ih=>rcal_step ad cap body ih) x
end Go.Proofs.YtpbjikncobnkjaaGreatDoor
