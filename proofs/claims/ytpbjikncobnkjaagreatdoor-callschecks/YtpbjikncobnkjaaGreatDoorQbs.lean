/-
  Own texts joined by program: NxX.
-/
import Derived.Test.YtpbjikncobnkjaaGreatDoorQbq
import Derived.Deep.AppendLies
namespace Go.Proofs.YtpbjikncobnkjaaGreatDoor
open Go.RowKit
theorem heapAt9 {W:World} {p:Nat} (o:Obj) (hp:W.heap.size=p):(W.alloc o).heap[p]?=some o:=by subst hp;exact heapNew W o
theorem _root_.Go.RowKit.Below.al' {n₀:Nat} {A B:World} (h:Below n₀ A B) (hB:n₀≤B.heap.size) (o:Obj):Below n₀ A (B.alloc o):=h.alloc hB o
structure NA (base:Nat) (W0 W:World) (v:Value) (n:Nat) (xs:List Value) (u:Value) (m:Nat) (ys:List Value):Prop where
 nm:W.ownsRow base 9 1 v n xs
 ps:W.ownsRow base 3 1 u m ys
 bl:Below base W0 W
 sz:base≤W.heap.size
theorem NA.al {base:Nat} {W0 W:World} {v:Value} {n:Nat} {xs:List Value} {u:Value} {m:Nat} {ys:List Value} (h:NA base W0 W v n xs u m ys) (o:Obj):NA base W0 (W.alloc o) v n xs u m ys:=
 ⟨h.nm.alloc o,h.ps.alloc o,h.bl.al' h.sz o,by have:=h.sz;simp;omega⟩
theorem NA.dr {base:Nat} {W0 W:World} {v:Value} {n:Nat} {xs:List Value} {u:Value} {m:Nat} {ys:List Value} (h:NA base W0 W v n xs u m ys):NA base W0 W.drew v n xs u m ys:=
 ⟨h.nm,h.ps,h.bl.drew,h.sz⟩
theorem NA.ne {base:Nat} {W0 W:World} {v:Value} {n:Nat} {xs:List Value} {u:Value} {m:Nat} {ys:List Value} (h:NA base W0 W v n xs u m ys):v.ownBlock=none∨v.ownBlock≠u.ownBlock:=by
 rcases h.nm.2 with ⟨rfl,_⟩|⟨g,c,cur,rfl,_,hg,_⟩
 ·exact .inl rfl
 ·refine .inr fun e=>?_
  rcases h.ps.2 with ⟨rfl,_⟩|⟨g',c',cur',rfl,_,hg',_⟩
  ·cases e
  ·have e2:g=g':=by simpa[Value.ownBlock] using e
   subst e2
   rw[hg] at hg'
   injection hg' with h1
   injection h1 with _ h2
   cases h2
theorem NA.app1 {base:Nat} {W0 W w1:World} {v v':Value} {n n':Nat} {xs xs':List Value} {u:Value} {m:Nat} {ys:List Value} (h:NA base W0 W v n xs u m ys) (ho:w1.ownsRow base 9 1 v' n' xs') (hg:W.grownBy w1 v.ownBlock):NA base W0 w1 v' n' xs' u m ys:=by
 refine⟨ho,h.ps.kept hg ?_,h.bl.grown hg h.sz (fun k hk=>(h.nm.lt k hk).1),Nat.le_trans h.sz hg.size⟩
 rcases h.ne with h1|h1
 ·by_cases h2:u.ownBlock=none
  ·exact .inl h2
  ·exact .inr (fun e=>h2 (e.trans h1))
 ·exact .inr (fun e=>h1 e.symm)
theorem NA.app2 {base:Nat} {W0 W w1:World} {v:Value} {n:Nat} {xs:List Value} {u u':Value} {m m':Nat} {ys ys':List Value} (h:NA base W0 W v n xs u m ys) (ho:w1.ownsRow base 3 1 u' m' ys') (hg:W.grownBy w1 u.ownBlock):NA base W0 w1 v n xs u' m' ys':=by
 refine⟨h.nm.kept hg ?_,ho,h.bl.grown hg h.sz (fun k hk=>(h.ps.lt k hk).1),Nat.le_trans h.sz hg.size⟩
 exact h.ne
theorem info9x:(Tryz.prog.info? 9).map (fun i=>(i.zero,i.size,i.bytes))=some (some (.string ⟨#[]⟩),1,16):=by kernel_rfl
theorem info3x:(Tryz.prog.info? 3).map (fun i=>(i.zero,i.size,i.bytes))=some (some (.int .i64 0),1,8):=by kernel_rfl
def nC (l:List (ByteArray × Int)):List Value:=l.map fun x=>.string x.1
def pC (l:List (ByteArray × Int)):List Value:=l.map fun x=>.int .i64 x.2
theorem nC_snoc (l:List (ByteArray × Int)) (x:ByteArray × Int):nC (l++[x])=nC l++[.string x.1]:=by simp[nC]
theorem pC_snoc (l:List (ByteArray × Int)) (x:ByteArray × Int):pC (l++[x])=pC l++[.int .i64 x.2]:=by simp[pC]
theorem dupN_drop (l:List (ByteArray × Int)) (k:Nat) (h:k<l.length) (seen:List ByteArray):dupN seen (l.drop k)=if hasN seen l[k].1 then some l[k].2 else dupN (seen++[l[k].1]) (l.drop (k+1)):=by
 rw[List.drop_eq_getElem_cons h,dupN]
theorem fst_snoc (l:List (ByteArray × Int)) (k:Nat) (h:k<l.length):(l.take (k+1)).map Prod.fst=(l.take k).map Prod.fst++[l[k].1]:=by rw[List.take_succ_eq_append_getElem h,List.map_append];rfl
theorem hasN_hit (l:List (ByteArray × Int)) (i k:Nat) (hi:i<l.length) (hk:k<i) (h:(l[k]'(by omega)).1=l[i].1):hasN ((l.take i).map Prod.fst) l[i].1=true:=by
 refine hasN_iff.2 (List.mem_map.2 ⟨l[k]'(by omega),?_,h⟩)
 rw[List.mem_take_iff_getElem]
 exact⟨k,by omega,rfl⟩
theorem hasN_miss (l:List (ByteArray × Int)) (i:Nat) (hi:i<l.length) (h:∀ k (hk:k<l.length),k<i→¬ l[k].1=l[i].1):¬ hasN ((l.take i).map Prod.fst) l[i].1=true:=by
 intro h1
 obtain⟨x,hx,he⟩:=List.mem_map.1 (hasN_iff.1 h1)
 obtain⟨k,hk,rfl⟩:=List.mem_take_iff_getElem.1 hx
 exact h k (by omega) (by omega) he
theorem own_at {w:World} {base:Nat} {e:TypeId} {v:Value} {n:Nat} {xs:List Value} (h:w.ownsRow base e 1 v n xs) (hn:0<n):∃ g cap,v=.slice (some ⟨g,0,none⟩) n cap∧base≤g∧g<w.heap.size∧n≤cap∧cap≤maxLen∧∀ k u,xs[k]?=some u→w.cell? ⟨g,k,none⟩=some u:=by
 have h0:=h
 rcases h.2 with ⟨_,h0⟩|⟨g,cap,cur,rfl,hb,hg,h1,h2,_⟩
 ·omega
 ·refine⟨g,cap,rfl,hb,(Array.getElem?_eq_some_iff.1 hg).1,h1,h2,fun k u hk=>?_⟩
  have h3:=h0.cells (g:=g) rfl k u hk
  rw[Addr.add_lit,Nat.zero_add] at h3
  exact h3
theorem nC_at (l:List (ByteArray × Int)) (k:Nat) (h:k<l.length):(nC l)[k]?=some (.string l[k].1):=by simp[nC,h]
theorem pC_at (l:List (ByteArray × Int)) (k:Nat) (h:k<l.length):(pC l)[k]?=some (.int .i64 l[k].2):=by simp[pC,h]
theorem NA.drN {base:Nat} {W0 W:World} {v:Value} {n:Nat} {xs:List Value} {u:Value} {m:Nat} {ys:List Value} (h:NA base W0 W v n xs u m ys) (k:Nat):NA base W0 (W.drewN k) v n xs u m ys:=⟨h.nm,h.ps,below_drewN h.bl k,h.sz⟩
theorem vpA_snoc (l:List Va) (k:Nat) (h:k<l.length):(l.take (k+1)).map (fun v=>(v.name,v.pos))=(l.take k).map (fun v=>(v.name,v.pos))++[(l[k].name,l[k].pos)]:=by rw[List.take_succ_eq_append_getElem h,List.map_append];rfl
theorem fpA_snoc (l:List Me) (k:Nat) (h:k<l.length):(l.take (k+1)).map (fun v=>(v.name,v.pos))=(l.take k).map (fun v=>(v.name,v.pos))++[(l[k].name,l[k].pos)]:=by rw[List.take_succ_eq_append_getElem h,List.map_append];rfl
set_option maxRecDepth 100000 in
set_option maxHeartbeats 16000000 in
theorem refMon_any (m:Mo) (n₀:Nat) (w:World) (hn:n₀≤w.heap.size) (hI:m.Is n₀ w) (hb1:m.vars.length≤1000) (hb2:m.meths.length≤1000) :
  Calls Tryz.prog 69 #[m.val] w fun r w'=>ErrBack 60 (dupN [] m.nps) w w' r:=by
 obtain⟨i9,hi9,hz9,hy9,hx9⟩:=info_parts info9x
 obtain⟨i3,hi3,hz3,hy3,hx3⟩:=info_parts info3x
 have HU:Hid (dupN [] m.nps=dupN [] (vps m.vars++fps m.meths)):=rfl
 rcases m with ⟨mname,mvad,mvcap,mvars,mmad,mmcap,mmeths,mpos⟩
 obtain⟨-,⟨hv1,hv2⟩,hf1,hf2⟩:=hI
 simp only at hv1 hf1 hf2 hb1 hb2 HU
 have hl1:=hv1.1;have hl2:=hv1.2.1;have hl3:=hf1.1;have hl4:=hf1.2.1
 unfold maxLen at hl2 hl4
 simp only[Mo.val,Mo.cells]
 go_enter Tryz.func69,Tryz.ntmps69
 go_upto_region 1 with fail
 obtain⟨bP,hB,hz⟩:=one_box w #[.string mname,.slice mvad mvars.length mvcap,.slice mmad mmeths.length mmcap,.int .i64 mpos] 52
 obtain⟨W0,hW0⟩:∃ W0,w.alloc (.cells #[.string mname,.slice mvad mvars.length mvcap,.slice mmad mmeths.length mmcap,.int .i64 mpos] 52)=W0:=⟨_,rfl⟩
 rw[hW0] at bP hB hz ⊢
 clear hW0
 have r1:=cellOf bP 1
 have r2:=cellOf bP 2
 simp at r1 r2
 have HZ:=hid hz
 have hzl:w.heap.size+1≤W0.heap.size:=by omega
 clear hz bP
 go_wp2
 go_loopw [4,5,6] (fun v u i wr=>∃ j:Nat,j≤mvars.length∧i=.int .i64 j∧Hid ((vps (mvars.take j)).length=j)∧NA (w.heap.size+1) W0 wr v (vps (mvars.take j)).length (nC (vps (mvars.take j))) u (vps (mvars.take j)).length (pC (vps (mvars.take j))))
  (fun _ _ i _=>mvars.length-(intOf i).toNat)
 case atStart=>exact⟨0,by omega,rfl,rfl,⟨World.ownsRow_nil _ _ _ _,World.ownsRow_nil _ _ _ _,Below.refl _ _,hzl⟩⟩
 case round =>
  obtain⟨j,hj,rfl,HJ,hNA⟩:=hrel
  have hz0:=HZ.out
  have hzw:=hNA.sz
  have hbF:Below w.heap.size w wr:=hB.trans (hNA.bl.mono (by omega))
  have y1:=(hNA.bl.cell (p:=⟨w.heap.size,1,none⟩) (by show w.heap.size<_;omega)).trans r1
  by_cases hlt:j<mvars.length
  ·rcases hv1.2.2 with h|⟨kb,koff,rfl,hbn,hrow⟩
   ·subst h;simp at hlt
   have hji:(j:Int)<(mvars.length:Int):=by omega
   have hbn2:kb<wr.heap.size:=by omega
   have HS:=hid (vpA_snoc mvars j hlt)
   have hrj:=hrow.below (hB.mono hn) hbn
   rcases he':mvars[j] with ⟨nm,vtype,vlo,vhi,vinit,ps⟩
   obtain⟨c0,-,-,-,-,c5⟩:=row6 hrj j hlt (by rw[he'];rfl)
   rw[he'] at HS
   simp only at HS
   clear he'
   have HKN:Hid (∀ W v n xs u m ys,NA (w.heap.size+1) W0 W v n xs u m ys→W.cell? ⟨w.heap.size,1,none⟩=some (.slice (some ⟨kb,koff,none⟩) mvars.length mvcap)∧W.cell? ⟨kb,koff+j*6,none⟩=some (.string nm)∧W.cell? ⟨kb,koff+j*6+5,none⟩=some (.int .i64 ps)):=fun W _ _ _ _ _ _ hW=>⟨(hW.bl.cell (p:=⟨w.heap.size,1,none⟩) (by show w.heap.size<_;omega)).trans r1,(hW.bl.cell (p:=⟨kb,_,none⟩) (by show kb<_;omega)).trans c0,(hW.bl.cell (p:=⟨kb,_,none⟩) (by show kb<_;omega)).trans c5⟩
   obtain⟨L,hL⟩:∃ L,vps (mvars.take j)=L:=⟨_,rfl⟩
   have HS:Hid (vps (mvars.take (j+1))=L++[(nm,ps)]):=by show _=_;rw[← hL];exact HS.out
   rw[hL] at hNA
   have hLl:L.length≤1000:=by have:=HJ.out;rw[hL] at this;omega
   have HJ2:Hid (L.length=j):=by have:=HJ.out;rw[hL] at this;exact this
   have HJ3:Hid ((vps (mvars.take (j+1))).length=j+1):=by show _=_;rw[HS.out,List.length_append,HJ2.out];rfl
   have HFIN:Hid (∀ W v u,NA (w.heap.size+1) W0 W v (L.length+1) (nC L++[.string nm]) u (L.length+1) (pC L++[.int .i64 ps])→NA (w.heap.size+1) W0 W v (vps (mvars.take (j+1))).length (nC (vps (mvars.take (j+1)))) u (vps (mvars.take (j+1))).length (pC (vps (mvars.take (j+1))))):=fun W v u h=>by
    rw[HS.out,nC_snoc,pC_snoc,List.length_append];exact h
   clear hL HJ c0 c5
   go_wp2
   go_region_held3 (fun W=>W.cell? ⟨w.heap.size,1,none⟩=some (.slice (some ⟨kb,koff,none⟩) mvars.length mvcap)∧W.cell? ⟨kb,koff+j*6,none⟩=some (.string nm)∧W.cell? ⟨kb,koff+j*6+5,none⟩=some (.int .i64 ps)) (first|exact HKN.out _ _ _ _ _ _ _ hNA.dr|exact HKN.out _ _ _ _ _ _ _ (hNA.dr.al _)|exact HKN.out _ _ _ _ _ _ _ ((hNA.al _).dr)|exact HKN.out _ _ _ _ _ _ _ ((hNA.dr.al _).al _)|exact HKN.out _ _ _ _ _ _ _ (((hNA.al _).al _).dr)|exact HKN.out _ _ _ _ _ _ _ hN1|exact HKN.out _ _ _ _ _ _ _ (hN1.al _)|exact HKN.out _ _ _ _ _ _ _ hN1.dr|exact HKN.out _ _ _ _ _ _ _ ((hN1.al _).dr)|exact HKN.out _ _ _ _ _ _ _ hN2|exact HKN.out _ _ _ _ _ _ _ hN2.dr|exact HKN.out _ _ _ _ _ _ _ hNA|exact HKN.out _ _ _ _ _ _ _ (hNA.al _)|exact HKN.out _ _ _ _ _ _ _ ((hNA.al _).al _)) (first|(refine step_append_lies _ (by rfl) _ _ 133 (by rfl) (w.heap.size+1) 9 i9 _ 1 16 Tryz.underlying133 hi9 hz9 hy9 hx9 rfl (by decide) u4 L.length (nC L) (by rfl) (NA.nm (W0:=W0) (u:=u5) (m:=L.length) (ys:=pC L) ?_) ⟨_,0,none⟩ 1 1 [.string nm] (by rfl) (by rfl) (World.news_of_block (cs:=#[.string nm]) (t:=9) (fr:=(0,0)) ?_) (by simp[Value.oneCell']) (by omega) (by unfold maxLen;omega) (by omega) ?_ _ rfl ?_;(repeat (first|exact hNA|with_reducible refine NA.al ?_ _|with_reducible refine NA.dr ?_));(first|exact heapAt9 _ (by simp)|exact (Below.heap_alloc _ _ _ (by simp)).trans (heapAt9 _ (by simp))|exact heapNew _ _);(have:=hNA.sz;(first|omega|(simp;done)|(simp;omega)));intro g1 gc1 w1 hown1 hg1 hat1 hlt1;have hN1:NA (w.heap.size+1) W0 w1 (.slice (some ⟨g1,0,none⟩) (L.length+1) gc1) (L.length+1) (nC L++[.string nm]) u5 L.length (pC L):=(by refine NA.app1 (v:=u4) (n:=L.length) (xs:=nC L) ?_ hown1 hg1;(repeat (first|exact hNA|with_reducible refine NA.al ?_ _|with_reducible refine NA.dr ?_))))|(refine step_append_lies _ (by rfl) _ _ 134 (by rfl) (w.heap.size+1) 3 i3 _ 1 8 Tryz.underlying134 hi3 hz3 hy3 hx3 rfl (by decide) u5 L.length (pC L) (by rfl) (NA.ps (W0:=W0) (v:=.slice (some ⟨g1,0,none⟩) (L.length+1) gc1) (n:=L.length+1) (xs:=nC L++[.string nm]) ?_) ⟨_,0,none⟩ 1 1 [.int .i64 ps] (by rfl) (by rfl) (World.news_of_block (cs:=#[.int .i64 ps]) (t:=3) (fr:=(0,0)) ?_) (by simp[Value.oneCell']) (by omega) (by unfold maxLen;omega) (by omega) ?_ _ rfl ?_;(repeat (first|exact hN1|with_reducible refine NA.al ?_ _|with_reducible refine NA.dr ?_));(first|exact heapAt9 _ (by simp)|exact heapNew _ _|(refine (hg1.block _ (by simp <;> omega) ?_).trans ?_;(intro e;have:=(hNA.nm.lt _ e.symm).2;first|(simp at this;done)|omega);first|exact heapAt9 _ (by simp)|exact (Below.heap_alloc _ _ _ (by simp)).trans (heapAt9 _ (by simp))|exact heapNew _ _));(have:=hN1.sz;(first|omega|(simp;done)|(simp;omega)));intro g2 gc2 w2 hown2 hg2 hat2 hlt2;have hN2:NA (w.heap.size+1) W0 w2 (.slice (some ⟨g1,0,none⟩) (L.length+1) gc1) (L.length+1) (nC L++[.string nm]) (.slice (some ⟨g2,0,none⟩) (L.length+1) gc2) (L.length+1) (pC L++[.int .i64 ps]):=(by refine NA.app2 (u:=u5) (m:=L.length) (ys:=pC L) ?_ hown2 hg2;(repeat (first|exact hN1|with_reducible refine NA.al ?_ _|with_reducible refine NA.dr ?_)))))
   all_goals go_wp2
   all_goals go_roundw
   all_goals first
    | exact⟨j+1,by omega,by go_num,HJ3,HFIN.out _ _ _ hN2⟩
    | (simp[intOf];omega)
  ·have hjd:decide ((j:Int)<(mvars.length:Int))=false:=by simp;omega
   have y2:=(hNA.bl.cell (p:=⟨w.heap.size,2,none⟩) (by show w.heap.size<_;omega)).trans r2
   have hNA0:NA (w.heap.size+1) W0 wr u4 (vps mvars++fps (mmeths.take 0)).length (nC (vps mvars++fps (mmeths.take 0))) u5 (vps mvars++fps (mmeths.take 0)).length (pC (vps mvars++fps (mmeths.take 0))):=by
    rw[List.take_of_length_le (show mvars.length≤j by omega)] at hNA
    simpa[fps] using hNA
   have HL0:Hid ((vps mvars).length=mvars.length):=by show _=_;simp[vps]
   clear hNA
   go_wp2
   go_loopw [4,5,7] (fun v u i wr=>∃ j:Nat,j≤mmeths.length∧i=.int .i64 j∧Hid ((vps mvars++fps (mmeths.take j)).length=mvars.length+j)∧NA (w.heap.size+1) W0 wr v (vps mvars++fps (mmeths.take j)).length (nC (vps mvars++fps (mmeths.take j))) u (vps mvars++fps (mmeths.take j)).length (pC (vps mvars++fps (mmeths.take j))))
    (fun _ _ i _=>mmeths.length-(intOf i).toNat)
   case atStart=>exact⟨0,by omega,rfl,by show _=_;rw[List.length_append,HL0.out];rfl,hNA0⟩
   case round =>
    clear hNA0
    obtain⟨j,hj,rfl,HJ,hNA⟩:=hrel
    have hzw:=hNA.sz
    have hbF:Below w.heap.size w wr:=hB.trans (hNA.bl.mono (by omega))
    have y2:=(hNA.bl.cell (p:=⟨w.heap.size,2,none⟩) (by show w.heap.size<_;omega)).trans r2
    by_cases hlt:j<mmeths.length
    ·rcases hf1.2.2 with h|⟨kb,koff,rfl,hbn,hrow⟩
     ·subst h;simp at hlt
     have hji:(j:Int)<(mmeths.length:Int):=by omega
     have hbn2:kb<wr.heap.size:=by omega
     have HS:=hid (fpA_snoc mmeths j hlt)
     have hrj:=hrow.below (hB.mono hn) hbn
     rcases he':mmeths[j] with ⟨nm,fbody,ps⟩
     obtain⟨c0,-,c2⟩:=row3 hrj j hlt (by rw[he'];rfl)
     rw[he'] at HS
     simp only at HS
     clear he'
     have HKN:Hid (∀ W v n xs u m ys,NA (w.heap.size+1) W0 W v n xs u m ys→W.cell? ⟨w.heap.size,2,none⟩=some (.slice (some ⟨kb,koff,none⟩) mmeths.length mmcap)∧W.cell? ⟨kb,koff+j*3,none⟩=some (.string nm)∧W.cell? ⟨kb,koff+j*3+2,none⟩=some (.int .i64 ps)):=fun W _ _ _ _ _ _ hW=>⟨(hW.bl.cell (p:=⟨w.heap.size,2,none⟩) (by show w.heap.size<_;omega)).trans r2,(hW.bl.cell (p:=⟨kb,_,none⟩) (by show kb<_;omega)).trans c0,(hW.bl.cell (p:=⟨kb,_,none⟩) (by show kb<_;omega)).trans c2⟩
     obtain⟨L,hL⟩:∃ L,vps mvars++fps (mmeths.take j)=L:=⟨_,rfl⟩
     have HS:Hid (vps mvars++fps (mmeths.take (j+1))=L++[(nm,ps)]):=by show _=_;rw[← hL,List.append_assoc];exact congrArg _ HS.out
     rw[hL] at hNA
     have hLl:L.length≤2000:=by have:=HJ.out;rw[hL] at this;omega
     have HJ2:Hid (L.length=mvars.length+j):=by have:=HJ.out;rw[hL] at this;exact this
     have HJ3:Hid ((vps mvars++fps (mmeths.take (j+1))).length=mvars.length+(j+1)):=by show _=_;rw[HS.out,List.length_append,HJ2.out];rfl
     have HFIN:Hid (∀ W v u,NA (w.heap.size+1) W0 W v (L.length+1) (nC L++[.string nm]) u (L.length+1) (pC L++[.int .i64 ps])→NA (w.heap.size+1) W0 W v (vps mvars++fps (mmeths.take (j+1))).length (nC (vps mvars++fps (mmeths.take (j+1)))) u (vps mvars++fps (mmeths.take (j+1))).length (pC (vps mvars++fps (mmeths.take (j+1))))):=fun W v u h=>by
      rw[HS.out,nC_snoc,pC_snoc,List.length_append];exact h
     clear hL HJ c0 c2
     go_wp2
     go_region_held3 (fun W=>W.cell? ⟨w.heap.size,2,none⟩=some (.slice (some ⟨kb,koff,none⟩) mmeths.length mmcap)∧W.cell? ⟨kb,koff+j*3,none⟩=some (.string nm)∧W.cell? ⟨kb,koff+j*3+2,none⟩=some (.int .i64 ps)) (first|exact HKN.out _ _ _ _ _ _ _ hNA.dr|exact HKN.out _ _ _ _ _ _ _ (hNA.dr.al _)|exact HKN.out _ _ _ _ _ _ _ ((hNA.al _).dr)|exact HKN.out _ _ _ _ _ _ _ ((hNA.dr.al _).al _)|exact HKN.out _ _ _ _ _ _ _ (((hNA.al _).al _).dr)|exact HKN.out _ _ _ _ _ _ _ hN1|exact HKN.out _ _ _ _ _ _ _ (hN1.al _)|exact HKN.out _ _ _ _ _ _ _ hN1.dr|exact HKN.out _ _ _ _ _ _ _ ((hN1.al _).dr)|exact HKN.out _ _ _ _ _ _ _ hN2|exact HKN.out _ _ _ _ _ _ _ hN2.dr|exact HKN.out _ _ _ _ _ _ _ hNA|exact HKN.out _ _ _ _ _ _ _ (hNA.al _)|exact HKN.out _ _ _ _ _ _ _ ((hNA.al _).al _)) (first|(refine step_append_lies _ (by rfl) _ _ 133 (by rfl) (w.heap.size+1) 9 i9 _ 1 16 Tryz.underlying133 hi9 hz9 hy9 hx9 rfl (by decide) u4 L.length (nC L) (by rfl) (NA.nm (W0:=W0) (u:=u5) (m:=L.length) (ys:=pC L) ?_) ⟨_,0,none⟩ 1 1 [.string nm] (by rfl) (by rfl) (World.news_of_block (cs:=#[.string nm]) (t:=9) (fr:=(0,0)) ?_) (by simp[Value.oneCell']) (by omega) (by unfold maxLen;omega) (by omega) ?_ _ rfl ?_;(repeat (first|exact hNA|with_reducible refine NA.al ?_ _|with_reducible refine NA.dr ?_));(first|exact heapAt9 _ (by simp)|exact (Below.heap_alloc _ _ _ (by simp)).trans (heapAt9 _ (by simp))|exact heapNew _ _);(have:=hNA.sz;(first|omega|(simp;done)|(simp;omega)));intro g1 gc1 w1 hown1 hg1 hat1 hlt1;have hN1:NA (w.heap.size+1) W0 w1 (.slice (some ⟨g1,0,none⟩) (L.length+1) gc1) (L.length+1) (nC L++[.string nm]) u5 L.length (pC L):=(by refine NA.app1 (v:=u4) (n:=L.length) (xs:=nC L) ?_ hown1 hg1;(repeat (first|exact hNA|with_reducible refine NA.al ?_ _|with_reducible refine NA.dr ?_))))|(refine step_append_lies _ (by rfl) _ _ 134 (by rfl) (w.heap.size+1) 3 i3 _ 1 8 Tryz.underlying134 hi3 hz3 hy3 hx3 rfl (by decide) u5 L.length (pC L) (by rfl) (NA.ps (W0:=W0) (v:=.slice (some ⟨g1,0,none⟩) (L.length+1) gc1) (n:=L.length+1) (xs:=nC L++[.string nm]) ?_) ⟨_,0,none⟩ 1 1 [.int .i64 ps] (by rfl) (by rfl) (World.news_of_block (cs:=#[.int .i64 ps]) (t:=3) (fr:=(0,0)) ?_) (by simp[Value.oneCell']) (by omega) (by unfold maxLen;omega) (by omega) ?_ _ rfl ?_;(repeat (first|exact hN1|with_reducible refine NA.al ?_ _|with_reducible refine NA.dr ?_));(first|exact heapAt9 _ (by simp)|exact heapNew _ _|(refine (hg1.block _ (by simp <;> omega) ?_).trans ?_;(intro e;have:=(hNA.nm.lt _ e.symm).2;first|(simp at this;done)|omega);first|exact heapAt9 _ (by simp)|exact (Below.heap_alloc _ _ _ (by simp)).trans (heapAt9 _ (by simp))|exact heapNew _ _));(have:=hN1.sz;(first|omega|(simp;done)|(simp;omega)));intro g2 gc2 w2 hown2 hg2 hat2 hlt2;have hN2:NA (w.heap.size+1) W0 w2 (.slice (some ⟨g1,0,none⟩) (L.length+1) gc1) (L.length+1) (nC L++[.string nm]) (.slice (some ⟨g2,0,none⟩) (L.length+1) gc2) (L.length+1) (pC L++[.int .i64 ps]):=(by refine NA.app2 (u:=u5) (m:=L.length) (ys:=pC L) ?_ hown2 hg2;(repeat (first|exact hN1|with_reducible refine NA.al ?_ _|with_reducible refine NA.dr ?_)))))
     all_goals go_wp2
     all_goals go_roundw
     all_goals first
      | exact⟨j+1,by omega,by go_num,HJ3,HFIN.out _ _ _ hN2⟩
      | (simp[intOf];omega)
    ·have hjd2:decide ((j:Int)<(mmeths.length:Int))=false:=by simp;omega
     obtain⟨LA,hLA⟩:∃ LA,vps mvars++fps mmeths=LA:=⟨_,rfl⟩
     have hNL:NA (w.heap.size+1) W0 wr u4 LA.length (nC LA) u5 LA.length (pC LA):=by
      rw[List.take_of_length_le (show mmeths.length≤j by omega),hLA] at hNA;exact hNA
     have hLl:LA.length≤2000:=by
      have:=HJ.out
      rw[List.take_of_length_le (show mmeths.length≤j by omega),hLA] at this
      omega
     rw[hLA] at HU
     clear hLA hNA HJ
     obtain⟨na,hna⟩:∃ na,u4=na:=⟨_,rfl⟩
     obtain⟨pa,hpa⟩:∃ pa,u5=pa:=⟨_,rfl⟩
     obtain⟨ad4,cp4,e4⟩:∃ ad cp,u4=.slice ad LA.length cp:=by
      rcases hNL.nm.2 with ⟨h1,h2⟩|⟨g,cp,_,h1,_⟩
      ·exact⟨none,0,by rw[h1,h2]⟩
      ·exact⟨_,cp,h1⟩
     obtain⟨ad5,cp5,e5⟩:∃ ad cp,u5=.slice ad LA.length cp:=by
      rcases hNL.ps.2 with ⟨h1,h2⟩|⟨g,cp,_,h1,_⟩
      ·exact⟨none,0,by rw[h1,h2]⟩
      ·exact⟨_,cp,h1⟩
     subst e4 e5
     clear hna hpa
     go_wp2
     go_loopw [8] (fun i wr=>∃ j:Nat,j≤LA.length∧i=.int .i64 j∧Hid (dupN [] LA=dupN ((LA.take j).map Prod.fst) (LA.drop j))∧NA (w.heap.size+1) W0 wr (.slice ad4 LA.length cp4) LA.length (nC LA) (.slice ad5 LA.length cp5) LA.length (pC LA))
      (fun i _=>LA.length-(intOf i).toNat)
     case atStart=>exact⟨0,by omega,rfl,rfl,hNL⟩
     case round =>
      clear hNL
      obtain⟨wo,hwo⟩:∃ wo:World,wo=wr:=⟨_,rfl⟩
      subst hwo
      obtain⟨j,hj,rfl,HQ,hNL⟩:=hrel
      have hzo:=hNL.sz
      have hbO:Below w.heap.size w wo:=hB.trans (hNL.bl.mono (by omega))
      by_cases hlt3:j<LA.length
      ·have hji:(j:Int)<(LA.length:Int):=by omega
       have HD:=hid (dupN_drop LA j hlt3 ((LA.take j).map Prod.fst))
       have HSN:=hid (fst_snoc LA j hlt3)
       have HHIT:=fun k (hk:k<j) (h:(LA[k]'(by omega)).1=LA[j].1)=>hasN_hit LA j k hlt3 hk h
       have HMISS:=hid (hasN_miss LA j hlt3)
       obtain⟨x,hx⟩:∃ x,LA[j]=x:=⟨_,rfl⟩
       go_wp2
       go_loopw [9] (fun i wr=>∃ k:Nat,k≤j∧i=.int .i64 k∧Hid (∀ k' (hk':k'<LA.length),k'<k→¬ LA[k'].1=LA[j].1)∧NA (w.heap.size+1) W0 wr (.slice ad4 LA.length cp4) LA.length (nC LA) (.slice ad5 LA.length cp5) LA.length (pC LA))
        (fun i _=>j-(intOf i).toNat)
       case atStart=>exact⟨0,by omega,rfl,(fun _ _ h=>by omega),hNL⟩
       case round =>
        obtain⟨k,hk,rfl,HQ2,hNK⟩:=hrel
        have hzk:=hNK.sz
        have hbK:Below w.heap.size w wr:=hB.trans (hNK.bl.mono (by omega))
        by_cases hlt4:k<j
        ·have hki:(k:Int)<(LA.length:Int):=by omega
         have hki2:(k:Int)<(j:Int):=by omega
         obtain⟨g4,c4,e4,-,hg4,hn4,hm4,hc4⟩:=own_at hNK.nm (by omega)
         obtain⟨g5,c5,e5,-,hg5,hn5,hm5,hc5⟩:=own_at hNK.ps (by omega)
         unfold maxLen at hm4 hm5
         have a0:=hc4 k _ (nC_at LA k (by omega))
         have a1:=hc4 j _ (nC_at LA j hlt3)
         have a2:=hc5 j _ (pC_at LA j hlt3)
         cases e4
         cases e5
         have HH:Hid ((LA[k]'(by omega)).1=LA[j].1→dupN [] LA=some LA[j].2):=fun h=>by rw[HQ.out,HD.out,if_pos (HHIT k hlt4 h)]
         have HN2:Hid (¬ (LA[k]'(by omega)).1=LA[j].1→∀ k' (hk':k'<LA.length),k'<k+1→¬ LA[k'].1=LA[j].1):=fun h k' hk' h2=>by
          by_cases e:k'=k
          ·subst e;exact h
          ·exact HQ2.out k' hk' (by omega)
         obtain⟨n1,hn1⟩:∃ n1,(LA[k]'(by omega)).1=n1:=⟨_,rfl⟩
         obtain⟨n2,hn2⟩:∃ n2,LA[j].1=n2:=⟨_,rfl⟩
         obtain⟨ps,hps⟩:∃ ps,LA[j].2=ps:=⟨_,rfl⟩
         rw[hn1] at a0
         rw[hn2] at a1
         rw[hps] at a2
         have HH2:Hid (n1=n2→dupN [] LA=some ps):=fun h=>by rw[← hps];exact HH.out (by rw[hn1,hn2];exact h)
         have HN3:Hid (¬ n1=n2→∀ k' (hk':k'<LA.length),k'<k+1→¬ LA[k'].1=LA[j].1):=fun h=>HN2.out (by rw[hn1,hn2];exact h)
         clear HH HN2 hn1 hn2 hps hc4 hc5 HHIT
         by_cases hd:n1=n2
         ·have HE:=hid (HH2.out hd)
          subst hd
          clear HH2 HN3
          go_wp2
          go_quiet (fail)
          go_wp2
          go_quiet (fail)
          go_wp2
          go_ret2
          exact errBack_yes (by rw[HU.out];exact HE.out) (below_drewN (below_drewN hbK _) _)
         ·have hs1:=str_ne hd
          have hs2:(n1.toList==n2.toList)=false:=by rw[beq_eq_false_iff_ne];exact hs1
          have HE:=hid (HN3.out hd)
          clear hd HH2 HN3
          go_wp2
          go_quiet (fail)
          go_wp2
          go_roundw
          case rel=>exact⟨k+1,by omega,by go_num,HE,hNK.drN _⟩
          case measure=>simp[intOf];omega
        ·have hkd:decide ((k:Int)<(j:Int))=false:=by simp;omega
         have HE:Hid (dupN [] LA=dupN ((LA.take (j+1)).map Prod.fst) (LA.drop (j+1))):=by
          show _=_
          rw[HQ.out,HD.out,if_neg (HMISS.out (fun k' hk' h=>HQ2.out k' hk' (by omega))),HSN.out]
         go_wp2
         go_roundw
         case rel=>exact⟨j+1,by omega,by go_num,HE,hNK⟩
         case measure=>simp[intOf];omega
      ·have hjd3:decide ((j:Int)<(LA.length:Int))=false:=by simp;omega
       go_wp2
       go_ret2
       exact errBack_no (by rw[HU.out,HQ.out,List.drop_of_length_le (by omega)];rfl) hbO
end Go.Proofs.YtpbjikncobnkjaaGreatDoor
