/-
  Own texts joined by program: ClY RtC.
-/
import Derived.Test.YtfkabkbnfeiggaaGreatDoorQat
namespace Go.Proofs.YtfkabkbnfeiggaaGreatDoor
open Go.RowKit
mutual
def St.cv (f:Ref→Nat):St→Nat
 | .mk kind mon name _ _ _ _ blocks _=>(if kind=8 then f (mon,name) else 0)+Bl.cvL f blocks
def Bl.cv (f:Ref→Nat):Bl→Nat
 | .mk _ _ body=>St.cvG f body 0
def St.cvG (f:Ref→Nat):List St→Nat→Nat
 | [],n=>n
 | s::l,n=>if n≤400 then St.cvG f l (n+1+s.cv f) else n
def Bl.cvL (f:Ref→Nat):List Bl→Nat
 | []=>0
 | b::l=>b.cv f+Bl.cvL f l
end
mutual
def St.cost:St→Nat
 | .mk _ _ _ _ e _ _ blocks _=>1+e.subs.length+Bl.costL blocks
def Bl.cost:Bl→Nat
 | .mk _ _ body=>St.costL body
def St.costL:List St→Nat
 | []=>0
 | s::l=>s.cost+St.costL l
def Bl.costL:List Bl→Nat
 | []=>0
 | b::l=>1+b.cost+Bl.costL l
end
theorem Ex.subs_pos (e:Ex):1≤e.subs.length:=by
 rcases e with ⟨a,b,c,d,e,f,g,h⟩
 rw[Ex.subs_mk];simp
theorem cv_value {Z:List (Ref × Nat)} {f:Ref→Nat} (x:Bl):(∀ s∈x.subs,s.kind=8→1+min 401 (f s.ref)=szGet Z s.ref)→min 401 (x.cv f)=min 401 (tot Z x):=
 Bl.ind (P:=fun s=>(∀ t∈s.subs,t.kind=8→1+min 401 (f t.ref)=szGet Z t.ref)→min 401 (1+s.cv f)=min 401 (sumOf Z s.subs)) (Q:=fun b=>(∀ t∈b.subs,t.kind=8→1+min 401 (f t.ref)=szGet Z t.ref)→min 401 (b.cv f)=min 401 (tot Z b))
  (fun kind mon name n e ad cap blocks pos ih h=>by
   rw[sumOf_st,St.cv]
   have h1:min 401 (1+if kind=8 then f (mon,name) else 0)=min 401 (sown Z (St.mk kind mon name n e ad cap blocks pos)):=by
    unfold sown
    by_cases hk:kind=8
    ·have h2:=h _ (subs_self _) hk
     have h3:(St.mk kind mon name n e ad cap blocks pos).ref=(mon,name):=rfl
     rw[h3] at h2
     rw[if_pos hk,if_pos (show (St.mk kind mon name n e ad cap blocks pos).kind=8 from hk),h3,← h2]
     omega
    ·rw[if_neg hk,if_neg (show ¬ (St.mk kind mon name n e ad cap blocks pos).kind=8 from hk)]
   have h4:∀ l:List Bl,(∀ b∈l,min 401 (b.cv f)=min 401 (tot Z b))→min 401 (Bl.cvL f l)=min 401 (sumOf Z (l.flatMap Bl.subs)):=by
    intro l
    induction l with
    | nil=>intro _;rfl
    | cons b l ihl =>
     intro hl
     have h5:=ihl (fun x hx=>hl x (by simp[hx]))
     have h6:=hl b (by simp)
     rw[Bl.cvL,List.flatMap_cons,sumOf_append]
     unfold tot at h6
     omega
   have h7:=h4 blocks (fun b hb=>ih b hb fun t ht=>h t (subs_block (s:=St.mk kind mon name n e ad cap blocks pos) hb t ht))
   omega)
  (fun ad cap body ih h=>by
   have h1:∀ (l:List St),(∀ s∈l,min 401 (1+s.cv f)=min 401 (sumOf Z s.subs))→∀ n,min 401 (St.cvG f l n)=min 401 (n+sumOf Z (l.flatMap St.subs)):=by
    intro l
    induction l with
    | nil=>intro _ n;rw[St.cvG];simp[sumOf]
    | cons s l ihl =>
     intro hl n
     have h5:=ihl (fun x hx=>hl x (by simp[hx])) (n+1+s.cv f)
     have h6:=hl s (by simp)
     rw[St.cvG,List.flatMap_cons,sumOf_append]
     split
     ·omega
     ·omega
   have h2:=h1 body (fun s hs=>ih s hs fun t ht=>h t (by rw[Bl.subs_mk];exact List.mem_flatMap.2 ⟨s,hs,ht⟩)) 0
   rw[Bl.cv,tot,Bl.subs_mk]
   omega) x
theorem cv_bound {f:Ref→Nat} {M:Nat} (x:Bl):(∀ s∈x.subs,s.kind=8→s.blocks=[]∧f s.ref≤M)→∃ nb k,x.cv f≤401*nb+M*k∧nb≤x.cost∧3*k≤x.cost+1∧(k≤1∨3*k+2≤x.cost):=
 Bl.ind (P:=fun s=>(∀ t∈s.subs,t.kind=8→t.blocks=[]∧f t.ref≤M)→∃ nb k,s.cv f≤401*nb+M*k∧nb+2≤s.cost∧3*k≤s.cost+1∧(k≤1∨3*k+2≤s.cost)) (Q:=fun b=>(∀ t∈b.subs,t.kind=8→t.blocks=[]∧f t.ref≤M)→∃ nb k,b.cv f≤401*nb+M*k∧nb≤b.cost∧3*k≤b.cost+1∧(k≤1∨3*k+2≤b.cost))
  (fun kind mon name n e ad cap blocks pos ih h=>by
   have he:=Ex.subs_pos e
   rw[St.cv,St.cost]
   by_cases hk:kind=8
   ·obtain⟨h1,h2⟩:=h _ (subs_self _) hk
    have h1:blocks=[]:=h1
    have h2:f (mon,name)≤M:=h2
    subst h1
    rw[if_pos hk,Bl.cvL,Bl.costL]
    exact⟨0,1,by omega,by omega,by omega,.inl (Nat.le_refl _)⟩
   ·have h4:∀ l:List Bl,(∀ b∈l,∃ nb k,b.cv f≤401*nb+M*k∧nb≤b.cost∧3*k≤b.cost+1∧(k≤1∨3*k+2≤b.cost))→∃ nb k,Bl.cvL f l≤401*nb+M*k∧nb≤Bl.costL l∧3*k≤Bl.costL l:=by
     intro l
     induction l with
     | nil=>intro _;exact⟨0,0,by rw[Bl.cvL];omega,by omega,by omega⟩
     | cons b l ihl =>
      intro hl
      obtain⟨nb,k,g1,g2,g3⟩:=ihl (fun x hx=>hl x (by simp[hx]))
      obtain⟨nb',k',f1,f2,f3,-⟩:=hl b (by simp)
      refine⟨nb+nb',k+k',?_,?_,?_⟩
      ·rw[Bl.cvL,Nat.mul_add,Nat.mul_add];omega
      ·rw[Bl.costL];omega
      ·rw[Bl.costL];omega
    obtain⟨nb,k,g1,g2,g3⟩:=h4 blocks (fun b hb=>ih b hb fun t ht=>h t (subs_block (s:=St.mk kind mon name n e ad cap blocks pos) hb t ht))
    rw[if_neg hk]
    exact⟨nb,k,by omega,by omega,by omega,.inr (by omega)⟩)
  (fun ad cap body ih h=>by
   have h1:∀ (l:List St),(∀ s∈l,∃ nb k,s.cv f≤401*nb+M*k∧nb+2≤s.cost∧3*k≤s.cost+1∧(k≤1∨3*k+2≤s.cost))→∀ n,∃ nb k,(St.cvG f l n≤n∨St.cvG f l n≤401*nb+M*k)∧nb≤St.costL l∧3*k≤St.costL l+1∧(k≤1∨3*k+2≤St.costL l):=by
    intro l
    induction l with
    | nil=>intro _ n;exact⟨0,0,.inl (by rw[St.cvG];omega),by omega,by omega,.inl (by omega)⟩
    | cons s l ihl =>
     intro hl n
     obtain⟨nb,k,g1,g2,g3,g4⟩:=ihl (fun x hx=>hl x (by simp[hx])) (n+1+s.cv f)
     obtain⟨nb',k',f1,f2,f3,f4⟩:=hl s (by simp)
     rw[St.cvG,St.costL]
     by_cases hn:n≤400
     ·rw[if_pos hn]
      rcases g1 with g1|g1
      ·refine⟨nb'+1,k',.inr (by rw[Nat.mul_add];omega),by omega,by omega,?_⟩
       rcases f4 with f4|f4
       ·exact .inl f4
       ·exact .inr (by omega)
      ·refine⟨nb,k,.inr g1,by omega,by omega,?_⟩
       rcases g4 with g4|g4
       ·exact .inl g4
       ·exact .inr (by omega)
     ·rw[if_neg hn]
      exact⟨0,0,.inl (Nat.le_refl _),by omega,by omega,.inl (by omega)⟩
   obtain⟨nb,k,g1,g2,g3,g4⟩:=h1 body (fun s hs=>ih s hs fun t ht=>h t (by rw[Bl.subs_mk];exact List.mem_flatMap.2 ⟨s,hs,ht⟩)) 0
   rw[Bl.cv,Bl.cost]
   exact⟨nb,k,by rcases g1 with g1|g1 <;> omega,g2,g3,g4⟩) x
theorem pow_le (c:Nat):19 ^ c≤21 ^ c:=Nat.pow_le_pow_left (by omega) c
theorem grow_a (c:Nat):(401*c+4000)*19 ^ c≤4000*21 ^ c:=by
 induction c with
 | zero=>simp
 | succ c ih =>
  have h:=pow_le c
  rw[Nat.pow_succ,Nat.pow_succ]
  generalize 19 ^ c=a at ih h ⊢
  generalize 21 ^ c=b at ih h ⊢
  have h1:(401*(c+1)+4000)*(a*19)=19*((401*c+4000)*a)+7619*a:=by
   rw[Nat.mul_add 401 c 1]
   simp only[Nat.add_mul,Nat.mul_add,Nat.mul_one]
   have:401*c*(a*19)=19*(401*c*a):=by rw[Nat.mul_comm a 19,Nat.mul_left_comm]
   omega
  omega
theorem grow_k (k:Nat) (hk:3≤k):k*19 ^ (3*k+2)≤21 ^ (3*k+2):=by
 induction k with
 | zero=>omega
 | succ k ih =>
  by_cases h3:k=2
  ·subst h3;decide
  ·have ih:=ih (by omega)
   have e:3*(k+1)+2=(3*k+2)+3:=by omega
   rw[e,Nat.pow_add 19 (3*k+2) 3,Nat.pow_add 21 (3*k+2) 3]
   generalize 19 ^ (3*k+2)=a at ih ⊢
   generalize 21 ^ (3*k+2)=b at ih ⊢
   have h1:(k+1)*(a*19 ^ 3)=6859*(k*a)+6859*a:=by
    rw[Nat.add_mul,Nat.one_mul]
    have:k*(a*19 ^ 3)=6859*(k*a):=by rw[← Nat.mul_assoc,Nat.mul_comm]
    omega
   have h2:3*a≤k*a:=Nat.mul_le_mul_right a (by omega)
   rw[h1]
   have:b*21 ^ 3=9261*b:=by omega
   omega
theorem grow_c {c k:Nat} (h:k≤1∨3*k+2≤c):k*19 ^ c≤21 ^ c:=by
 by_cases hk1:k≤1
 ·have:=pow_le c
  rcases Nat.le_one_iff_eq_zero_or_eq_one.1 hk1 with rfl|rfl
  ·rw[Nat.zero_mul];exact Nat.zero_le _
  ·rw[Nat.one_mul];exact this
 ·have h:3*k+2≤c:=by omega
  obtain⟨d,rfl⟩:=Nat.le.dest h
  have h1:k*19 ^ (3*k+2)≤21 ^ (3*k+2):=by
   by_cases hk2:k=2
   ·subst hk2;decide
   ·exact grow_k k (by omega)
  rw[Nat.pow_add 19 (3*k+2) d,Nat.pow_add 21 (3*k+2) d,← Nat.mul_assoc]
  exact Nat.mul_le_mul h1 (pow_le d)
theorem grow {V M c nb k:Nat} (hV:V≤401*nb+M*k) (hn:nb≤c) (hk:k≤1∨3*k+2≤c):(V+4000)*19 ^ c≤(M+4000)*21 ^ c:=by
 have h1:=grow_a c
 have h2:=Nat.mul_le_mul_left M (grow_c hk)
 have h3:(V+4000)*19 ^ c≤(401*c+4000)*19 ^ c+M*(k*19 ^ c):=by
  rw[← Nat.mul_assoc,← Nat.add_mul]
  refine Nat.mul_le_mul_right _ ?_
  have:401*nb≤401*c:=Nat.mul_le_mul_left _ hn
  omega
 rw[Nat.add_mul M 4000]
 omega
open Go.RowKit
def Bl.co1 (b:Bl):Nat:=1+b.cost
theorem costL_eq (l:List Bl):Bl.costL l=(l.map Bl.co1).sum:=by
 induction l with
 | nil=>rw[Bl.costL];rfl
 | cons b l ih=>rw[Bl.costL,ih,List.map_cons,List.sum_cons,Bl.co1]
theorem costS_eq (l:List St):St.costL l=(l.map St.cost).sum:=by
 induction l with
 | nil=>rw[St.costL];rfl
 | cons s l ih=>rw[St.costL,ih,List.map_cons,List.sum_cons]
theorem St.cost_mk (kind:Int) (mon name:ByteArray) (n:Int) (e:Ex) (ad:Option Addr) (cap:Nat) (blocks:List Bl) (pos:Int):(St.mk kind mon name n e ad cap blocks pos).cost=1+e.subs.length+(blocks.map Bl.co1).sum:=by
 rw[St.cost,costL_eq]
theorem Bl.cost_mk (ad:Option Addr) (cap:Nat) (body:List St):(Bl.mk ad cap body).cost=(body.map St.cost).sum:=by
 rw[Bl.cost,costS_eq]
theorem sum_le_map {α:Type} (f g:α→Nat) (l:List α) (h:∀ x∈l,f x≤g x):(l.map f).sum≤(l.map g).sum:=by
 induction l with
 | nil=>exact Nat.le_refl _
 | cons x l ih =>
  rw[List.map_cons,List.sum_cons,List.map_cons,List.sum_cons]
  have h1:=h x (by simp)
  have h2:=ih (fun y hy=>h y (by simp[hy]))
  omega
theorem sz_cost (b:Bl):b.sz≤b.cost:=
 Bl.ind (P:=fun s=>s.tot≤s.cost) (Q:=fun b=>b.sz≤b.cost) (fun kind mon name n e ad cap blocks pos ih=>by
  rw[St.tot_mk,St.cost_mk]
  have h1:=sum_le_map Bl.sz Bl.co1 blocks (fun b hb=>by have:=ih b hb;unfold Bl.co1;omega)
  split <;> omega)
  (fun ad cap body ih=>by
   rw[Bl.sz_mk,Bl.cost_mk]
   exact sum_le_map St.tot St.cost body (fun s hs=>ih s hs)) b
set_option maxRecDepth 100000 in
set_option maxHeartbeats 8000000 in
theorem restc_step (n₀:Nat) (ad:Option Addr) (cap:Nat) (body:List St)
  (ih:∀ s∈body,∀ b∈s.blocks,∀ (n:Int) (w:World),-1≤n→n≤1000→n₀≤w.heap.size→b.Is n₀ w→Calls Tryz.prog 9 #[b.slice,.int .i64 n] w fun r w'=>∃ c:Int,r=.returned (.int .i64 c)∧-1≤c∧c≤n∧Hid (0≤c→(b.cost:Int)≤n-c)∧Below w.heap.size w w')
  (n:Int) (w:World) (hn0:-1≤n) (hn1:n≤1000) (hn:n₀≤w.heap.size) (hI:(Bl.mk ad cap body).Is n₀ w) :
  Calls Tryz.prog 9 #[.slice ad body.length cap,.int .i64 n] w fun r w'=>∃ c:Int,r=.returned (.int .i64 c)∧-1≤c∧c≤n∧Hid (0≤c→((Bl.mk ad cap body).cost:Int)≤n-c)∧Below w.heap.size w w':=by
 have HR:=hid (Bl.cost_mk ad cap body)
 have hd:=hI.down
 have hl1:=hd.1.1;have hl2:=hd.1.2.1
 unfold maxLen at hl2
 by_cases h0:n<(body.length:Int)
 ·go_enter Tryz.func9,Tryz.ntmps9
  go_wp2
  go_ret
  exact⟨-1,rfl,by omega,by omega,fun h=>by omega,Below.refl _ _⟩
 have h0':(body.length:Int)≤n:=by omega
 go_enter Tryz.func9,Tryz.ntmps9
 go_wp2
 go_loopw [1,5] (fun v i wr=>∃ (j:Nat) (c:Int),j≤body.length∧v=.int .i64 c∧i=.int .i64 j∧-1≤c∧c≤n∧Hid (0≤c→(((body.take j).map St.cost).sum:Int)≤n-c)∧Below w.heap.size w wr)
  (fun _ i _=>body.length-(intOf i).toNat)
 case atStart=>exact⟨0,n,by omega,rfl,rfl,by omega,by omega,fun _=>by simp,Below.refl _ _⟩
 case round =>
  obtain⟨wo,hwo⟩:∃ wo:World,wo=wr:=⟨_,rfl⟩
  subst hwo
  obtain⟨j,c,hj,rfl,rfl,hc0,hc1,HA,hbw⟩:=hrel
  have hz:=hbw.size
  by_cases hlt:j<body.length
  ·by_cases hcp:0≤c
   ·rcases hd.1.2.2 with h|⟨b,off,rfl,hbn,hrow⟩
    ·subst h;simp at hlt
    have hb0:=hbw.mono hn
    have hbn2:b<wo.heap.size:=by omega
    have hr:=hrow.below hb0 hbn
    have hIj:=(hd.2 _ (List.getElem_mem hlt)).below hb0
    have hih:=ih _ (List.getElem_mem hlt)
    have HS:=hid (sum_snoc St.cost body j hlt)
    clear ih
    rcases he':body[j] with ⟨kind,mon,name,k,e,ad',cap',blocks,pos⟩
    rcases hee:e with ⟨eop,emon,ename,en,ead,ecap,ekids,epos⟩
    obtain⟨c0,c1,c2,c3,c4,c5,c6,c7,c8,c9,c10,c11⟩:=row12 hr j hlt (by rw[he',hee];rfl)
    rw[he'] at hIj hih HS
    have hIs:=hIj.down
    have hsm:=hIs.1.2.2.2.1;have hsn:=hIs.1.2.2.2.2
    unfold Len at hsm hsn
    have hlb1:=hIs.2.2.1.1;have hlb2:=hIs.2.2.1.2.1
    unfold maxLen at hlb2
    clear he' hIj
    have hih:∀ b∈blocks,∀ (n:Int) (w:World),-1≤n→n≤1000→n₀≤w.heap.size→b.Is n₀ w→Calls Tryz.prog 9 #[b.slice,.int .i64 n] w fun r w'=>∃ c:Int,r=.returned (.int .i64 c)∧-1≤c∧c≤n∧Hid (0≤c→(b.cost:Int)≤n-c)∧Below w.heap.size w w':=hih
    by_cases x1:200<mon.size
    ·have x1':(200:Int)<(mon.size:Int):=by omega
     go_wp2
     go_ret
     exact⟨-1,rfl,by omega,by omega,fun h=>by omega,hbw⟩
    by_cases x2:200<name.size
    ·have x1':(mon.size:Int)≤200:=by omega
     have x2':(200:Int)<(name.size:Int):=by omega
     go_wp2
     go_ret
     exact⟨-1,rfl,by omega,by omega,fun h=>by omega,hbw⟩
    by_cases x3:40<blocks.length
    ·have x1':(mon.size:Int)≤200:=by omega
     have x2':(name.size:Int)≤200:=by omega
     have x3':(40:Int)<(blocks.length:Int):=by omega
     go_wp2
     go_ret
     exact⟨-1,rfl,by omega,by omega,fun h=>by omega,hbw⟩
    have x1':(mon.size:Int)≤200:=by omega
    have x2':(name.size:Int)≤200:=by omega
    have x3':(blocks.length:Int)≤40:=by omega
    have HT:=hid (St.cost_mk kind mon name k e ad' cap' blocks pos)
    have h12:=restExpr_any n₀ e (c-1) wo (by omega) (by omega) (by omega) hIs.2.1
    have HRC:=hid (rest_count e (c-1))
    have hrb:-1≤restE e (c-1)∧restE e (c-1)≤c-1:=by
     by_cases hc3:0≤c-1
     ·exact rest_bounds e (c-1) hc3
     ·rcases e with ⟨q1,q2,q3,q4,q5,q6,q7,q8⟩
      rw[restE_mk,if_pos (.inr (.inr (by omega)))]
      omega
    obtain⟨re,hre⟩:∃ re,restE e (c-1)=re:=⟨_,rfl⟩
    rw[hre] at h12 hrb HRC
    clear hre
    rw[hee] at h12
    simp only[Ex.val,Ex.cells] at h12
    go_wp2_with (go_at_call 14;refine h12.mono ?_;rintro r w2 ⟨rfl,bb2⟩)
    have hz2:=bb2.size
    clear c0 c1 c2 c3 c4 c5 c6 c7 c8 c9 h12
    go_loopw [1,6] (fun v i wr=>∃ (m:Nat) (d:Int),m≤blocks.length∧v=.int .i64 d∧i=.int .i64 m∧-1≤d∧d≤n∧Hid (0≤d→(((body.take j).map St.cost).sum:Int)+(1+(e.subs.length:Int))+(((blocks.take m).map Bl.co1).sum:Int)≤n-d)∧Below wo.heap.size wo wr)
     (fun _ i _=>blocks.length-(intOf i).toNat)
    case atStart =>
     refine⟨0,re,by omega,rfl,rfl,by omega,by omega,fun h=>?_,bb2⟩
     have h1:=HRC.out h
     have h2:=HA.out hcp
     simp only[List.take_zero,List.map_nil,List.sum_nil]
     omega
    case round =>
     obtain⟨m,d',hm,rfl,rfl,hd0,hd1,HM,hbm⟩:=hrel
     have hzm:=hbm.size
     have c10':wr.cell? ⟨b,off+j*12+10,none⟩=some (.slice ad' blocks.length cap'):=(hbm.cell (p:=⟨b,off+j*12+10,none⟩) hbn2).trans c10
     have hbn4:b<wr.heap.size:=by omega
     by_cases hlt2:m<blocks.length
     ·by_cases hdp:0≤d'
      ·rcases hIs.2.2.1.2.2 with h|⟨b3,off3,rfl,hbn3,hrow3⟩
       ·subst h;simp at hlt2
       have hB3:Below n₀ wo wr:=hbm.mono (by omega)
       have hr3:=hrow3.below hB3 hbn3
       have hb3l:b3<wr.heap.size:=by omega
       have hq:=hih blocks[m] (List.getElem_mem hlt2) (d' - 1) wr (by omega) (by omega) (by omega) ((hIs.2.2.2 _ (List.getElem_mem hlt2)).below hB3)
       have HS2:Hid (((blocks.take (m+1)).map Bl.co1).sum=((blocks.take m).map Bl.co1).sum+(1+blocks[m].cost)):=sum_snoc Bl.co1 blocks m hlt2
       obtain⟨bz,hbz⟩:∃ bz,blocks[m].cost=bz:=⟨_,rfl⟩
       rw[hbz] at hq HS2
       clear hbz
       rcases he2:blocks[m] with ⟨bad,bcap,bbody⟩
       have d0:=row1 hr3 m hlt2 (by rw[he2];rfl)
       simp only[he2,Bl.slice] at hq d0
       clear he2
       go_wp2_with (go_at_call 9;refine hq.mono ?_;rintro r w5 ⟨c5,rfl,hy0,hy1,HZ,bb5⟩)
       go_roundw
       case rel =>
        refine⟨m+1,c5,by omega,rfl,by go_num,by omega,by omega,fun h=>?_,hbm.tr le_rfl' bb5⟩
        have h1:=HZ.out h
        have h2:=HM.out hdp
        rw[HS2.out]
        omega
       case measure=>simp[intOf];omega
      ·have hdd:decide (0≤d')=false:=by simp;omega
       go_wp2
       go_roundw
       case rel=>exact⟨j+1,d',by omega,rfl,by go_num,by omega,by omega,fun h=>by have h':0≤d':=h;omega,hbw.tr le_rfl' hbm⟩
       case measure=>simp[intOf];omega
     ·have hmb:m=blocks.length:=by omega
      have hmd:decide ((m:Int)<(blocks.length:Int))=false:=by simp;omega
      go_wp2
      go_roundw
      case rel =>
       refine⟨j+1,d',by omega,rfl,by go_num,by omega,by omega,fun h=>?_,hbw.tr le_rfl' hbm⟩
       have h2:=HM.out h
       have h3:=HT.out
       rw[hmb,List.take_length] at h2
       rw[HS.out]
       omega
      case measure=>simp[intOf];omega
   ·have hcd:decide (0≤c)=false:=by simp;omega
    go_wp2
    go_ret
    exact⟨c,rfl,by omega,by omega,fun h=>by have h':0≤c:=h;omega,hbw⟩
  ·have hjb:j=body.length:=by omega
   have hjd:decide ((j:Int)<(body.length:Int))=false:=by simp;omega
   go_wp2
   go_ret
   refine⟨c,rfl,by omega,by omega,fun h=>?_,hbw⟩
   have h1:=HA.out h
   rw[hjb,List.take_length] at h1
   rw[HR.out]
   exact h1
theorem restc_any (n₀:Nat) (b:Bl):∀ (n:Int) (w:World),-1≤n→n≤1000→n₀≤w.heap.size→b.Is n₀ w→Calls Tryz.prog 9 #[b.slice,.int .i64 n] w fun r w'=>∃ c:Int,r=.returned (.int .i64 c)∧-1≤c∧c≤n∧Hid (0≤c→(b.cost:Int)≤n-c)∧Below w.heap.size w w':=
 Bl.ind (P:=fun s=>∀ b∈s.blocks,∀ (n:Int) (w:World),-1≤n→n≤1000→n₀≤w.heap.size→b.Is n₀ w→Calls Tryz.prog 9 #[b.slice,.int .i64 n] w fun r w'=>∃ c:Int,r=.returned (.int .i64 c)∧-1≤c∧c≤n∧Hid (0≤c→(b.cost:Int)≤n-c)∧Below w.heap.size w w')
  (Q:=fun b=>∀ (n:Int) (w:World),-1≤n→n≤1000→n₀≤w.heap.size→b.Is n₀ w→Calls Tryz.prog 9 #[b.slice,.int .i64 n] w fun r w'=>∃ c:Int,r=.returned (.int .i64 c)∧-1≤c∧c≤n∧Hid (0≤c→(b.cost:Int)≤n-c)∧Below w.heap.size w w')
  (fun _ _ _ _ _ _ _ _ _ ih b hb=>ih b hb) (fun ad cap body ih n w h1 h2 h3 h4=>restc_step n₀ ad cap body ih n w h1 h2 h3 h4) b
end Go.Proofs.YtfkabkbnfeiggaaGreatDoor
