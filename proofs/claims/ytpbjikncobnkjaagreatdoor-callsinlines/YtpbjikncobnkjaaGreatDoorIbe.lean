/-
  Own texts joined by program: ClY RtC SmC.
-/
import Derived.Test.YtpbjikncobnkjaaGreatDoorIba
namespace Go.Proofs.YtpbjikncobnkjaaGreatDoor
open Go.RowKit
mutual
def St.cv (f:Ref→Nat):St→Nat
 | .mk kind mon name _ _ _ _ blocks _=>(if kind=8 then f (mon,name) else 0)+Bl.cvL f blocks
def Bl.cv (f:Ref→Nat):Bl→Nat
 | .mk _ _ body=>St.cvG f body 0
def St.cvG (f:Ref→Nat):List St→Nat→Nat
 | [],n=>n
 | s::l,n=>if n≤400 then St.cvG f l (n+1+s.cv f) else n
def Bl.cvL (f:Ref→Nat):List Bl→Nat
 | []=>0
 | b::l=>b.cv f+Bl.cvL f l
end
mutual
def St.cost:St→Nat
 | .mk _ _ _ _ e _ _ blocks _=>1+e.subs.length+Bl.costL blocks
def Bl.cost:Bl→Nat
 | .mk _ _ body=>St.costL body
def St.costL:List St→Nat
 | []=>0
 | s::l=>s.cost+St.costL l
def Bl.costL:List Bl→Nat
 | []=>0
 | b::l=>1+b.cost+Bl.costL l
end
theorem Ex.subs_pos (e:Ex):1≤e.subs.length:=by
 rcases e with ⟨a,b,c,d,e,f,g,h⟩
 rw[Ex.subs_mk];simp
theorem cv_value {Z:List (Ref × Nat)} {f:Ref→Nat} (x:Bl):(∀ s∈x.subs,s.kind=8→1+min 401 (f s.ref)=szGet Z s.ref)→min 401 (x.cv f)=min 401 (tot Z x):=
 Bl.ind (P:=fun s=>(∀ t∈s.subs,t.kind=8→1+min 401 (f t.ref)=szGet Z t.ref)→min 401 (1+s.cv f)=min 401 (sumOf Z s.subs)) (Q:=fun b=>(∀ t∈b.subs,t.kind=8→1+min 401 (f t.ref)=szGet Z t.ref)→min 401 (b.cv f)=min 401 (tot Z b))
  (fun kind mon name n e ad cap blocks pos ih h=>by
   rw[sumOf_st,St.cv]
   have h1:min 401 (1+if kind=8 then f (mon,name) else 0)=min 401 (sown Z (St.mk kind mon name n e ad cap blocks pos)):=by
    unfold sown
    by_cases hk:kind=8
    ·have h2:=h _ (subs_self _) hk
     have h3:(St.mk kind mon name n e ad cap blocks pos).ref=(mon,name):=rfl
     rw[h3] at h2
     rw[if_pos hk,if_pos (show (St.mk kind mon name n e ad cap blocks pos).kind=8 from hk),h3,← h2]
     omega
    ·rw[if_neg hk,if_neg (show ¬ (St.mk kind mon name n e ad cap blocks pos).kind=8 from hk)]
   have h4:∀ l:List Bl,(∀ b∈l,min 401 (b.cv f)=min 401 (tot Z b))→min 401 (Bl.cvL f l)=min 401 (sumOf Z (l.flatMap Bl.subs)):=by
    intro l
    induction l with
    | nil=>intro _;rfl
    | cons b l ihl =>
     intro hl
     have h5:=ihl (fun x hx=>hl x (by simp[hx]))
     have h6:=hl b (by simp)
     rw[Bl.cvL,List.flatMap_cons,sumOf_append]
     unfold tot at h6
     omega
   have h7:=h4 blocks (fun b hb=>ih b hb fun t ht=>h t (subs_block (s:=St.mk kind mon name n e ad cap blocks pos) hb t ht))
   omega)
  (fun ad cap body ih h=>by
   have h1:∀ (l:List St),(∀ s∈l,min 401 (1+s.cv f)=min 401 (sumOf Z s.subs))→∀ n,min 401 (St.cvG f l n)=min 401 (n+sumOf Z (l.flatMap St.subs)):=by
    intro l
    induction l with
    | nil=>intro _ n;rw[St.cvG];simp[sumOf]
    | cons s l ihl =>
     intro hl n
     have h5:=ihl (fun x hx=>hl x (by simp[hx])) (n+1+s.cv f)
     have h6:=hl s (by simp)
     rw[St.cvG,List.flatMap_cons,sumOf_append]
     split
     ·omega
     ·omega
   have h2:=h1 body (fun s hs=>ih s hs fun t ht=>h t (by rw[Bl.subs_mk];exact List.mem_flatMap.2 ⟨s,hs,ht⟩)) 0
   rw[Bl.cv,tot,Bl.subs_mk]
   omega) x
theorem cv_bound {f:Ref→Nat} {M:Nat} (x:Bl):(∀ s∈x.subs,s.kind=8→s.blocks=[]∧f s.ref≤M)→∃ nb k,x.cv f≤401*nb+M*k∧nb≤x.cost∧3*k≤x.cost+1∧(k≤1∨3*k+2≤x.cost):=
 Bl.ind (P:=fun s=>(∀ t∈s.subs,t.kind=8→t.blocks=[]∧f t.ref≤M)→∃ nb k,s.cv f≤401*nb+M*k∧nb+2≤s.cost∧3*k≤s.cost+1∧(k≤1∨3*k+2≤s.cost)) (Q:=fun b=>(∀ t∈b.subs,t.kind=8→t.blocks=[]∧f t.ref≤M)→∃ nb k,b.cv f≤401*nb+M*k∧nb≤b.cost∧3*k≤b.cost+1∧(k≤1∨3*k+2≤b.cost))
  (fun kind mon name n e ad cap blocks pos ih h=>by
   have he:=Ex.subs_pos e
   rw[St.cv,St.cost]
   by_cases hk:kind=8
   ·obtain⟨h1,h2⟩:=h _ (subs_self _) hk
    have h1:blocks=[]:=h1
    have h2:f (mon,name)≤M:=h2
    subst h1
    rw[if_pos hk,Bl.cvL,Bl.costL]
    exact⟨0,1,by omega,by omega,by omega,.inl (Nat.le_refl _)⟩
   ·have h4:∀ l:List Bl,(∀ b∈l,∃ nb k,b.cv f≤401*nb+M*k∧nb≤b.cost∧3*k≤b.cost+1∧(k≤1∨3*k+2≤b.cost))→∃ nb k,Bl.cvL f l≤401*nb+M*k∧nb≤Bl.costL l∧3*k≤Bl.costL l:=by
     intro l
     induction l with
     | nil=>intro _;exact⟨0,0,by rw[Bl.cvL];omega,by omega,by omega⟩
     | cons b l ihl =>
      intro hl
      obtain⟨nb,k,g1,g2,g3⟩:=ihl (fun x hx=>hl x (by simp[hx]))
      obtain⟨nb',k',f1,f2,f3,-⟩:=hl b (by simp)
      refine⟨nb+nb',k+k',?_,?_,?_⟩
      ·rw[Bl.cvL,Nat.mul_add,Nat.mul_add];omega
      ·rw[Bl.costL];omega
      ·rw[Bl.costL];omega
    obtain⟨nb,k,g1,g2,g3⟩:=h4 blocks (fun b hb=>ih b hb fun t ht=>h t (subs_block (s:=St.mk kind mon name n e ad cap blocks pos) hb t ht))
    rw[if_neg hk]
    exact⟨nb,k,by omega,by omega,by omega,.inr (by omega)⟩)
  (fun ad cap body ih h=>by
   have h1:∀ (l:List St),(∀ s∈l,∃ nb k,s.cv f≤401*nb+M*k∧nb+2≤s.cost∧3*k≤s.cost+1∧(k≤1∨3*k+2≤s.cost))→∀ n,∃ nb k,(St.cvG f l n≤n∨St.cvG f l n≤401*nb+M*k)∧nb≤St.costL l∧3*k≤St.costL l+1∧(k≤1∨3*k+2≤St.costL l):=by
    intro l
    induction l with
    | nil=>intro _ n;exact⟨0,0,.inl (by rw[St.cvG];omega),by omega,by omega,.inl (by omega)⟩
    | cons s l ihl =>
     intro hl n
     obtain⟨nb,k,g1,g2,g3,g4⟩:=ihl (fun x hx=>hl x (by simp[hx])) (n+1+s.cv f)
     obtain⟨nb',k',f1,f2,f3,f4⟩:=hl s (by simp)
     rw[St.cvG,St.costL]
     by_cases hn:n≤400
     ·rw[if_pos hn]
      rcases g1 with g1|g1
      ·refine⟨nb'+1,k',.inr (by rw[Nat.mul_add];omega),by omega,by omega,?_⟩
       rcases f4 with f4|f4
       ·exact .inl f4
       ·exact .inr (by omega)
      ·refine⟨nb,k,.inr g1,by omega,by omega,?_⟩
       rcases g4 with g4|g4
       ·exact .inl g4
       ·exact .inr (by omega)
     ·rw[if_neg hn]
      exact⟨0,0,.inl (Nat.le_refl _),by omega,by omega,.inl (by omega)⟩
   obtain⟨nb,k,g1,g2,g3,g4⟩:=h1 body (fun s hs=>ih s hs fun t ht=>h t (by rw[Bl.subs_mk];exact List.mem_flatMap.2 ⟨s,hs,ht⟩)) 0
   rw[Bl.cv,Bl.cost]
   exact⟨nb,k,by rcases g1 with g1|g1 <;> omega,g2,g3,g4⟩) x
theorem pow_le (c:Nat):19 ^ c≤21 ^ c:=Nat.pow_le_pow_left (by omega) c
theorem grow_a (c:Nat):(401*c+4000)*19 ^ c≤4000*21 ^ c:=by
 induction c with
 | zero=>simp
 | succ c ih =>
  have h:=pow_le c
  rw[Nat.pow_succ,Nat.pow_succ]
  generalize 19 ^ c=a at ih h ⊢
  generalize 21 ^ c=b at ih h ⊢
  have h1:(401*(c+1)+4000)*(a*19)=19*((401*c+4000)*a)+7619*a:=by
   rw[Nat.mul_add 401 c 1]
   simp only[Nat.add_mul,Nat.mul_add,Nat.mul_one]
   have:401*c*(a*19)=19*(401*c*a):=by rw[Nat.mul_comm a 19,Nat.mul_left_comm]
   omega
  omega
theorem grow_k (k:Nat) (hk:3≤k):k*19 ^ (3*k+2)≤21 ^ (3*k+2):=by
 induction k with
 | zero=>omega
 | succ k ih =>
  by_cases h3:k=2
  ·subst h3;decide
  ·have ih:=ih (by omega)
   have e:3*(k+1)+2=(3*k+2)+3:=by omega
   rw[e,Nat.pow_add 19 (3*k+2) 3,Nat.pow_add 21 (3*k+2) 3]
   generalize 19 ^ (3*k+2)=a at ih ⊢
   generalize 21 ^ (3*k+2)=b at ih ⊢
   have h1:(k+1)*(a*19 ^ 3)=6859*(k*a)+6859*a:=by
    rw[Nat.add_mul,Nat.one_mul]
    have:k*(a*19 ^ 3)=6859*(k*a):=by rw[← Nat.mul_assoc,Nat.mul_comm]
    omega
   have h2:3*a≤k*a:=Nat.mul_le_mul_right a (by omega)
   rw[h1]
   have:b*21 ^ 3=9261*b:=by omega
   omega
theorem grow_c {c k:Nat} (h:k≤1∨3*k+2≤c):k*19 ^ c≤21 ^ c:=by
 by_cases hk1:k≤1
 ·have:=pow_le c
  rcases Nat.le_one_iff_eq_zero_or_eq_one.1 hk1 with rfl|rfl
  ·rw[Nat.zero_mul];exact Nat.zero_le _
  ·rw[Nat.one_mul];exact this
 ·have h:3*k+2≤c:=by omega
  obtain⟨d,rfl⟩:=Nat.le.dest h
  have h1:k*19 ^ (3*k+2)≤21 ^ (3*k+2):=by
   by_cases hk2:k=2
   ·subst hk2;decide
   ·exact grow_k k (by omega)
  rw[Nat.pow_add 19 (3*k+2) d,Nat.pow_add 21 (3*k+2) d,← Nat.mul_assoc]
  exact Nat.mul_le_mul h1 (pow_le d)
theorem grow {V M c nb k:Nat} (hV:V≤401*nb+M*k) (hn:nb≤c) (hk:k≤1∨3*k+2≤c):(V+4000)*19 ^ c≤(M+4000)*21 ^ c:=by
 have h1:=grow_a c
 have h2:=Nat.mul_le_mul_left M (grow_c hk)
 have h3:(V+4000)*19 ^ c≤(401*c+4000)*19 ^ c+M*(k*19 ^ c):=by
  rw[← Nat.mul_assoc,← Nat.add_mul]
  refine Nat.mul_le_mul_right _ ?_
  have:401*nb≤401*c:=Nat.mul_le_mul_left _ hn
  omega
 rw[Nat.add_mul M 4000]
 omega
open Go.RowKit
def Bl.co1 (b:Bl):Nat:=1+b.cost
theorem costL_eq (l:List Bl):Bl.costL l=(l.map Bl.co1).sum:=by
 induction l with
 | nil=>rw[Bl.costL];rfl
 | cons b l ih=>rw[Bl.costL,ih,List.map_cons,List.sum_cons,Bl.co1]
theorem costS_eq (l:List St):St.costL l=(l.map St.cost).sum:=by
 induction l with
 | nil=>rw[St.costL];rfl
 | cons s l ih=>rw[St.costL,ih,List.map_cons,List.sum_cons]
theorem St.cost_mk (kind:Int) (mon name:ByteArray) (n:Int) (e:Ex) (ad:Option Addr) (cap:Nat) (blocks:List Bl) (pos:Int):(St.mk kind mon name n e ad cap blocks pos).cost=1+e.subs.length+(blocks.map Bl.co1).sum:=by
 rw[St.cost,costL_eq]
theorem Bl.cost_mk (ad:Option Addr) (cap:Nat) (body:List St):(Bl.mk ad cap body).cost=(body.map St.cost).sum:=by
 rw[Bl.cost,costS_eq]
theorem sum_le_map {α:Type} (f g:α→Nat) (l:List α) (h:∀ x∈l,f x≤g x):(l.map f).sum≤(l.map g).sum:=by
 induction l with
 | nil=>exact Nat.le_refl _
 | cons x l ih =>
  rw[List.map_cons,List.sum_cons,List.map_cons,List.sum_cons]
  have h1:=h x (by simp)
  have h2:=ih (fun y hy=>h y (by simp[hy]))
  omega
theorem sz_cost (b:Bl):b.sz≤b.cost:=
 Bl.ind (P:=fun s=>s.tot≤s.cost) (Q:=fun b=>b.sz≤b.cost) (fun kind mon name n e ad cap blocks pos ih=>by
  rw[St.tot_mk,St.cost_mk]
  have h1:=sum_le_map Bl.sz Bl.co1 blocks (fun b hb=>by have:=ih b hb;unfold Bl.co1;omega)
  split <;> omega)
  (fun ad cap body ih=>by
   rw[Bl.sz_mk,Bl.cost_mk]
   exact sum_le_map St.tot St.cost body (fun s hs=>ih s hs)) b
set_option maxRecDepth 100000 in
set_option maxHeartbeats 8000000 in
theorem restc_step (n₀:Nat) (ad:Option Addr) (cap:Nat) (body:List St)
  (ih:∀ s∈body,∀ b∈s.blocks,∀ (n:Int) (w:World),-1≤n→n≤1000→n₀≤w.heap.size→b.Is n₀ w→Calls Tryz.prog 10 #[b.slice,.int .i64 n] w fun r w'=>∃ c:Int,r=.returned (.int .i64 c)∧-1≤c∧c≤n∧Hid (0≤c→(b.cost:Int)≤n-c)∧Below w.heap.size w w')
  (n:Int) (w:World) (hn0:-1≤n) (hn1:n≤1000) (hn:n₀≤w.heap.size) (hI:(Bl.mk ad cap body).Is n₀ w) :
  Calls Tryz.prog 10 #[.slice ad body.length cap,.int .i64 n] w fun r w'=>∃ c:Int,r=.returned (.int .i64 c)∧-1≤c∧c≤n∧Hid (0≤c→((Bl.mk ad cap body).cost:Int)≤n-c)∧Below w.heap.size w w':=by
 have HR:=hid (Bl.cost_mk ad cap body)
 have hd:=hI.down
 have hl1:=hd.1.1;have hl2:=hd.1.2.1
 unfold maxLen at hl2
 by_cases h0:n<(body.length:Int)
 ·go_enter Tryz.func10,Tryz.ntmps10
  go_wp2
  go_ret
  exact⟨-1,rfl,by omega,by omega,fun h=>by omega,Below.refl _ _⟩
 have h0':(body.length:Int)≤n:=by omega
 go_enter Tryz.func10,Tryz.ntmps10
 go_wp2
 go_loopw [1,5] (fun v i wr=>∃ (j:Nat) (c:Int),j≤body.length∧v=.int .i64 c∧i=.int .i64 j∧-1≤c∧c≤n∧Hid (0≤c→(((body.take j).map St.cost).sum:Int)≤n-c)∧Below w.heap.size w wr)
  (fun _ i _=>body.length-(intOf i).toNat)
 case atStart=>exact⟨0,n,by omega,rfl,rfl,by omega,by omega,fun _=>by simp,Below.refl _ _⟩
 case round =>
  obtain⟨wo,hwo⟩:∃ wo:World,wo=wr:=⟨_,rfl⟩
  subst hwo
  obtain⟨j,c,hj,rfl,rfl,hc0,hc1,HA,hbw⟩:=hrel
  have hz:=hbw.size
  by_cases hlt:j<body.length
  ·by_cases hcp:0≤c
   ·rcases hd.1.2.2 with h|⟨b,off,rfl,hbn,hrow⟩
    ·subst h;simp at hlt
    have hb0:=hbw.mono hn
    have hbn2:b<wo.heap.size:=by omega
    have hr:=hrow.below hb0 hbn
    have hIj:=(hd.2 _ (List.getElem_mem hlt)).below hb0
    have hih:=ih _ (List.getElem_mem hlt)
    have HS:=hid (sum_snoc St.cost body j hlt)
    clear ih
    rcases he':body[j] with ⟨kind,mon,name,k,e,ad',cap',blocks,pos⟩
    rcases hee:e with ⟨eop,emon,ename,en,ead,ecap,ekids,epos⟩
    obtain⟨c0,c1,c2,c3,c4,c5,c6,c7,c8,c9,c10,c11⟩:=row12 hr j hlt (by rw[he',hee];rfl)
    rw[he'] at hIj hih HS
    have hIs:=hIj.down
    have hsm:=hIs.1.2.2.2.1;have hsn:=hIs.1.2.2.2.2
    unfold Len at hsm hsn
    have hlb1:=hIs.2.2.1.1;have hlb2:=hIs.2.2.1.2.1
    unfold maxLen at hlb2
    clear he' hIj
    have hih:∀ b∈blocks,∀ (n:Int) (w:World),-1≤n→n≤1000→n₀≤w.heap.size→b.Is n₀ w→Calls Tryz.prog 10 #[b.slice,.int .i64 n] w fun r w'=>∃ c:Int,r=.returned (.int .i64 c)∧-1≤c∧c≤n∧Hid (0≤c→(b.cost:Int)≤n-c)∧Below w.heap.size w w':=hih
    by_cases x1:200<mon.size
    ·have x1':(200:Int)<(mon.size:Int):=by omega
     go_wp2
     go_ret
     exact⟨-1,rfl,by omega,by omega,fun h=>by omega,hbw⟩
    by_cases x2:200<name.size
    ·have x1':(mon.size:Int)≤200:=by omega
     have x2':(200:Int)<(name.size:Int):=by omega
     go_wp2
     go_ret
     exact⟨-1,rfl,by omega,by omega,fun h=>by omega,hbw⟩
    by_cases x3:40<blocks.length
    ·have x1':(mon.size:Int)≤200:=by omega
     have x2':(name.size:Int)≤200:=by omega
     have x3':(40:Int)<(blocks.length:Int):=by omega
     go_wp2
     go_ret
     exact⟨-1,rfl,by omega,by omega,fun h=>by omega,hbw⟩
    have x1':(mon.size:Int)≤200:=by omega
    have x2':(name.size:Int)≤200:=by omega
    have x3':(blocks.length:Int)≤40:=by omega
    have HT:=hid (St.cost_mk kind mon name k e ad' cap' blocks pos)
    have h12:=restExpr_any n₀ e (c-1) wo (by omega) (by omega) (by omega) hIs.2.1
    have HRC:=hid (rest_count e (c-1))
    have hrb:-1≤restE e (c-1)∧restE e (c-1)≤c-1:=by
     by_cases hc3:0≤c-1
     ·exact rest_bounds e (c-1) hc3
     ·rcases e with ⟨q1,q2,q3,q4,q5,q6,q7,q8⟩
      rw[restE_mk,if_pos (.inr (.inr (by omega)))]
      omega
    obtain⟨re,hre⟩:∃ re,restE e (c-1)=re:=⟨_,rfl⟩
    rw[hre] at h12 hrb HRC
    clear hre
    rw[hee] at h12
    simp only[Ex.val,Ex.cells] at h12
    go_wp2_with (go_at_call 26;refine h12.mono ?_;rintro r w2 ⟨rfl,bb2⟩)
    have hz2:=bb2.size
    clear c0 c1 c2 c3 c4 c5 c6 c7 c8 c9 h12
    go_loopw [1,6] (fun v i wr=>∃ (m:Nat) (d:Int),m≤blocks.length∧v=.int .i64 d∧i=.int .i64 m∧-1≤d∧d≤n∧Hid (0≤d→(((body.take j).map St.cost).sum:Int)+(1+(e.subs.length:Int))+(((blocks.take m).map Bl.co1).sum:Int)≤n-d)∧Below wo.heap.size wo wr)
     (fun _ i _=>blocks.length-(intOf i).toNat)
    case atStart =>
     refine⟨0,re,by omega,rfl,rfl,by omega,by omega,fun h=>?_,bb2⟩
     have h1:=HRC.out h
     have h2:=HA.out hcp
     simp only[List.take_zero,List.map_nil,List.sum_nil]
     omega
    case round =>
     obtain⟨m,d',hm,rfl,rfl,hd0,hd1,HM,hbm⟩:=hrel
     have hzm:=hbm.size
     have c10':wr.cell? ⟨b,off+j*12+10,none⟩=some (.slice ad' blocks.length cap'):=(hbm.cell (p:=⟨b,off+j*12+10,none⟩) hbn2).trans c10
     have hbn4:b<wr.heap.size:=by omega
     by_cases hlt2:m<blocks.length
     ·by_cases hdp:0≤d'
      ·rcases hIs.2.2.1.2.2 with h|⟨b3,off3,rfl,hbn3,hrow3⟩
       ·subst h;simp at hlt2
       have hB3:Below n₀ wo wr:=hbm.mono (by omega)
       have hr3:=hrow3.below hB3 hbn3
       have hb3l:b3<wr.heap.size:=by omega
       have hq:=hih blocks[m] (List.getElem_mem hlt2) (d' - 1) wr (by omega) (by omega) (by omega) ((hIs.2.2.2 _ (List.getElem_mem hlt2)).below hB3)
       have HS2:Hid (((blocks.take (m+1)).map Bl.co1).sum=((blocks.take m).map Bl.co1).sum+(1+blocks[m].cost)):=sum_snoc Bl.co1 blocks m hlt2
       obtain⟨bz,hbz⟩:∃ bz,blocks[m].cost=bz:=⟨_,rfl⟩
       rw[hbz] at hq HS2
       clear hbz
       rcases he2:blocks[m] with ⟨bad,bcap,bbody⟩
       have d0:=row1 hr3 m hlt2 (by rw[he2];rfl)
       simp only[he2,Bl.slice] at hq d0
       clear he2
       go_wp2_with (go_at_call 10;refine hq.mono ?_;rintro r w5 ⟨c5,rfl,hy0,hy1,HZ,bb5⟩)
       go_roundw
       case rel =>
        refine⟨m+1,c5,by omega,rfl,by go_num,by omega,by omega,fun h=>?_,hbm.tr le_rfl' bb5⟩
        have h1:=HZ.out h
        have h2:=HM.out hdp
        rw[HS2.out]
        omega
       case measure=>simp[intOf];omega
      ·have hdd:decide (0≤d')=false:=by simp;omega
       go_wp2
       go_roundw
       case rel=>exact⟨j+1,d',by omega,rfl,by go_num,by omega,by omega,fun h=>by have h':0≤d':=h;omega,hbw.tr le_rfl' hbm⟩
       case measure=>simp[intOf];omega
     ·have hmb:m=blocks.length:=by omega
      have hmd:decide ((m:Int)<(blocks.length:Int))=false:=by simp;omega
      go_wp2
      go_roundw
      case rel =>
       refine⟨j+1,d',by omega,rfl,by go_num,by omega,by omega,fun h=>?_,hbw.tr le_rfl' hbm⟩
       have h2:=HM.out h
       have h3:=HT.out
       rw[hmb,List.take_length] at h2
       rw[HS.out]
       omega
      case measure=>simp[intOf];omega
   ·have hcd:decide (0≤c)=false:=by simp;omega
    go_wp2
    go_ret
    exact⟨c,rfl,by omega,by omega,fun h=>by have h':0≤c:=h;omega,hbw⟩
  ·have hjb:j=body.length:=by omega
   have hjd:decide ((j:Int)<(body.length:Int))=false:=by simp;omega
   go_wp2
   go_ret
   refine⟨c,rfl,by omega,by omega,fun h=>?_,hbw⟩
   have h1:=HA.out h
   rw[hjb,List.take_length] at h1
   rw[HR.out]
   exact h1
theorem restc_any (n₀:Nat) (b:Bl):∀ (n:Int) (w:World),-1≤n→n≤1000→n₀≤w.heap.size→b.Is n₀ w→Calls Tryz.prog 10 #[b.slice,.int .i64 n] w fun r w'=>∃ c:Int,r=.returned (.int .i64 c)∧-1≤c∧c≤n∧Hid (0≤c→(b.cost:Int)≤n-c)∧Below w.heap.size w w':=
 Bl.ind (P:=fun s=>∀ b∈s.blocks,∀ (n:Int) (w:World),-1≤n→n≤1000→n₀≤w.heap.size→b.Is n₀ w→Calls Tryz.prog 10 #[b.slice,.int .i64 n] w fun r w'=>∃ c:Int,r=.returned (.int .i64 c)∧-1≤c∧c≤n∧Hid (0≤c→(b.cost:Int)≤n-c)∧Below w.heap.size w w')
  (Q:=fun b=>∀ (n:Int) (w:World),-1≤n→n≤1000→n₀≤w.heap.size→b.Is n₀ w→Calls Tryz.prog 10 #[b.slice,.int .i64 n] w fun r w'=>∃ c:Int,r=.returned (.int .i64 c)∧-1≤c∧c≤n∧Hid (0≤c→(b.cost:Int)≤n-c)∧Below w.heap.size w w')
  (fun _ _ _ _ _ _ _ _ _ ih b hb=>ih b hb) (fun ad cap body ih n w h1 h2 h3 h4=>restc_step n₀ ad cap body ih n w h1 h2 h3 h4) b
open Go.RowKit
def Me.bco (x:Me):Nat:=x.body.cost
def Ro.bco (x:Ro):Nat:=x.body.cost
def Mo.mco (m:Mo):Nat:=(m.meths.map Me.bco).sum
theorem size_cost (p:Pr):p.size≤(p.mons.map Mo.mco).sum+(p.roles.map Ro.bco).sum:=by
 rw[pr_size]
 have h1:=sum_le_map Mo.msz Mo.mco p.mons (fun m _=>sum_le_map Me.bsz Me.bco m.meths (fun f _=>sz_cost f.body))
 have h2:=sum_le_map Ro.bsz Ro.bco p.roles (fun r _=>sz_cost r.body)
 omega
def SmallCo (p:Pr) (w w':World) (r:Ending):Prop:=∃ c:Bool,r=.returned (.bool c)∧(c=true→(p.mons.map Mo.mco).sum+(p.roles.map Ro.bco).sum≤300∧p.mons.length≤20∧∀ m∈p.mons,m.vars.length≤40)∧Below w.heap.size w w'
theorem smallCo_no {p:Pr} {w w':World} (hb:Below w.heap.size w w'):SmallCo p w w' (.returned (.bool false)):=⟨false,rfl,(fun h=>Bool.noConfusion h),hb⟩
theorem smallCo_mk {p:Pr} {w w':World} (c:Bool) (hc:c=true→(p.mons.map Mo.mco).sum+(p.roles.map Ro.bco).sum≤300∧p.mons.length≤20∧∀ m∈p.mons,m.vars.length≤40) (h:Below w.heap.size w w'):SmallCo p w w' (.returned (.bool c)):=⟨c,rfl,hc,h⟩
set_option maxRecDepth 100000 in
set_option maxHeartbeats 16000000 in
theorem smallc_any (n₀:Nat) (p:Pr) (w:World) (hn:n₀≤w.heap.size) (hp:p.Is n₀ w) :
  Calls Tryz.prog 5 #[p.val,.int .i64 300] w fun r w'=>SmallCo p w w' r:=by
 rcases p with ⟨mad,mcap,mons,rad,rcap,roles⟩
 obtain⟨⟨hM1,hM2⟩,hR1,hR2⟩:=hp
 simp only at hM1 hM2 hR1 hR2
 have hl1:=hM1.1;have hl2:=hM1.2.1;have hl3:=hR1.1;have hl4:=hR1.2.1
 unfold maxLen at hl2 hl4
 simp only[Pr.val]
 by_cases x1:20<mons.length
 ·have x1':(20:Int)<(mons.length:Int):=by omega
  go_enter Tryz.func5,Tryz.ntmps5
  go_wp2
  go_ret
  exact smallCo_no ((Below.refl _ _).al le_rfl' _)
 by_cases x2:20<roles.length
 ·have x1':decide ((20:Int)<(mons.length:Int))=false:=by simp;omega
  have x2':(20:Int)<(roles.length:Int):=by omega
  go_enter Tryz.func5,Tryz.ntmps5
  go_wp2
  go_ret
  exact smallCo_no ((Below.refl _ _).al le_rfl' _)
 have x1':decide ((20:Int)<(mons.length:Int))=false:=by simp;omega
 have x2':decide ((20:Int)<(roles.length:Int))=false:=by simp;omega
 go_enter Tryz.func5,Tryz.ntmps5
 go_wp2
 go_loopw [5,6] (fun v i wr=>∃ (j:Nat) (c:Int),j≤mons.length∧v=.int .i64 c∧i=.int .i64 j∧-1≤c∧c≤300∧Hid (0≤c→(((mons.take j).map Mo.mco).sum:Int)≤300-c)∧Hid (∀ m∈mons.take j,m.vars.length≤40)∧Below (w.heap.size+1) (w.alloc (.cells #[.slice mad mons.length mcap,.slice rad roles.length rcap] 25)) wr)
  (fun _ i _=>mons.length-(intOf i).toNat)
 case atStart=>exact⟨0,300,by omega,rfl,rfl,by omega,by omega,fun _=>by simp,(fun m hm=>by simp at hm),Below.refl _ _⟩
 case round =>
  obtain⟨wo,hwo⟩:∃ wo:World,wo=wr:=⟨_,rfl⟩
  subst hwo
  obtain⟨j,c,hj,rfl,rfl,hc0,hc1,HA,HV,hbw⟩:=hrel
  have hz:=hbw.size
  simp at hz
  have hbF:Below w.heap.size w wo:=((Below.refl _ w).al le_rfl' _).trans (hbw.mono (by omega))
  have hb0:Below n₀ w wo:=hbF.mono hn
  have p0:wo.cell? ⟨w.heap.size,0,none⟩=some (.slice mad mons.length mcap):=(hbw.cell (p:=⟨w.heap.size,0,none⟩) (by simp)).trans (cell_of' (World.alloc_heap_new w _) 0)
  have p1:wo.cell? ⟨w.heap.size,1,none⟩=some (.slice rad roles.length rcap):=(hbw.cell (p:=⟨w.heap.size,1,none⟩) (by simp)).trans (cell_of' (World.alloc_heap_new w _) 1)
  have lw:w.heap.size<wo.heap.size:=by omega
  by_cases hlt:j<mons.length
  ·rcases hM1.2.2 with h|⟨b,off,rfl,hbn,hrow⟩
   ·subst h;simp at hlt
   have hbn2:b<wo.heap.size:=by omega
   have hr:=hrow.below hb0 hbn
   have hIj:=(hM2 _ (List.getElem_mem hlt)).below hb0
   have HS:=hid (sum_snoc Mo.mco mons j hlt)
   have HX:Hid (mons[j].vars.length≤40→∀ m∈mons.take (j+1),m.vars.length≤40):=fun h m hm=>by
    rw[List.take_succ_eq_append_getElem hlt] at hm
    rcases List.mem_append.1 hm with hm|hm
    ·exact HV.out m hm
    ·rw[List.mem_singleton.1 hm];exact h
   rcases he:mons[j] with ⟨mname,vad,vcap,vars,xad,xcap,meths,mpos⟩
   obtain⟨c0,c1,c2,c3⟩:=row4 hr j hlt (by rw[he];rfl)
   rw[he] at hIj HS
   rw[he] at HX
   simp only at HX
   clear he
   obtain⟨⟨hI1,hI2⟩,⟨hI3,hI4⟩,hI5,hI6⟩:=hIj
   simp only at hI1 hI2 hI3 hI4 hI5 hI6
   have hv1:=hI3.1;have hv2:=hI3.2.1;have hm1:=hI5.1;have hm2:=hI5.2.1
   unfold maxLen at hv2 hm2
   unfold Len at hI1
   by_cases y1:40<vars.length
   ·have y1':(40:Int)<(vars.length:Int):=by omega
    go_wp2
    go_ret
    exact smallCo_no (hbF.al le_rfl' _)
   by_cases y2:40<meths.length
   ·have y1':decide ((40:Int)<(vars.length:Int))=false:=by simp;omega
    have y2':(40:Int)<(meths.length:Int):=by omega
    go_wp2
    go_ret
    exact smallCo_no (hbF.al le_rfl' _)
   by_cases y3:200<mname.size
   ·have y1':decide ((40:Int)<(vars.length:Int))=false:=by simp;omega
    have y2':decide ((40:Int)<(meths.length:Int))=false:=by simp;omega
    have y3':(200:Int)<(mname.size:Int):=by omega
    go_wp2
    go_ret
    exact smallCo_no (hbF.al le_rfl' _)
   have y1':decide ((40:Int)<(vars.length:Int))=false:=by simp;omega
   have y2':decide ((40:Int)<(meths.length:Int))=false:=by simp;omega
   have y3':decide ((200:Int)<(mname.size:Int))=false:=by simp;omega
   go_wp2
   clear c0 c1 c2 c3
   go_loopw [8] (fun i wr=>∃ k:Nat,k≤vars.length∧i=.int .i64 k∧Below (wo.heap.size+1) (wo.alloc (.cells #[.string mname,.slice vad vars.length vcap,.slice xad meths.length xcap,.int .i64 mpos] 52)) wr)
    (fun i _=>vars.length-(intOf i).toNat)
   case atStart=>exact⟨0,by omega,rfl,Below.refl _ _⟩
   case round =>
    obtain⟨wv,hwv⟩:∃ wv:World,wv=wr:=⟨_,rfl⟩
    subst hwv
    obtain⟨k,hk,rfl,hbv⟩:=hrel
    have hzv:=hbv.size
    simp at hzv
    have hbG:Below wo.heap.size wo wv:=((Below.refl _ wo).al le_rfl' _).trans (hbv.mono (by omega))
    have m1:wv.cell? ⟨wo.heap.size,1,none⟩=some (.slice vad vars.length vcap):=(hbv.cell (p:=⟨wo.heap.size,1,none⟩) (by simp)).trans (cell_of' (World.alloc_heap_new wo _) 1)
    have m2:wv.cell? ⟨wo.heap.size,2,none⟩=some (.slice xad meths.length xcap):=(hbv.cell (p:=⟨wo.heap.size,2,none⟩) (by simp)).trans (cell_of' (World.alloc_heap_new wo _) 2)
    have lv:wo.heap.size<wv.heap.size:=by omega
    by_cases hltv:k<vars.length
    ·rcases hI3.2.2 with h|⟨b2,off2,rfl,hbn3,hrow2⟩
     ·subst h;simp at hltv
     have hb2:b2<wv.heap.size:=by omega
     have hr2:=hrow2.below (hbG.mono (by omega)) hbn3
     rcases he:vars[k] with ⟨vn,vt,vlo,vhi,vi,vp⟩
     obtain⟨d0,d1,d2,d3,d4,d5⟩:=row6 hr2 k hltv (by rw[he];rfl)
     have hL:=(hI4 _ (List.getElem_mem hltv)).1
     rw[he] at hL
     simp only at hL
     unfold Len at hL
     clear he
     by_cases z1:200<vn.size
     ·have z1':(200:Int)<(vn.size:Int):=by omega
      go_wp2
      go_ret
      exact smallCo_no (hbF.tr le_rfl' hbG)
     ·have z1':decide ((200:Int)<(vn.size:Int))=false:=by simp;omega
      go_wp2
      go_roundw
      case rel=>exact⟨k+1,by omega,by go_num,hbv⟩
      case measure=>simp[intOf];omega
    ·have hkd:decide ((k:Int)<(vars.length:Int))=false:=by simp;omega
     go_wp2
     go_loopw [5,9] (fun v i wr=>∃ (k2:Nat) (d:Int),k2≤meths.length∧v=.int .i64 d∧i=.int .i64 k2∧-1≤d∧d≤300∧Hid (0≤d→(((mons.take j).map Mo.mco).sum:Int)+(((meths.take k2).map Me.bco).sum:Int)≤300-d)∧Below wv.heap.size wv wr)
      (fun _ i _=>meths.length-(intOf i).toNat)
     case atStart=>exact⟨0,c,by omega,rfl,rfl,by omega,by omega,fun h=>by have:=HA.out h;simp only[List.take_zero,List.map_nil,List.sum_nil];omega,Below.refl _ _⟩
     case round =>
      obtain⟨k2,d,hk2,rfl,rfl,hd0,hd1,HM,hbm⟩:=hrel
      have hzm:=hbm.size
      have m2':wr.cell? ⟨wo.heap.size,2,none⟩=some (.slice xad meths.length xcap):=(hbm.cell (p:=⟨wo.heap.size,2,none⟩) lv).trans m2
      have lv2:wo.heap.size<wr.heap.size:=by omega
      have hbH:=hbG.tr le_rfl' hbm
      by_cases hltm:k2<meths.length
      ·rcases hI5.2.2 with h|⟨b2,off2,rfl,hbn3,hrow2⟩
       ·subst h;simp at hltm
       have hb2:b2<wr.heap.size:=by omega
       have hr2:=hrow2.below (hbH.mono (by omega)) hbn3
       have hMI:=(hI6 _ (List.getElem_mem hltm)).below (hbH.mono (by omega:n₀≤wo.heap.size))
       have HS2:=hid (sum_snoc Me.bco meths k2 hltm)
       rcases he:meths[k2] with ⟨xn,xb,xp⟩
       have hq:=restc_any n₀ xb d wr (by omega) (by omega) (by omega) (by have:=hMI.2.2;rw[he] at this;exact this)
       rw[he] at HS2 hMI
       have hL:=hMI.1
       simp only[Me.bco] at hL HS2
       unfold Len at hL
       obtain⟨d0,d1,d2⟩:=row3 hr2 k2 hltm (by rw[he];rfl)
       clear he hMI
       rcases xb with ⟨bad,bcap,bbody⟩
       simp only[Bl.slice] at hq d1
       by_cases z1:200<xn.size
       ·have z1':(200:Int)<(xn.size:Int):=by omega
        go_wp2
        go_ret
        exact smallCo_no (hbF.tr le_rfl' hbH)
       ·have z1':decide ((200:Int)<(xn.size:Int))=false:=by simp;omega
        go_wp2_with (go_at_call 10;refine hq.mono ?_;rintro r w5 ⟨c5,rfl,hy0,hy1,HZ,bb5⟩)
        go_roundw
        case rel =>
         refine⟨k2+1,c5,by omega,rfl,by go_num,by omega,by omega,fun h=>?_,hbm.tr le_rfl' bb5⟩
         have h1:=HZ.out h
         have h2:=HM.out (by omega)
         rw[HS2.out]
         omega
        case measure=>simp[intOf];omega
      ·have hkd2:decide ((k2:Int)<(meths.length:Int))=false:=by simp;omega
       have HKE:=hid (show k2=meths.length by omega)
       go_wp2
       go_roundw
       case rel =>
        refine⟨j+1,d,by omega,rfl,by go_num,by omega,by omega,fun h=>?_,HX.out (by omega),(hbw.tr (by simp) hbH)⟩
        have h1:=HM.out h
        rw[HKE.out,List.take_length] at h1
        rw[HS.out]
        simp only[Mo.mco]
        omega
       case measure=>simp[intOf];omega
  ·have hjd:decide ((j:Int)<(mons.length:Int))=false:=by simp;omega
   have HJE:=hid (show j=mons.length by omega)
   have HVE:Hid (∀ m∈mons,m.vars.length≤40):=by
    have h:=HV.out
    rw[List.take_of_length_le (by omega)] at h
    exact h
   go_wp2
   go_loopw [5,10] (fun v i wr=>∃ (k2:Nat) (d:Int),k2≤roles.length∧v=.int .i64 d∧i=.int .i64 k2∧-1≤d∧d≤300∧Hid (0≤d→((mons.map Mo.mco).sum:Int)+(((roles.take k2).map Ro.bco).sum:Int)≤300-d)∧Below wo.heap.size wo wr)
    (fun _ i _=>roles.length-(intOf i).toNat)
   case atStart =>
    refine⟨0,c,by omega,rfl,rfl,by omega,by omega,fun h=>?_,Below.refl _ _⟩
    have h1:=HA.out h
    rw[HJE.out,List.take_length] at h1
    simp only[List.take_zero,List.map_nil,List.sum_nil]
    omega
   case round =>
    obtain⟨k2,d,hk2,rfl,rfl,hd0,hd1,HM,hbm⟩:=hrel
    have hzm:=hbm.size
    have p1':wr.cell? ⟨w.heap.size,1,none⟩=some (.slice rad roles.length rcap):=(hbm.cell (p:=⟨w.heap.size,1,none⟩) lw).trans p1
    have lw2:w.heap.size<wr.heap.size:=by omega
    have hbH:=hbF.tr le_rfl' hbm
    by_cases hltm:k2<roles.length
    ·rcases hR1.2.2 with h|⟨b2,off2,rfl,hbn3,hrow2⟩
     ·subst h;simp at hltm
     have hb2:b2<wr.heap.size:=by omega
     have hr2:=hrow2.below (hbH.mono hn) hbn3
     have hMI:=(hR2 _ (List.getElem_mem hltm)).below (hbH.mono hn)
     have HS2:=hid (sum_snoc Ro.bco roles k2 hltm)
     rcases he:roles[k2] with ⟨xn,xs,xc,xb,xp⟩
     have hq:=restc_any n₀ xb d wr (by omega) (by omega) (by omega) (by have:=hMI.2.2.2;rw[he] at this;exact this)
     rw[he] at HS2 hMI
     have hL:=hMI.1
     simp only[Ro.bco] at hL HS2
     unfold Len at hL
     obtain⟨d0,d1,d2,d3,d4⟩:=row5 hr2 k2 hltm (by rw[he];rfl)
     clear he hMI
     rcases xb with ⟨bad,bcap,bbody⟩
     simp only[Bl.slice] at hq d3
     by_cases z1:200<xn.size
     ·have z1':(200:Int)<(xn.size:Int):=by omega
      go_wp2
      go_ret
      exact smallCo_no (hbH)
     ·have z1':decide ((200:Int)<(xn.size:Int))=false:=by simp;omega
      go_wp2_with (go_at_call 10;refine hq.mono ?_;rintro r w5 ⟨c5,rfl,hy0,hy1,HZ,bb5⟩)
      go_roundw
      case rel =>
       refine⟨k2+1,c5,by omega,rfl,by go_num,by omega,by omega,fun h=>?_,hbm.tr le_rfl' bb5⟩
       have h1:=HZ.out h
       have h2:=HM.out (by omega)
       rw[HS2.out]
       omega
      case measure=>simp[intOf];omega
    ·have hkd2:decide ((k2:Int)<(roles.length:Int))=false:=by simp;omega
     have HKE:=hid (show k2=roles.length by omega)
     go_wp2
     go_ret
     refine smallCo_mk (decide (0≤d)) (fun h=>?_) hbH
     have h1:=HM.out (by simpa using h)
     rw[HKE.out,List.take_length] at h1
     have h2:(0:Int)≤d:=by simpa using h
     refine⟨?_,by show mons.length≤20;omega,HVE.out⟩
     show (mons.map Mo.mco).sum+(roles.map Ro.bco).sum≤300
     omega
end Go.Proofs.YtpbjikncobnkjaaGreatDoor
