import Derived.Test.YthdkgfmlihgceaaGreatDoorHac
import Derived.Test.YthdkgfmlihgceaaGreatDoorHae
namespace Go.Proofs.YthdkgfmlihgceaaGreatDoor
set_option maxRecDepth 100000
set_option maxHeartbeats 2000000
open Go.RowKit Go.Shelf
attribute [local go_sem] Oper.semAt_some
def Ex.ok (e:Ex):Bool:=e.subs.all Ex.ok1
theorem qqc {W W':World}{row:Option Nat}{b:Nat}{e:Ex}(h:ExBox W b e) (hg:W.grownBy W' row) (hr:∀r,row=some r->∃o:Obj,W.heap[r]?=some o/\o.isCells=false):ExBox W' b e:=
 (hg.block b h.lt (λe'=>by obtain⟨o,ho,hc⟩:=hr b e'.symm;rw[show W.heap[b]?=_ from h] at ho;cases ho;cases hc)).trans h
theorem qdi {B:Nat}{W W':World}(h:Below W.heap.size W W'):KeepsFrom B W W':=⟨h.size,λk _ _ h0 _=>(h.block k (Array.getElem?_eq_some_iff.1 h0).1).trans h0⟩
theorem qbl {W W':World}{b:Nat}{t:TypeId}{v:Value}(h:Boxed W b t v) (hb:Below W.heap.size W W'):Boxed W' b t v:=(hb.block _ h.lt).trans h
theorem qk7 (n:Nat) (hn9:9<=n) (T:Ex) (w:World) (hT:T.Is w.heap.size w) (hS:Shapes w) :
  CallsIn Fence.wide n Tryz.prog 128 #[T.val] w λe w'=>e=.returned (.int .i64 (if T.ok then 0 else 20))/\Below w.heap.size w w':=by
 have hd:Fence.wide.depth=none:=rfl
 have hro:Fence.wide.round=none:=rfl
 have h1:1<=n:=by omega
 have hsz2:=hS.size
 have hpart:=qxt Fence.wide (n-1) trivial rfl T
 obtain⟨res,hres⟩:∃res:Int,(if T.ok then (0:Int) else 20)=res:=⟨_,rfl⟩
 rw[hres]
 have HR:=hid hres
 clear hres
 rcases hTT:T with ⟨op,mon,name,k,ad,cap,kids,pos⟩
 rw[hTT] at hpart
 simp only[Ex.val,Ex.cells] at hpart ⊢
 refine callsIn_of_wp_marks Tryz.func128 rfl trivial ?_ hro
 simp only[Tryz.ntmps128,List.size_toArray,List.length_cons,List.length_nil,Nat.reduceAdd,Nat.reduceSub,Array.replicate_succ,Array.replicate_zero,List.push_toArray,List.append_toArray,List.nil_append,List.cons_append]
 gi_wp2_with (refine⟨trivial,?_⟩;gi_at_call 137;refine (hpart _).mono ?_;rintro e w' ⟨rfl,rfl⟩)
 obtain⟨tv,htv⟩:∃tv:Value,Value.agg #[.int .i64 op,.string mon,.string name,.int .i64 k,.slice ad kids.length cap,.int .i64 pos]=tv:=⟨_,rfl⟩
 have bR:Boxed (((w.alloc (.cells #[.int .i64 op,.string mon,.string name,.int .i64 k,.slice ad kids.length cap,.int .i64 pos] 48)).alloc (.cells #[.int .i64 0] 29)).alloc (.cells #[.int .i64 op,.string mon,.string name,.int .i64 k,.slice ad kids.length cap,.int .i64 pos] 48)) (w.heap.size+1) 29 (.int .i64 0):=by
  have:=(Boxed.new (w.alloc (.cells #[.int .i64 op,.string mon,.string name,.int .i64 k,.slice ad kids.length cap,.int .i64 pos] 48)) 29 (.int .i64 0)).alloc (.cells #[.int .i64 op,.string mon,.string name,.int .i64 k,.slice ad kids.length cap,.int .i64 pos] 48)
  rwa [World.size_alloc] at this
 have bA:ExBox (((w.alloc (.cells #[.int .i64 op,.string mon,.string name,.int .i64 k,.slice ad kids.length cap,.int .i64 pos] 48)).alloc (.cells #[.int .i64 0] 29)).alloc (.cells #[.int .i64 op,.string mon,.string name,.int .i64 k,.slice ad kids.length cap,.int .i64 pos] 48)) (w.heap.size+1+1) T:=by
  have:=ExBox.new ((w.alloc (.cells #[.int .i64 op,.string mon,.string name,.int .i64 k,.slice ad kids.length cap,.int .i64 pos] 48)).alloc (.cells #[.int .i64 0] 29)) T
  rw[World.size_alloc,World.size_alloc,hTT] at this
  rw[hTT]
  exact this
 have hB0:Below w.heap.size w (((w.alloc (.cells #[.int .i64 op,.string mon,.string name,.int .i64 k,.slice ad kids.length cap,.int .i64 pos] 48)).alloc (.cells #[.int .i64 0] 29)).alloc (.cells #[.int .i64 op,.string mon,.string name,.int .i64 k,.slice ad kids.length cap,.int .i64 pos] 48)):=(((Below.refl _ w).al qaa _).al qaa _).al qaa _
 have hsz:(((w.alloc (.cells #[.int .i64 op,.string mon,.string name,.int .i64 k,.slice ad kids.length cap,.int .i64 pos] 48)).alloc (.cells #[.int .i64 0] 29)).alloc (.cells #[.int .i64 op,.string mon,.string name,.int .i64 k,.slice ad kids.length cap,.int .i64 pos] 48)).heap.size=w.heap.size+3:=by simp
 obtain⟨W0,hW0⟩:∃W0,((w.alloc (.cells #[.int .i64 op,.string mon,.string name,.int .i64 k,.slice ad kids.length cap,.int .i64 pos] 48)).alloc (.cells #[.int .i64 0] 29)).alloc (.cells #[.int .i64 op,.string mon,.string name,.int .i64 k,.slice ad kids.length cap,.int .i64 pos] 48)=W0:=⟨_,rfl⟩
 rw[hW0] at bR bA hB0 hsz ⊢
 clear hW0
 rw[htv]
 have HTV:=hid htv
 have HTT:=hid hTT
 clear hpart htv hTT
 refine wpIn_rangeFunc_ownH hro h1 (gf:=143) (lb:=#[.pointer (some ⟨w.heap.size+1+1,0,none⟩)]) rfl trivial (enters_of Tryz.func143 (by kernel_rfl) rfl)
  (qn3 Fence.wide hd (n-1) trivial trivial hro (w.heap.size+1+1) w.heap.size W0.heap.size W0 (by omega) (by omega) T (hT.below hB0) bA) Kp.t (Kp.b (by omega)) (Below.refl _ _) (λ_=>rfl)
  (λpre W=>(Boxed W (w.heap.size+1) 29 (.int .i64 0)/\pre.all (λx=>x.1.ok1)=true)/\Below w.heap.size W0 W)
  (λc pre W=>(c=.ret/\Boxed W (w.heap.size+1) 29 (.int .i64 20)/\∃x∈pre,x.1.ok1=false)/\Below w.heap.size W0 W)
  (OwnFrom.and (OwnFrom.and (Own.from (boxed_own _ _ _) _) (ownFrom_pure _ _)) (ownFrom_below (by omega) (by omega)))
  (λc=>OwnFrom.and (OwnFrom.and (ownFrom_pure _ (λ_=>c=.ret)) (OwnFrom.and (Own.from (boxed_own _ _ _) _) (ownFrom_pure _ _))) (ownFrom_below (by omega) (by omega)))
  ⟨⟨bR,rfl⟩,Below.refl _ _⟩
  (λx a' W=>∃Bx,W0.heap.size<=Bx/\ExBox W Bx x.1/\a'={ tmps:=#[tv,.pointer (some ⟨w.heap.size,0,none⟩),.pointer (some ⟨w.heap.size+1,0,none⟩),.pointer (some ⟨Bx,0,none⟩),tv,.func (.func 143) #[] #[.pointer (some ⟨w.heap.size+1+1,0,none⟩)],x.1.val,undef,undef,undef],defers:=[] })
  (λx a' _ X Y row hs hg hr=>by obtain⟨Bx,h1,h2,h3⟩:=hs;exact⟨Bx,h1,qqc h2 hg (λr e=>(hr r e).2),h3⟩)
  ?assign ?body ?done ?stop
 case assign =>
  rintro l pre ⟨⟨op',ai',name',k',ad',cap',am',pos'⟩,hx⟩ W K ⟨⟨bR1,hall⟩,hB1⟩ hK
  simp only[Ex.val,Ex.cells]
  gi_wp2
  have hs1:=hB1.size
  exact hK _ _ ((KeepsOthers.alloc _ _).from _) (Kp.alloc (by omega) _) ⟨⟨bR1.alloc _,hall⟩,hB1.al (by omega) _⟩ ⟨W.heap.size,hs1,ExBox.new W (.mk op' ai' name' k' ad' cap' am' pos'),rfl⟩
 case body =>
  rintro l pre ⟨⟨op',ai',name',k',ad',cap',am',pos'⟩,hx⟩ a' W hl ⟨r,hr⟩ ⟨⟨bR1,hall⟩,hB1⟩ ⟨Bx,hBx,bX,rfl⟩ hlt
  have hs1:=hB1.size
  have hxW:(Ex.mk op' ai' name' k' ad' cap' am' pos').Is w.heap.size W:=hx.below hB1
  have hcall:=qql _ w.heap.size W hxW ((hS.below hB0 hsz2).below hB1 hsz2)
  obtain⟨c0,c1,c2,c3,c4,c5⟩:=bX.cells
  have HALL:=hid hall
  clear hall
  have cR:=bR1.cell
  have fR:=bR1.frozen
  simp only[Ex.val,Ex.cells] at hcall
  cases hok:(Ex.mk op' ai' name' k' ad' cap' am' pos').ok1
  ·rw[hok] at hcall
   have HOK:=hid hok
   clear hok
   gi_wp2_with (refine⟨trivial,?_⟩;gi_at_call 138;refine (CallsIn.inRound l (callsIn_wide.2 hcall)).mono ?_;rintro e w' ⟨rfl,hbel⟩;have bR2:=qbl bR1 hbel;have cR2:=bR2.cell;have fR2:=bR2.frozen)
   exact⟨(qdi hbel).trans ((KeepsOthers.setCell _ _ _).from _),⟨rfl,bR2.set _,⟨_,hx⟩,List.mem_append.2 (.inr (List.mem_singleton.2 rfl)),HOK.out⟩,(hB1.tr (by omega) hbel).setCell (p:=⟨w.heap.size+1,0,none⟩) (by simp) _⟩
  ·rw[hok] at hcall
   have HOK:=hid hok
   clear hok
   gi_wp2_with (refine⟨trivial,?_⟩;gi_at_call 138;refine (CallsIn.inRound l (callsIn_wide.2 hcall)).mono ?_;rintro e w' ⟨rfl,hbel⟩;have bR2:=qbl bR1 hbel)
   refine⟨qdi hbel,Kp.of (by omega) hbel,⟨bR2,?_⟩,hB1.tr (by omega) hbel⟩
   rw[List.all_append,HALL.out]
   simp only[List.all_cons,List.all_nil,HOK.out,Bool.and_true]
 case done =>
  rintro D ys W hD hys ⟨⟨bR1,hall⟩,hB1⟩ hK
  have cR:=bR1.cell
  have fR:=bR1.frozen
  have HALL:=hid hall
  clear hall
  gi_wp2
  have hK':=(KeepsOthers.setCell W ⟨w.heap.size+1,0,none⟩ (.int .i64 0)).same D _ hK rfl
  refine⟨by simp,.inl ⟨_,_,rfl,run_takeDeferred hK',?_⟩⟩
  have hc5:=cell_kept (World.cell?_setCell_same' W ⟨w.heap.size+1,0,none⟩ (.int .i64 0) (by rw[cR];rfl)) (grownBy_putObj' _ D (.deferred none)) (λr e=>by cases e;exact⟨_,hK',rfl⟩)
  refine⟨.int .i64 0,?_,?_,((hB0.trans hB1).setCell (p:=⟨w.heap.size+1,0,none⟩) (by simp) _).trans (belowK_b (w:=w) (Nat.le_refl _) _ D _ _ (by omega) hK' rfl rfl)⟩
  ·simp[results,Tryz.f128,go_sem,hc5]
  ·rw[<- HR.out,if_pos]
   rw[Ex.ok,<- hys,List.all_map]
   exact HALL.out
 case stop =>
  rintro D c pre W hD hpre ⟨⟨rfl,bR1,x,hx,hok⟩,hB1⟩ hK
  have cR:=bR1.cell
  have HOK:=hid hok
  clear hok
  gi_wp2
  refine⟨by simp,.inl ⟨_,_,rfl,run_takeDeferred hK,?_⟩⟩
  have hc5:=cell_kept cR (grownBy_putObj' _ D (.deferred none)) (λr e=>by cases e;exact⟨_,hK,rfl⟩)
  refine⟨.int .i64 20,?_,?_,(hB0.trans hB1).trans (belowK_b (w:=w) (Nat.le_refl _) W D _ _ (by omega) hK rfl rfl)⟩
  ·simp[results,Tryz.f128,go_sem,hc5]
  ·rw[<- HR.out,if_neg]
   intro h
   have h2:=(List.all_eq_true.1 h) x.1 (hpre.subset (List.mem_map.2 ⟨x,hx,rfl⟩))
   rw[HOK.out] at h2
   cases h2
theorem qfk (T:Ex) (nz:Nat) (w:World) (hn:nz<=w.heap.size) (hT:T.Is nz w) (hS:Shapes w) :
  Calls Tryz.prog 128 #[T.val] w λe w'=>e=.returned (.int .i64 (if T.ok then 0 else 20))/\Below w.heap.size w w':=
 (callsIn_wide (n:=9)).1 (qk7 9 (Nat.le_refl _) T w (hT.mono hn) hS)
open Go.RowKit
def Va.ok (v:Va):Bool:=Lx.name v.name&&!(decide (v.lo=-9223372036854775808\/v.hi=-9223372036854775808\/v.init=-9223372036854775808)) &&
 decide ((v.type=1/\v.lo=0/\v.hi=0/\(v.init=0\/v.init=1))\/(v.type=2/\v.lo=0/\v.hi=0)\/(v.type=3/\v.lo<=v.hi))
theorem qtb (v:Va) (w:World) (hv:v.Is) :
  Calls Tryz.prog 133 #[v.val] w λr w'=>r=.returned (.bool v.ok)/\Below w.heap.size w w':=by
 rcases v with ⟨name,type,lo,hi,init,pos⟩
 obtain⟨h1,h2,h3,h4,h5,h6⟩:=hv
 simp only[Va.val,Va.cells] at *
 unfold I64 at h2 h3 h4 h5 h6
 obtain⟨res,hres⟩:∃res,Va.ok ⟨name,type,lo,hi,init,pos⟩=res:=⟨_,rfl⟩
 rw[hres]
 have HS:Hid ((Lx.name name&&!(decide (lo=-9223372036854775808\/hi=-9223372036854775808\/init=-9223372036854775808)) &&
  decide ((type=1/\lo=0/\hi=0/\(init=0\/init=1))\/(type=2/\lo=0/\hi=0)\/(type=3/\lo<=hi)))=res):=hres
 clear hres
 have key:((if init<(if hi<lo then hi else lo) then init else (if hi<lo then hi else lo))==(-9223372036854775808:Int))=decide (lo=-9223372036854775808\/hi=-9223372036854775808\/init=-9223372036854775808):=by
  rw[Bool.eq_iff_iff];simp only[beq_iff_eq,decide_eq_true_iff]
  (repeat' split) <;> omega
 cases hN:Lx.name name
 ·clear key
  go_enter Tryz.func133,Tryz.ntmps133
  go_wp2_with (go_at_call 132;refine (qb2 _ _ h1).mono ?_;rintro e w' ⟨rfl,hw'⟩;have hw2:=hw'.symm;subst hw2)
  go_ret
  exact⟨qai (by rw[<- HS.out,hN];rfl),(Below.refl _ _).al qaa _⟩
 by_cases hM:lo=-9223372036854775808\/hi=-9223372036854775808\/init=-9223372036854775808
 ·rw[decide_eq_true hM] at key
  have HM:=hid hM
  clear hM
  go_enter Tryz.func133,Tryz.ntmps133
  go_wp2_with (go_at_call 132;refine (qb2 _ _ h1).mono ?_;rintro e w' ⟨rfl,hw'⟩;have hw2:=hw'.symm;subst hw2)
  all_goals go_ret
  all_goals refine⟨qai ?_,(Below.refl _ _).al qaa _⟩
  all_goals (rw[<- HS.out,hN,decide_eq_true HM.out];rfl)
 ·rw[decide_eq_false hM] at key
  have HM:=hid hM
  clear hM
  rw[hN,decide_eq_false HM.out,Bool.not_false,Bool.true_and,Bool.true_and] at HS
  go_enter Tryz.func133,Tryz.ntmps133
  go_wp2_with (go_at_call 132;refine (qb2 _ _ h1).mono ?_;rintro e w' ⟨rfl,hw'⟩;have hw2:=hw'.symm;subst hw2)
  all_goals go_ret
  all_goals refine⟨qai ?_,(Below.refl _ _).al qaa _⟩
  all_goals rw[<- HS.out]
  all_goals (clear key HS;simp only[beq_iff_eq,beq_eq_false_iff_ne,ne_eq] at *)
  all_goals (rw[Bool.eq_iff_iff];simp;omega)
open Go.RowKit
theorem qfh {α:Type}(f:α->Bool) (l:List α) (k:Nat) (h:k<l.length):(l.take (k+1)).all f=((l.take k).all f&&f l[k]):=by
 rw[List.take_succ_eq_append_getElem h,List.all_append];simp
theorem qg3 {α:Type}(f:α->Bool) (l:List α) (k:Nat) (h:k<l.length) (hf:f l[k]=false):l.all f=false:=by
 rw[List.all_eq_false];exact⟨l[k],List.getElem_mem h,by rw[hf];simp⟩
theorem qyt {n:Nat}{W w1:World}(hb:Below n W w1):(∀b o,b<n->w1.cell? ⟨b,o,none⟩=W.cell? ⟨b,o,none⟩)/\(∀b o,b<n->w1.frozen? ⟨b,o,none⟩=W.frozen? ⟨b,o,none⟩):=
 ⟨λb o h=>hb.cell (p:=⟨b,o,none⟩) h,λb o h=>hb.frozen (p:=⟨b,o,none⟩) h⟩
def Ro.ok (r:Ro):Bool:=Lx.name r.name&&qby r.count (!r.star)
def Mo.ok (m:Mo):Bool:=Lx.name m.name&&decide (m.vars.length<=16)&&decide (m.meths.length<=16)&&m.vars.all Va.ok&&m.meths.all λx=>Lx.name x.name
def Pr.decl (p:Pr):Bool:=decide (p.mons.length<=8)&&decide (p.roles.length<=8)&&p.mons.all Mo.ok&&p.roles.all Ro.ok
theorem qqo (nz:Nat) (r:Ro) (w:World) (hr:r.Is nz w) :
  Calls Tryz.prog 118 #[r.val] w λe w'=>e=.returned (.bool r.ok)/\Below w.heap.size w w':=by
 have h1:=hr.1
 obtain⟨res,hres⟩:∃res,r.ok=res:=⟨_,rfl⟩
 rw[hres]
 have HS:Hid ((Lx.name r.name&&qby r.count (!r.star))=res):=hres
 clear hres hr
 rcases r with ⟨name,star,count,⟨ad,cap,body⟩,pos⟩
 simp only[Ro.val,Ro.cells,Bl.slice] at HS h1 ⊢
 cases hN:Lx.name name
 ·go_enter Tryz.func118,Tryz.ntmps118
  go_wp2_with (go_at_call 132;refine (qb2 _ _ h1).mono ?_;rintro e w' ⟨rfl,hw'⟩;have hw2:=hw'.symm;subst hw2)
  go_ret
  exact⟨qai (by rw[<- HS.out,hN];rfl),(Below.refl _ _).al qaa _⟩
 ·go_enter Tryz.func118,Tryz.ntmps118
  go_wp2_with (first|(go_at_call 132;refine (qb2 _ _ h1).mono ?_;rintro e w' ⟨rfl,hw'⟩;have hw2:=hw'.symm;subst hw2)|(go_at_call 122;refine (qa1 _ _ _).mono ?_;rintro e w' ⟨rfl,hw'⟩;have hw2:=hw'.symm;subst hw2))
  go_ret
  exact⟨qai (by rw[<- HS.out,hN];rfl),(Below.refl _ _).al qaa _⟩
theorem qj3 (nz:Nat) (m:Mo) (w:World) (hn:nz<=w.heap.size) (hm:m.Is nz w) :
  Calls Tryz.prog 117 #[m.val] w λe w'=>e=.returned (.bool m.ok)/\Below w.heap.size w w':=by
 obtain⟨res,hres⟩:∃res,m.ok=res:=⟨_,rfl⟩
 rw[hres]
 have HS:Hid ((Lx.name m.name&&decide (m.vars.length<=16)&&decide (m.meths.length<=16)&&m.vars.all Va.ok&&m.meths.all λx=>Lx.name x.name)=res):=hres
 clear hres
 rcases m with ⟨name,vad,vcap,vars,mad,mcap,meths,pos⟩
 obtain⟨⟨h1,h2⟩,⟨h3,h4⟩,h5,h6⟩:=hm
 simp only[Mo.val,Mo.cells] at HS h1 h2 h3 h4 h5 h6 ⊢
 have hl1:=h3.1;have hl2:=h3.2.1;have hl3:=h5.1;have hl4:=h5.2.1
 unfold maxLen at hl2 hl4
 cases hN:Lx.name name
 ·go_enter Tryz.func117,Tryz.ntmps117
  go_wp2_with (go_at_call 132;refine (qb2 _ _ h1).mono ?_;rintro e w' ⟨rfl,hw'⟩;have hw2:=hw'.symm;subst hw2)
  go_ret
  exact⟨qai (by rw[<- HS.out,hN];rfl),(Below.refl _ _).al qaa _⟩
 by_cases hv:vars.length<=16
 ·by_cases hv2:meths.length<=16
  ·rw[hN,decide_eq_true hv,decide_eq_true hv2,Bool.true_and,Bool.true_and,Bool.true_and] at HS
   go_enter Tryz.func117,Tryz.ntmps117
   go_wp2_with (go_at_call 132;refine (qb2 _ _ h1).mono ?_;rintro e w' ⟨rfl,hw'⟩;have hw2:=hw'.symm;subst hw2)
   go_loopw [26] (λi wr=>∃k:Nat,k<=vars.length/\i=.int .i64 k/\Hid ((vars.take k).all Va.ok=true)/\Below (w.heap.size+1) (w.alloc (.cells #[.string name,.slice vad vars.length vcap,.slice mad meths.length mcap,.int .i64 pos] 36)) wr) (λi _=>vars.length-(intOf i).toNat)
   case atStart=>exact⟨0,by omega,rfl,rfl,Below.refl _ _⟩
   case round =>
    obtain⟨k,hk,rfl,HA,hbw⟩:=hrel
    have hb0:Below nz w wr:=((Below.refl nz w).al hn _).trans (hbw.mono (by omega))
    have hz:=hbw.size
    simp at hz
    by_cases hlt:k<vars.length
    ·rcases h3.2.2 with h|⟨b,off,rfl,hbn,hrow⟩
     ·subst h;simp at hlt
     have hbn1:b<wr.heap.size:=by omega
     have HSN:=hid (qfh Va.ok vars k hlt)
     have HC:=hid (qg3 Va.ok vars k hlt)
     have hq:=qtb vars[k] (wr.alloc (.cells (vars[k]).cells.toArray 53)) (h4 _ (List.getElem_mem hlt))
     have hr:=hrow.below hb0 hbn
     cases hf:Va.ok vars[k]
     ·rw[hf] at hq
      have HF:=hid hf
      clear hf
      rcases he:vars[k] with ⟨vname,vtype,vlo,vhi,vinit,vpos⟩
      obtain⟨c0,c1,c2,c3,c4,c5⟩:=qkt hr k hlt (by rw[he];rfl)
      simp only[he,Va.val,Va.cells] at hq
      clear he
      go_wp2_with (go_at_call 133;refine hq.mono ?_;rintro e w1 ⟨rfl,hb1⟩)
      go_ret
      exact⟨qai (by rw[<- HS.out,HC.out HF.out];rfl),((((Below.refl _ w).al qaa _).trans (hbw.mono (by omega))).al qaa _).tr qaa hb1⟩
     ·rw[hf] at hq
      have HF:=hid hf
      clear hf
      rcases he:vars[k] with ⟨vname,vtype,vlo,vhi,vinit,vpos⟩
      obtain⟨c0,c1,c2,c3,c4,c5⟩:=qkt hr k hlt (by rw[he];rfl)
      simp only[he,Va.val,Va.cells] at hq
      clear he
      go_wp2_with (go_at_call 133;refine hq.mono ?_;rintro e w1 ⟨rfl,hb1⟩)
      go_roundw
      case rel=>exact⟨k+1,by omega,by go_num,by show _=_;rw[HSN.out,HA.out,HF.out];rfl,(hbw.al (by simp) _).tr (by simp) hb1⟩
      case measure=>simp[intOf];omega
    ·have HVA:Hid (vars.all Va.ok=true):=by
      show _=_
      have:=HA.out
      rw[List.take_of_length_le (by omega)] at this
      exact this
     obtain⟨hcc,hff⟩:=qyt hbw
     go_wp2
     go_loopw [37] (λi wr=>∃k:Nat,k<=meths.length/\i=.int .i64 k/\Hid ((meths.take k).all (λx=>Lx.name x.name)=true)/\Below w.heap.size w wr) (λi _=>meths.length-(intOf i).toNat)
     case atStart=>exact⟨0,by omega,rfl,rfl,((Below.refl _ w).al qaa _).trans (hbw.mono (by omega))⟩
     case round =>
      obtain⟨k2,hk2,rfl,HA2,hbw2⟩:=hrel
      have hb2:=hbw2.mono hn
      have hz2:=hbw2.size
      by_cases hlt2:k2<meths.length
      ·rcases h5.2.2 with h|⟨b,off,rfl,hbn,hrow⟩
       ·subst h;simp at hlt2
       have hbn1:b<wr.heap.size:=by omega
       have HSN:=hid (qfh (λx:Me=>Lx.name x.name) meths k2 hlt2)
       have HC:=hid (qg3 (λx:Me=>Lx.name x.name) meths k2 hlt2)
       have hr:=hrow.below hb2 hbn
       have hMI:=h6 _ (List.getElem_mem hlt2)
       cases hf:Lx.name (meths[k2]).name
       ·rcases he:meths[k2] with ⟨mname,⟨bad,bcap,bbody⟩,mpos⟩
        obtain⟨c0,c1,c2⟩:=qun hr k2 hlt2 (by rw[he];rfl)
        simp only[Bl.slice] at c1
        have HF:=hid hf
        rw[he] at hf
        simp only at hf
        rw[he] at hMI
        have hLm:=hMI.1
        clear he
        go_wp2_with (go_at_call 132;refine (qb2 _ _ hLm).mono ?_;rintro e w' ⟨rfl,hw'⟩;have hw2:=hw'.symm;subst hw2)
        go_ret
        exact⟨qai (by rw[<- HS.out,HVA.out,HC.out HF.out];rfl),hbw2.al qaa _⟩
       ·rcases he:meths[k2] with ⟨mname,⟨bad,bcap,bbody⟩,mpos⟩
        obtain⟨c0,c1,c2⟩:=qun hr k2 hlt2 (by rw[he];rfl)
        simp only[Bl.slice] at c1
        have HF:=hid hf
        rw[he] at hf
        simp only at hf
        rw[he] at hMI
        have hLm:=hMI.1
        clear he
        go_wp2_with (go_at_call 132;refine (qb2 _ _ hLm).mono ?_;rintro e w' ⟨rfl,hw'⟩;have hw2:=hw'.symm;subst hw2)
        go_roundw
        case rel=>exact⟨k2+1,by omega,by go_num,by show _=_;rw[HSN.out,HA2.out,HF.out];rfl,hbw2.al qaa _⟩
        case measure=>simp[intOf];omega
      ·go_wp2
       go_ret
       refine⟨qai ?_,hbw2⟩
       have:=HA2.out
       rw[List.take_of_length_le (by omega)] at this
       rw[<- HS.out,HVA.out,this];rfl
  ·rw[decide_eq_false hv2,Bool.and_false,Bool.false_and,Bool.false_and] at HS
   go_enter Tryz.func117,Tryz.ntmps117
   go_wp2_with (go_at_call 132;refine (qb2 _ _ h1).mono ?_;rintro e w' ⟨rfl,hw'⟩;have hw2:=hw'.symm;subst hw2)
   go_ret
   exact⟨qai HS.out,(Below.refl _ _).al qaa _⟩
 ·rw[decide_eq_false hv,Bool.and_false,Bool.false_and,Bool.false_and,Bool.false_and] at HS
  go_enter Tryz.func117,Tryz.ntmps117
  go_wp2_with (go_at_call 132;refine (qb2 _ _ h1).mono ?_;rintro e w' ⟨rfl,hw'⟩;have hw2:=hw'.symm;subst hw2)
  go_ret
  exact⟨qai HS.out,(Below.refl _ _).al qaa _⟩
