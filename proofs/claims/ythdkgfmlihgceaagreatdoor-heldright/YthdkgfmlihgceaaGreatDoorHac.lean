import Derived.Test.YthdkgfmlihgceaaGreatDoorHab
namespace Go.Proofs.YthdkgfmlihgceaaGreatDoor
set_option maxHeartbeats 1000000
open Go.RowKit
mutual
inductive St where
 | mk (kind:Int) (mon name:ByteArray) (n:Int) (e:Ex) (ad:Option Addr) (cap:Nat) (blocks:List Bl) (pos:Int)
inductive Bl where
 | mk (ad:Option Addr) (cap:Nat) (body:List St)
end
def Bl.body:Bl->List St
 | .mk _ _ body=>body
def Bl.slice:Bl->Value
 | .mk ad cap body=>.slice ad body.length cap
def Bl.cells (b:Bl):List Value:=[b.slice]
def St.cells:St->List Value
 | .mk kind mon name n e ad cap blocks pos=>[.int .i64 kind,.string mon,.string name,.int .i64 n]++e.cells++[.slice ad blocks.length cap,.int .i64 pos]
def St.val (s:St):Value:=.agg s.cells.toArray
def St.e:St->Ex
 | .mk _ _ _ _ e _ _ _ _=>e
mutual
def St.Is (nz:Nat) (W:World):St->Prop
 | .mk kind mon name n e ad cap blocks pos=>(I64 kind/\I64 n/\I64 pos/\Len mon/\Len name)/\e.Is nz W/\SlAt 1 Bl.cells nz W ad cap blocks/\∀b,(h:b∈blocks)->Bl.Is nz W b
def Bl.Is (nz:Nat) (W:World):Bl->Prop
 | .mk ad cap body=>SlAt 12 St.cells nz W ad cap body/\∀s,(h:s∈body)->St.Is nz W s
end
theorem St.Is.down {nz:Nat}{W:World}{kind:Int}{mon name:ByteArray}{n:Int}{e:Ex}{ad:Option Addr}{cap:Nat}{blocks:List Bl}{pos:Int}(h:(St.mk kind mon name n e ad cap blocks pos).Is nz W) :
  (I64 kind/\I64 n/\I64 pos/\Len mon/\Len name)/\e.Is nz W/\SlAt 1 Bl.cells nz W ad cap blocks/\∀b∈blocks,b.Is nz W:=by rw[St.Is] at h;exact h
theorem Bl.Is.down {nz:Nat}{W:World}{ad:Option Addr}{cap:Nat}{body:List St}(h:(Bl.mk ad cap body).Is nz W):SlAt 12 St.cells nz W ad cap body/\∀s∈body,s.Is nz W:=by rw[Bl.Is] at h;exact h
theorem St.Is.up {nz:Nat}{W:World}{kind:Int}{mon name:ByteArray}{n:Int}{e:Ex}{ad:Option Addr}{cap:Nat}{blocks:List Bl}{pos:Int}
  (h:(I64 kind/\I64 n/\I64 pos/\Len mon/\Len name)/\e.Is nz W/\SlAt 1 Bl.cells nz W ad cap blocks/\∀b∈blocks,b.Is nz W):(St.mk kind mon name n e ad cap blocks pos).Is nz W:=by rw[St.Is];exact h
theorem Bl.Is.up {nz:Nat}{W:World}{ad:Option Addr}{cap:Nat}{body:List St}(h:SlAt 12 St.cells nz W ad cap body/\∀s∈body,s.Is nz W):(Bl.mk ad cap body).Is nz W:=by rw[Bl.Is];exact h
mutual
theorem St.ind {P:St->Prop}{Q:Bl->Prop}(h1:∀kind mon name n e ad cap blocks pos,(∀b∈blocks,Q b)->P (.mk kind mon name n e ad cap blocks pos)) (h2:∀ad cap body,(∀s∈body,P s)->Q (.mk ad cap body)):∀s,P s
 | .mk kind mon name n e ad cap blocks pos=>h1 kind mon name n e ad cap blocks pos (λb _=>Bl.ind h1 h2 b)
theorem Bl.ind {P:St->Prop}{Q:Bl->Prop}(h1:∀kind mon name n e ad cap blocks pos,(∀b∈blocks,Q b)->P (.mk kind mon name n e ad cap blocks pos)) (h2:∀ad cap body,(∀s∈body,P s)->Q (.mk ad cap body)):∀b,Q b
 | .mk ad cap body=>h2 ad cap body (λs _=>St.ind h1 h2 s)
end
theorem Bl.Is.below {nz:Nat}{W W':World}(hb:Below nz W W') {b:Bl}:b.Is nz W->b.Is nz W':=
 Bl.ind (P:=λs=>s.Is nz W->s.Is nz W') (Q:=λb=>b.Is nz W->b.Is nz W') (λ_ _ _ _ _ _ _ _ _ ih h=>St.Is.up ⟨h.down.1,h.down.2.1.below hb,h.down.2.2.1.below hb,λb hb'=>ih b hb' (h.down.2.2.2 b hb')⟩)
  (λ_ _ _ ih h=>Bl.Is.up ⟨h.down.1.below hb,λs hs=>ih s hs (h.down.2 s hs)⟩) b
theorem St.Is.below {nz:Nat}{W W':World}(hb:Below nz W W') {s:St}:s.Is nz W->s.Is nz W':=
 St.ind (P:=λs=>s.Is nz W->s.Is nz W') (Q:=λb=>b.Is nz W->b.Is nz W') (λ_ _ _ _ _ _ _ _ _ ih h=>St.Is.up ⟨h.down.1,h.down.2.1.below hb,h.down.2.2.1.below hb,λb hb'=>ih b hb' (h.down.2.2.2 b hb')⟩)
  (λ_ _ _ ih h=>Bl.Is.up ⟨h.down.1.below hb,λs hs=>ih s hs (h.down.2 s hs)⟩) s
theorem Bl.Is.mono {nz n₁:Nat}{W:World}(hn:nz<=n₁) {b:Bl}:b.Is nz W->b.Is n₁ W:=
 Bl.ind (P:=λs=>s.Is nz W->s.Is n₁ W) (Q:=λb=>b.Is nz W->b.Is n₁ W) (λ_ _ _ _ _ _ _ _ _ ih h=>St.Is.up ⟨h.down.1,h.down.2.1.mono hn,h.down.2.2.1.mono hn,λb hb'=>ih b hb' (h.down.2.2.2 b hb')⟩)
  (λ_ _ _ ih h=>Bl.Is.up ⟨h.down.1.mono hn,λs hs=>ih s hs (h.down.2 s hs)⟩) b
mutual
def St.subs:St->List St
 | .mk kind mon name n e ad cap blocks pos=>.mk kind mon name n e ad cap blocks pos::Bl.subsL blocks
def Bl.subs:Bl->List St
 | .mk _ _ body=>St.subsL body
def St.subsL:List St->List St
 | []=>[]
 | s::r=>s.subs++St.subsL r
def Bl.subsL:List Bl->List St
 | []=>[]
 | b::r=>b.subs++Bl.subsL r
end
theorem St.subsL_eq (l:List St):St.subsL l=l.flatMap St.subs:=by
 induction l with
 | nil=>simp[St.subsL]
 | cons a l ih=>simp[St.subsL,ih]
theorem Bl.subsL_eq (l:List Bl):Bl.subsL l=l.flatMap Bl.subs:=by
 induction l with
 | nil=>simp[Bl.subsL]
 | cons a l ih=>simp[Bl.subsL,ih]
theorem qa0 {α β:Type}(f:α->List β) (l:List α) (k:Nat) (h:k<l.length):(l.take (k+1)).flatMap f=(l.take k).flatMap f++f l[k]:=by
 rw[List.take_succ_eq_append_getElem h,List.flatMap_append,List.flatMap_cons,List.flatMap_nil,List.append_nil]
theorem St.subs_mk (kind:Int) (mon name:ByteArray) (n:Int) (e:Ex) (ad:Option Addr) (cap:Nat) (blocks:List Bl) (pos:Int):(St.mk kind mon name n e ad cap blocks pos).subs=.mk kind mon name n e ad cap blocks pos::blocks.flatMap Bl.subs:=by rw[St.subs,Bl.subsL_eq]
theorem Bl.subs_mk (ad:Option Addr) (cap:Nat) (body:List St):(Bl.mk ad cap body).subs=body.flatMap St.subs:=by rw[Bl.subs,St.subsL_eq]
theorem Bl.Is.subs {nz:Nat}{W:World}{b:Bl}:b.Is nz W->∀x∈b.subs,x.Is nz W:=
 Bl.ind (P:=λs=>s.Is nz W->∀x∈s.subs,x.Is nz W) (Q:=λb=>b.Is nz W->∀x∈b.subs,x.Is nz W) (λ_ _ _ _ _ _ _ _ _ ih h x hx=>by
   rw[St.subs_mk,List.mem_cons,List.mem_flatMap] at hx
   rcases hx with rfl|⟨y,hy,hx⟩
   ·exact h
   ·exact ih y hy (h.down.2.2.2 y hy) x hx)
  (λ_ _ _ ih h x hx=>by
   rw[Bl.subs_mk,List.mem_flatMap] at hx
   obtain⟨y,hy,hx⟩:=hx
   exact ih y hy (h.down.2 y hy) x hx) b
structure Va where
 name:ByteArray
 type:Int
 lo:Int
 hi:Int
 init:Int
 pos:Int
def Va.cells (v:Va):List Value:=[.string v.name,.int .i64 v.type,.int .i64 v.lo,.int .i64 v.hi,.int .i64 v.init,.int .i64 v.pos]
def Va.val (v:Va):Value:=.agg v.cells.toArray
def Va.Is (v:Va):Prop:=Len v.name/\I64 v.type/\I64 v.lo/\I64 v.hi/\I64 v.init/\I64 v.pos
structure Me where
 name:ByteArray
 body:Bl
 pos:Int
def Me.cells (m:Me):List Value:=[.string m.name,m.body.slice,.int .i64 m.pos]
def Me.Is (nz:Nat) (W:World) (m:Me):Prop:=Len m.name/\I64 m.pos/\m.body.Is nz W
structure Mo where
 name:ByteArray
 vad:Option Addr
 vcap:Nat
 vars:List Va
 mad:Option Addr
 mcap:Nat
 meths:List Me
 pos:Int
def Mo.cells (m:Mo):List Value:=[.string m.name,.slice m.vad m.vars.length m.vcap,.slice m.mad m.meths.length m.mcap,.int .i64 m.pos]
def Mo.val (m:Mo):Value:=.agg m.cells.toArray
def Mo.Is (nz:Nat) (W:World) (m:Mo):Prop:=(Len m.name/\I64 m.pos)/\(SlAt 6 Va.cells nz W m.vad m.vcap m.vars/\∀v∈m.vars,v.Is)/\SlAt 3 Me.cells nz W m.mad m.mcap m.meths/\∀x∈m.meths,x.Is nz W
structure Ro where
 name:ByteArray
 star:Bool
 count:Int
 body:Bl
 pos:Int
def Ro.cells (r:Ro):List Value:=[.string r.name,.bool r.star,.int .i64 r.count,r.body.slice,.int .i64 r.pos]
def Ro.val (r:Ro):Value:=.agg r.cells.toArray
def Ro.Is (nz:Nat) (W:World) (r:Ro):Prop:=Len r.name/\I64 r.count/\I64 r.pos/\r.body.Is nz W
structure Pr where
 mad:Option Addr
 mcap:Nat
 mons:List Mo
 rad:Option Addr
 rcap:Nat
 roles:List Ro
def Pr.val (p:Pr):Value:=.agg #[.slice p.mad p.mons.length p.mcap,.slice p.rad p.roles.length p.rcap]
def Pr.Is (nz:Nat) (W:World) (p:Pr):Prop:=(SlAt 4 Mo.cells nz W p.mad p.mcap p.mons/\∀m∈p.mons,m.Is nz W)/\SlAt 5 Ro.cells nz W p.rad p.rcap p.roles/\∀r∈p.roles,r.Is nz W
def Pr.stmts (p:Pr):List St:=p.mons.flatMap (λm=>m.meths.flatMap λx=>x.body.subs)++p.roles.flatMap λr=>r.body.subs
theorem Me.Is.below {nz:Nat}{W W':World}(hb:Below nz W W') {m:Me}(h:m.Is nz W):m.Is nz W':=⟨h.1,h.2.1,h.2.2.below hb⟩
theorem Mo.Is.below {nz:Nat}{W W':World}(hb:Below nz W W') {m:Mo}(h:m.Is nz W):m.Is nz W':=⟨h.1,⟨h.2.1.1.below hb,h.2.1.2⟩,h.2.2.1.below hb,λx hx=>(h.2.2.2 x hx).below hb⟩
theorem Ro.Is.below {nz:Nat}{W W':World}(hb:Below nz W W') {r:Ro}(h:r.Is nz W):r.Is nz W':=⟨h.1,h.2.1,h.2.2.1,h.2.2.2.below hb⟩
theorem Pr.Is.below {nz:Nat}{W W':World}(hb:Below nz W W') {p:Pr}(h:p.Is nz W):p.Is nz W':=⟨⟨h.1.1.below hb,λm hm=>(h.1.2 m hm).below hb⟩,h.2.1.below hb,λr hr=>(h.2.2 r hr).below hb⟩
theorem Me.Is.mono {nz n₁:Nat}{W:World}(hn:nz<=n₁) {m:Me}(h:m.Is nz W):m.Is n₁ W:=⟨h.1,h.2.1,h.2.2.mono hn⟩
theorem Mo.Is.mono {nz n₁:Nat}{W:World}(hn:nz<=n₁) {m:Mo}(h:m.Is nz W):m.Is n₁ W:=⟨h.1,⟨h.2.1.1.mono hn,h.2.1.2⟩,h.2.2.1.mono hn,λx hx=>(h.2.2.2 x hx).mono hn⟩
theorem Ro.Is.mono {nz n₁:Nat}{W:World}(hn:nz<=n₁) {r:Ro}(h:r.Is nz W):r.Is n₁ W:=⟨h.1,h.2.1,h.2.2.1,h.2.2.2.mono hn⟩
theorem Pr.Is.mono {nz n₁:Nat}{W:World}(hn:nz<=n₁) {p:Pr}(h:p.Is nz W):p.Is n₁ W:=⟨⟨h.1.1.mono hn,λm hm=>(h.1.2 m hm).mono hn⟩,h.2.1.mono hn,λr hr=>(h.2.2 r hr).mono hn⟩
open Go.RowKit
def Mo.nps (m:Mo):List (ByteArray × Int):=m.vars.map (λv=>(v.name,v.pos))++m.meths.map (λf=>(f.name,f.pos))
def Mo.nms (m:Mo):List (ByteArray × Int):=m.vars.map (λv=>(v.name,1))++m.meths.map (λf=>(f.name,2))
def qrs (seen:List ByteArray) (n:ByteArray):Bool:=seen.any λs=>decide (s=n)
theorem qbo {seen:List ByteArray}{n:ByteArray}:qrs seen n=true↔n∈seen:=by
 rw[qrs,List.any_eq_true]
 constructor
 ·rintro⟨x,hx,h⟩
  exact (of_decide_eq_true h)▸hx
 ·intro h
  exact⟨n,h,by simp⟩
theorem qsv {seen:List ByteArray}{n:ByteArray}(h:¬ qrs seen n=true):n ∉ seen:=λh'=>h (qbo.2 h')
def qip:List ByteArray->List (ByteArray × Int)->Option Int
 | _,[]=>none
 | seen,x::r=>if qrs seen x.1 then some x.2 else qip (seen++[x.1]) r
theorem qqb (seen:List ByteArray) (l:List (ByteArray × Int)) (hs:seen.Nodup) (h:qip seen l=none):(seen++l.map Prod.fst).Nodup:=by
 induction l generalizing seen with
 | nil=>simpa using hs
 | cons x l ih =>
  rw[qip] at h
  split at h
  ·cases h
  ·rename_i hx'
   have hx:=qsv hx'
   have h1:=ih (seen++[x.1]) (List.nodup_append.2 ⟨hs,by simp,λa ha b hb=>by simp at hb;rintro rfl;exact hx (hb▸ha)⟩) h
   simpa using h1
def qbw:List ByteArray->List Mo->Option Int
 | _,[]=>none
 | seen,m::r=>if qrs seen m.name then some m.pos else (qip [] m.nps).or (qbw (seen++[m.name]) r)
def qcn:List ByteArray->List Ro->Option (Int × Int)
 | _,[]=>none
 | seen,r::rs=>if qrs seen r.name then some (60,r.pos) else if r.star=false/\(r.count<1\/8<r.count) then some (6,r.pos) else qcn (seen++[r.name]) rs
theorem qp8 (l:List Mo) (k:Nat) (h:k<l.length) (seen:List ByteArray):qbw seen (l.drop k)=if qrs seen l[k].name then some l[k].pos else (qip [] l[k].nps).or (qbw (seen++[l[k].name]) (l.drop (k+1))):=by
 rw[List.drop_eq_getElem_cons h,qbw]
theorem qq7 (l:List Ro) (k:Nat) (h:k<l.length) (seen:List ByteArray):qcn seen (l.drop k)=if qrs seen l[k].name then some (60,l[k].pos) else if l[k].star=false/\(l[k].count<1\/8<l[k].count) then some (6,l[k].pos) else qcn (seen++[l[k].name]) (l.drop (k+1)):=by
 rw[List.drop_eq_getElem_cons h,qcn]
theorem qjc {α:Type}(f:α->ByteArray) (l:List α) (k:Nat) (h:k<l.length):(l.take (k+1)).map f=(l.take k).map f++[f l[k]]:=by
 rw[List.take_succ_eq_append_getElem h,List.map_append];rfl
structure Lk where
 V:ByteArray->ByteArray->Bool
 F:ByteArray->ByteArray->Bool
 M:ByteArray->Bool
mutual
def Ex.unk (k:Lk):Ex->Option Int
 | .mk op mon name _ _ _ kids pos=>if op=4/\k.V mon name=false then some pos else Ex.unkL k kids
def Ex.unkL (k:Lk):List Ex->Option Int
 | []=>none
 | e::r=>(Ex.unk k e).or (Ex.unkL k r)
end
theorem Ex.unk_mk (k:Lk) (op:Int) (mon name:ByteArray) (n:Int) (ad:Option Addr) (cap:Nat) (kids:List Ex) (pos:Int):(Ex.mk op mon name n ad cap kids pos).unk k=if op=4/\k.V mon name=false then some pos else Ex.unkL k kids:=by rw[Ex.unk]
theorem Ex.unkL_drop (k:Lk) (l:List Ex) (j:Nat) (h:j<l.length):Ex.unkL k (l.drop j)=(l[j].unk k).or (Ex.unkL k (l.drop (j+1))):=by
 rw[List.drop_eq_getElem_cons h,Ex.unkL]
theorem Ex.unkL_end (k:Lk) (l:List Ex) (j:Nat) (h:l.length<=j):Ex.unkL k (l.drop j)=none:=by
 rw[List.drop_of_length_le h,Ex.unkL]
def St.knows (k:Lk):St->Bool
 | .mk kind mon name _ _ _ _ _ _=>if kind=2 then k.V mon name else if kind=8 then k.F mon name else if kind=7\/kind=9\/kind=10\/kind=11 then k.M mon else true
mutual
def St.unk (k:Lk):St->Option Int
 | .mk kind mon name n e ad cap blocks pos=>if St.knows k (.mk kind mon name n e ad cap blocks pos)=false then some pos else (e.unk k).or (Bl.unkL k blocks)
def Bl.unk (k:Lk):Bl->Option Int
 | .mk _ _ body=>St.unkL k body
def St.unkL (k:Lk):List St->Option Int
 | []=>none
 | s::r=>(St.unk k s).or (St.unkL k r)
def Bl.unkL (k:Lk):List Bl->Option Int
 | []=>none
 | b::r=>(Bl.unk k b).or (Bl.unkL k r)
end
theorem St.unk_mk (k:Lk) (kind:Int) (mon name:ByteArray) (n:Int) (e:Ex) (ad:Option Addr) (cap:Nat) (blocks:List Bl) (pos:Int):(St.mk kind mon name n e ad cap blocks pos).unk k=if St.knows k (.mk kind mon name n e ad cap blocks pos)=false then some pos else (e.unk k).or (Bl.unkL k blocks):=by rw[St.unk]
theorem Bl.unk_mk (k:Lk) (ad:Option Addr) (cap:Nat) (body:List St):(Bl.mk ad cap body).unk k=St.unkL k body:=by rw[Bl.unk]
theorem St.unkL_drop (k:Lk) (l:List St) (j:Nat) (h:j<l.length):St.unkL k (l.drop j)=(l[j].unk k).or (St.unkL k (l.drop (j+1))):=by
 rw[List.drop_eq_getElem_cons h,St.unkL]
theorem St.unkL_end (k:Lk) (l:List St) (j:Nat) (h:l.length<=j):St.unkL k (l.drop j)=none:=by
 rw[List.drop_of_length_le h,St.unkL]
theorem Bl.unkL_drop (k:Lk) (l:List Bl) (j:Nat) (h:j<l.length):Bl.unkL k (l.drop j)=(l[j].unk k).or (Bl.unkL k (l.drop (j+1))):=by
 rw[List.drop_eq_getElem_cons h,Bl.unkL]
theorem Bl.unkL_end (k:Lk) (l:List Bl) (j:Nat) (h:l.length<=j):Bl.unkL k (l.drop j)=none:=by
 rw[List.drop_of_length_le h,Bl.unkL]
def qdo {α:Type}(f:α->Option Int):List α->Option Int
 | []=>none
 | a::r=>(f a).or (qdo f r)
theorem qgr {α:Type}(f:α->Option Int) (l:List α) (j:Nat) (h:j<l.length):qdo f (l.drop j)=(f l[j]).or (qdo f (l.drop (j+1))):=by
 rw[List.drop_eq_getElem_cons h,qdo]
theorem qil {α:Type}(f:α->Option Int) (l:List α) (j:Nat) (h:l.length<=j):qdo f (l.drop j)=none:=by
 rw[List.drop_of_length_le h,qdo]
def Me.unk (k:Lk) (m:Me):Option Int:=m.body.unk k
def Mo.unk (k:Lk) (m:Mo):Option Int:=qdo (Me.unk k) m.meths
def Ro.unk (k:Lk) (r:Ro):Option Int:=r.body.unk k
def Pr.unk (k:Lk) (p:Pr):Option Int:=(qdo (Mo.unk k) p.mons).or (qdo (Ro.unk k) p.roles)
def qe8 (l:List Mo) (mon:ByteArray):Option Mo:=l.find? λm=>decide (m.name=mon)
def Pr.lk (p:Pr):Lk where
 V:=λmon name=>match qe8 p.mons mon with|some m=>m.vars.any (λv=>decide (v.name=name))|none=>false
 F:=λmon name=>match qe8 p.mons mon with|some m=>m.meths.any (λv=>decide (v.name=name))|none=>false
 M:=λmon=>(qe8 p.mons mon).isSome
def Pr.chk (p:Pr):Int × Int:=
 match qbw [] p.mons with
 | some a=>(60,a)
 | none=>match qcn [] p.roles with
  | some x=>x
  | none=>match p.unk p.lk with
   | some a=>(61,a)
   | none=>(0,0)
def qbj (l:List (ByteArray × Int)) (n:ByteArray):Int:=match l.find? (λx=>decide (x.1=n)) with|some x=>x.2|none=>0
def qbd (S:List (ByteArray × List (ByteArray × Int))):Lk where
 V:=λmon name=>match S.find? (λx=>decide (x.1=mon)) with|some x=>decide (qbj x.2 name=1)|none=>false
 F:=λmon name=>match S.find? (λx=>decide (x.1=mon)) with|some x=>decide (qbj x.2 name=2)|none=>false
 M:=λmon=>(S.find? (λx=>decide (x.1=mon))).isSome
def qir (l:List Mo):List (ByteArray × List (ByteArray × Int)):=l.map λm=>(m.name,m.nms)
theorem qhq (l:List Mo) (mon:ByteArray):(qir l).find? (λx=>decide (x.1=mon))=(qe8 l mon).map λm=>(m.name,m.nms):=by
 induction l with
 | nil=>rfl
 | cons m l ih =>
  simp only[qir,List.map_cons,List.find?_cons,qe8] at ih ⊢
  cases decide (m.name=mon) with
  | true=>rfl
  | false=>exact ih
theorem qp9 (seen:List ByteArray) (l:List Mo) (h:qbw seen l=none):∀m∈l,qip [] m.nps=none:=by
 induction l generalizing seen with
 | nil=>intro m hm;cases hm
 | cons x l ih =>
  rw[qbw] at h
  split at h
  ·cases h
  ·intro m hm
   rw[Option.or_eq_none_iff] at h
   rcases List.mem_cons.1 hm with rfl|hm
   ·exact h.1
   ·exact ih _ h.2 m hm
theorem qft (a b:List (ByteArray × Int)) (n:ByteArray):qbj (a++b) n=if qrs (a.map Prod.fst) n then qbj a n else qbj b n:=by
 unfold qbj
 rw[List.find?_append]
 by_cases h':qrs (a.map Prod.fst) n=true
 ·rw[if_pos h']
  have h:=qbo.1 h'
  obtain⟨x,hx,rfl⟩:=List.mem_map.1 h
  cases hf:a.find? (λy=>decide (y.1=x.1)) with
  | some y=>rfl
  | none=>exact absurd (List.find?_eq_none.1 hf x hx) (by simp)
 ·rw[if_neg h']
  have h:=qsv h'
  have:a.find? (λy=>decide (y.1=n))=none:=List.find?_eq_none.2 λy hy=>by
   have:y.1≠n:=λe=>h (List.mem_map.2 ⟨y,hy,e⟩)
   simpa using this
  rw[this];rfl
theorem qdj {α:Type}(f:α->ByteArray) (c:Int) (l:List α) (n:ByteArray):qbj (l.map λa=>(f a,c)) n=if l.any (λa=>decide (f a=n)) then c else 0:=by
 induction l with
 | nil=>rfl
 | cons a l ih =>
  simp only[List.map_cons,qbj,List.find?_cons,List.any_cons] at ih ⊢
  by_cases hd:f a=n
  ·simp[hd]
  ·simpa[hd] using ih
theorem qd7 {α:Type}(f:α->ByteArray) (l:List α) (n:ByteArray):(n∈l.map f)↔l.any (λa=>decide (f a=n))=true:=by
 rw[List.any_eq_true]
 constructor
 ·intro h
  obtain⟨a,ha,rfl⟩:=List.mem_map.1 h
  exact⟨a,ha,by simp⟩
 ·rintro⟨a,ha,h⟩
  exact List.mem_map.2 ⟨a,ha,by simpa using h⟩
theorem qAb (m:Mo) (n:ByteArray):decide (qbj m.nms n=1)=m.vars.any (λv=>decide (v.name=n)):=by
 rw[Mo.nms,qft,qdj,qdj,List.map_map]
 have h:(n∈m.vars.map (Prod.fst ∘ λv=>(v.name,(1:Int))))↔m.vars.any (λv=>decide (v.name=n))=true:=qd7 Va.name m.vars n
 cases hv:m.vars.any (λv=>decide (v.name=n)) with
 | true=>rw[if_pos (qbo.2 (h.2 hv))];simp
 | false=>rw[if_neg (λh'=>by rw[h.1 (qbo.1 h')] at hv;cases hv)];split <;> simp
theorem qxh (m:Mo) (n:ByteArray) (hd:qip [] m.nps=none):decide (qbj m.nms n=2)=m.meths.any (λv=>decide (v.name=n)):=by
 have hnd:=qqb [] _ (by simp) hd
 rw[Mo.nms,qft,qdj,qdj,List.map_map]
 have h:(n∈m.vars.map (Prod.fst ∘ λv=>(v.name,(1:Int))))↔m.vars.any (λv=>decide (v.name=n))=true:=qd7 Va.name m.vars n
 have h2:=qd7 Me.name m.meths n
 cases hv:m.vars.any (λv=>decide (v.name=n)) with
 | false=>rw[if_neg (λh'=>by rw[h.1 (qbo.1 h')] at hv;cases hv)];cases m.meths.any (λv=>decide (v.name=n)) <;> simp
 | true =>
  rw[if_pos (qbo.2 (h.2 hv))]
  cases hm:m.meths.any (λv=>decide (v.name=n)) with
  | false=>simp
  | true =>
   exfalso
   simp only[Mo.nps,List.map_append,List.map_map,List.nil_append] at hnd
   have h3:n∈m.vars.map (Prod.fst ∘ λv=>(v.name,v.pos)):=(qd7 Va.name m.vars n).2 hv
   have h4:n∈m.meths.map (Prod.fst ∘ λv=>(v.name,v.pos)):=h2.2 hm
   exact (List.nodup_append.1 hnd).2.2 n h3 n h4 rfl
theorem qus (p:Pr) (h:qbw [] p.mons=none):qbd (qir p.mons)=p.lk:=by
 have he:=qp9 [] p.mons h
 unfold qbd Pr.lk
 congr 1
 ·funext mon name
  rw[qhq]
  cases qe8 p.mons mon with
  | none=>rfl
  | some m=>exact qAb m name
 ·funext mon name
  rw[qhq]
  cases hm:qe8 p.mons mon with
  | none=>rfl
  | some m=>exact qxh m name (he m (List.mem_of_find?_eq_some hm))
 ·funext mon
  rw[qhq]
  cases qe8 p.mons mon <;> rfl
open Go.RowKit
theorem qru {α:Type}{cells:α->List Value}{W:World}{b off:Nat}{l:List α}(h:RowAt 1 cells W b off l) (k:Nat) (hk:k<l.length) {c0:Value}(hc:cells l[k]=[c0]) :
  W.cell? ⟨b,off+k,none⟩=some c0:=by
 have h':=h k hk
 rw[hc] at h'
 have h1:=h' 0 (by omega)
 rw[Nat.mul_one] at h1
 exact h1
theorem qun {α:Type}{cells:α->List Value}{W:World}{b off:Nat}{l:List α}(h:RowAt 3 cells W b off l) (k:Nat) (hk:k<l.length) {c0 c1 c2:Value}(hc:cells l[k]=[c0,c1,c2]) :
  W.cell? ⟨b,off+k*3,none⟩=some c0/\W.cell? ⟨b,off+k*3+1,none⟩=some c1/\W.cell? ⟨b,off+k*3+2,none⟩=some c2:=by
 have h':=h k hk
 rw[hc] at h'
 exact⟨h' 0 (by omega),h' 1 (by omega),h' 2 (by omega)⟩
theorem qra {α:Type}{cells:α->List Value}{W:World}{b off:Nat}{l:List α}(h:RowAt 4 cells W b off l) (k:Nat) (hk:k<l.length) {c0 c1 c2 c3:Value}(hc:cells l[k]=[c0,c1,c2,c3]) :
  W.cell? ⟨b,off+k*4,none⟩=some c0/\W.cell? ⟨b,off+k*4+1,none⟩=some c1/\W.cell? ⟨b,off+k*4+2,none⟩=some c2/\W.cell? ⟨b,off+k*4+3,none⟩=some c3:=by
 have h':=h k hk
 rw[hc] at h'
 exact⟨h' 0 (by omega),h' 1 (by omega),h' 2 (by omega),h' 3 (by omega)⟩
theorem qup {α:Type}{cells:α->List Value}{W:World}{b off:Nat}{l:List α}(h:RowAt 5 cells W b off l) (k:Nat) (hk:k<l.length) {c0 c1 c2 c3 c4:Value}(hc:cells l[k]=[c0,c1,c2,c3,c4]) :
  W.cell? ⟨b,off+k*5,none⟩=some c0/\W.cell? ⟨b,off+k*5+1,none⟩=some c1/\W.cell? ⟨b,off+k*5+2,none⟩=some c2/\W.cell? ⟨b,off+k*5+3,none⟩=some c3/\W.cell? ⟨b,off+k*5+4,none⟩=some c4:=by
 have h':=h k hk
 rw[hc] at h'
 exact⟨h' 0 (by omega),h' 1 (by omega),h' 2 (by omega),h' 3 (by omega),h' 4 (by omega)⟩
theorem qiz {α:Type}{cells:α->List Value}{W:World}{b off:Nat}{l:List α}(h:RowAt 12 cells W b off l) (k:Nat) (hk:k<l.length) {c0 c1 c2 c3 c4 c5 c6 c7 c8 c9 c10 c11:Value}(hc:cells l[k]=[c0,c1,c2,c3,c4,c5,c6,c7,c8,c9,c10,c11]) :
  W.cell? ⟨b,off+k*12,none⟩=some c0/\W.cell? ⟨b,off+k*12+1,none⟩=some c1/\W.cell? ⟨b,off+k*12+2,none⟩=some c2/\W.cell? ⟨b,off+k*12+3,none⟩=some c3/\W.cell? ⟨b,off+k*12+4,none⟩=some c4/\W.cell? ⟨b,off+k*12+5,none⟩=some c5/\W.cell? ⟨b,off+k*12+6,none⟩=some c6/\W.cell? ⟨b,off+k*12+7,none⟩=some c7/\W.cell? ⟨b,off+k*12+8,none⟩=some c8/\W.cell? ⟨b,off+k*12+9,none⟩=some c9/\W.cell? ⟨b,off+k*12+10,none⟩=some c10/\W.cell? ⟨b,off+k*12+11,none⟩=some c11:=by
 have h':=h k hk
 rw[hc] at h'
 exact⟨h' 0 (by omega),h' 1 (by omega),h' 2 (by omega),h' 3 (by omega),h' 4 (by omega),h' 5 (by omega),h' 6 (by omega),h' 7 (by omega),h' 8 (by omega),h' 9 (by omega),h' 10 (by omega),h' 11 (by omega)⟩
open Go.RowKit
theorem qpy {W w1:World}(hb:Below W.heap.size W w1):(∀b o,b<W.heap.size->w1.cell? ⟨b,o,none⟩=W.cell? ⟨b,o,none⟩)/\(∀b o,b<W.heap.size->w1.frozen? ⟨b,o,none⟩=W.frozen? ⟨b,o,none⟩):=
 ⟨λb o h=>hb.cell (p:=⟨b,o,none⟩) h,λb o h=>hb.frozen (p:=⟨b,o,none⟩) h⟩
theorem qqm (nz:Nat) (e:Ex) (w:World) (hn:nz<=w.heap.size) (he:e.Is nz w) :
  Calls Tryz.prog 134 #[e.val] w λr w'=>r=.returned (.bool (e.same (.mk 0 ⟨#[]⟩ ⟨#[]⟩ 0 none 0 [] 0)))/\Below w.heap.size w w':=by
 have hC:∀W,Below nz w W->Calls Tryz.prog 142 #[e.val,(Ex.mk 0 ⟨#[]⟩ ⟨#[]⟩ 0 none 0 [] 0).val] W λr w'=>r=.returned (.bool (e.same (.mk 0 ⟨#[]⟩ ⟨#[]⟩ 0 none 0 [] 0)))/\Below W.heap.size W w':=λW hW =>
  qmc nz e _ W (by have:=hW.size;omega) (he.below hW) (Ex.Is.up ⟨⟨by unfold I64;omega,by unfold I64;omega,by unfold I64;omega,Nat.zero_le _,Nat.zero_le _⟩,⟨Nat.le_refl _,by unfold maxLen;omega,.inl rfl⟩,λx hx=>by cases hx⟩)
 obtain⟨res,hres⟩:∃res,e.same (.mk 0 ⟨#[]⟩ ⟨#[]⟩ 0 none 0 [] 0)=res:=⟨_,rfl⟩
 rw[hres] at hC ⊢
 clear hres he
 rcases e with ⟨op,mon,name,n,ad,cap,kids,pos⟩
 simp only[Ex.val,Ex.cells,List.length_nil] at hC ⊢
 go_enter Tryz.func134,Tryz.ntmps134
 go_wp2_with (go_at_call 142;refine (hC _ ((Below.refl nz w).al hn _)).mono ?_;rintro r w1 ⟨rfl,hb1⟩)
 go_ret
 exact⟨rfl,((Below.refl _ _).al qaa _).tr qaa hb1⟩
open Go.RowKit
open Go.RowKit
mutual
def Ex.fv (g:ByteArray->Bool):Ex->Option Int
 | .mk op mon _ _ _ _ kids pos=>if op=4/\g mon=true then some pos else Ex.fvL g kids
def Ex.fvL (g:ByteArray->Bool):List Ex->Option Int
 | []=>none
 | e::l=>match e.fv g with
  | some k=>some k
  | none=>Ex.fvL g l
end
theorem Ex.fv_mk (g:ByteArray->Bool) (op:Int) (mon name:ByteArray) (n:Int) (ad:Option Addr) (cap:Nat) (kids:List Ex) (pos:Int):(Ex.mk op mon name n ad cap kids pos).fv g=if op=4/\g mon=true then some pos else Ex.fvL g kids:=by rw[Ex.fv]
mutual
theorem Ex.fv_none {g g':ByteArray->Bool}(h:∀m,g' m=true->g m=true):∀e:Ex,e.fv g=none->e.fv g'=none
 | .mk op mon name n ad cap kids pos=>by
  rw[Ex.fv,Ex.fv]
  intro h0
  split at h0
  ·cases h0
  ·rename_i h1
   rw[if_neg (λh2=>h1 ⟨h2.1,h mon h2.2⟩)]
   exact Ex.fvL_none h kids h0
theorem Ex.fvL_none {g g':ByteArray->Bool}(h:∀m,g' m=true->g m=true):∀l:List Ex,Ex.fvL g l=none->Ex.fvL g' l=none
 | []=>by simp[Ex.fvL]
 | e::l=>by
  rw[Ex.fvL,Ex.fvL]
  cases he:e.fv g with
  | some k=>intro h0;cases h0
  | none=>intro h0;rw[Ex.fv_none h e he];exact Ex.fvL_none h l h0
end
def St.kd:St->Int
 | .mk k _ _ _ _ _ _ _ _=>k
def St.mn:St->ByteArray
 | .mk _ m _ _ _ _ _ _ _=>m
def needs (k:Int):Bool:=(k==2) || (k==9) || (k==10) || (k==11)
def wts (l:List St):List ByteArray:=(l.filter (λs=>s.kd==9)).map St.mn
def qf6 (bs:List Bl):List ByteArray:=bs.flatMap λb=>wts b.body
def imp (kind:Int) (e:Ex) (bs:List Bl):Option Int:=if kind=3\/kind=4 then e.fv (λm=>(qf6 bs).any λx=>decide (x≠m)) else none
def qjd (f:ByteArray->Bool) (kind:Int) (mon:ByteArray) (e:Ex) (bs:List Bl) (pos:Int):Int × Int:=
 if needs kind=true/\f mon=false then (90,pos) else
  match e.fv (λm=>!f m) with
  | some k=>(90,k)
  | none=>match imp kind e bs with
   | some k=>(91,k)
   | none=>(0,0)
def qbz (f:ByteArray->Bool) (kind:Int) (mon:ByteArray):ByteArray->Bool:=if kind=7 then λx=>f x || decide (x=mon) else f
def qks (a b:Int × Int):Int × Int:=if a.1=0 then b else a
mutual
def St.sco (f:ByteArray->Bool):St->Int × Int
 | .mk kind mon _ _ e _ _ blocks pos=>qks (qjd f kind mon e blocks pos) (Bl.scoL (qbz f kind mon) blocks)
def Bl.sco (f:ByteArray->Bool):Bl->Int × Int
 | .mk _ _ body=>St.scoL f body
def St.scoL (f:ByteArray->Bool):List St->Int × Int
 | []=>(0,0)
 | s::l=>qks (s.sco f) (St.scoL f l)
def Bl.scoL (f:ByteArray->Bool):List Bl->Int × Int
 | []=>(0,0)
 | b::l=>qks (b.sco f) (Bl.scoL f l)
end
theorem qan (b:Int × Int):qks (0,0) b=b:=rfl
theorem qa8 {a:Int × Int}(h:a.1≠0) (b:Int × Int):qks a b=a:=if_neg h
theorem qfw {f:ByteArray->Bool}{kind:Int}{mon:ByteArray}{e:Ex}{bs:List Bl}{pos:Int}(h:(qjd f kind mon e bs pos).1=0):qjd f kind mon e bs pos=(0,0):=by
 unfold qjd at h ⊢
 split
 ·rename_i g;rw[if_pos g] at h;cases h
 ·rename_i g;rw[if_neg g] at h
  split
  ·rename_i g1;rw[g1] at h;cases h
  ·rename_i g1;rw[g1] at h
   simp only at h
   split
   ·rename_i g2;rw[g2] at h;cases h
   ·rfl
mutual
theorem St.sco_zero {f:ByteArray->Bool}:∀s:St,(s.sco f).1=0->s.sco f=(0,0)
 | .mk kind mon name n e ad cap blocks pos=>by
  rw[St.sco]
  intro h
  by_cases h1:(qjd f kind mon e blocks pos).1=0
  ·rw[qfw h1,qan] at h ⊢;exact Bl.scoL_zero blocks h
  ·rw[qa8 h1] at h;exact absurd h h1
theorem Bl.sco_zero {f:ByteArray->Bool}:∀b:Bl,(b.sco f).1=0->b.sco f=(0,0)
 | .mk ad cap body=>by rw[Bl.sco];exact St.scoL_zero body
theorem St.scoL_zero {f:ByteArray->Bool}:∀l:List St,(St.scoL f l).1=0->St.scoL f l=(0,0)
 | []=>by intro _;simp[St.scoL]
 | s::l=>by
  rw[St.scoL]
  intro h
  by_cases h1:(s.sco f).1=0
  ·rw[St.sco_zero s h1,qan] at h ⊢;exact St.scoL_zero l h
  ·rw[qa8 h1] at h;exact absurd h h1
theorem Bl.scoL_zero {f:ByteArray->Bool}:∀l:List Bl,(Bl.scoL f l).1=0->Bl.scoL f l=(0,0)
 | []=>by intro _;simp[Bl.scoL]
 | b::l=>by
  rw[Bl.scoL]
  intro h
  by_cases h1:(b.sco f).1=0
  ·rw[Bl.sco_zero b h1,qan] at h ⊢;exact Bl.scoL_zero l h
  ·rw[qa8 h1] at h;exact absurd h h1
end
theorem qt7 {f g:ByteArray->Bool}(h:∀x,f x=true->g x=true) (kind:Int) (mon:ByteArray) (e:Ex) (bs:List Bl) (pos:Int):(qjd f kind mon e bs pos).1=90\/qjd g kind mon e bs pos=qjd f kind mon e bs pos:=by
 by_cases h1:needs kind=true/\f mon=false
 ·left;simp[qjd,h1]
 ·have h2:¬ (needs kind=true/\g mon=false):=λh2=>h1 ⟨h2.1,by cases hf:f mon;rfl;rw[h mon hf] at h2;exact absurd h2.2 (by simp)⟩
  rw[qjd,qjd,if_neg h1,if_neg h2]
  cases he:e.fv (λm=>!f m) with
  | some k=>left;rfl
  | none =>
   right
   rw[Ex.fv_none (g:=λm=>!f m) (g':=λm=>!g m) (λm hm=>by
    cases hf:f m
    ·rfl
    ·rw[h m hf] at hm;simp at hm) e he]
theorem qmx {f g:ByteArray->Bool}(h:∀x,f x=true->g x=true) (kind:Int) (mon:ByteArray):∀x,qbz f kind mon x=true->qbz g kind mon x=true:=by
 intro x
 unfold qbz
 split
 ·simp only[Bool.or_eq_true,decide_eq_true_eq]
  rintro (h1|h1)
  ·exact .inl (h x h1)
  ·exact .inr h1
 ·exact h x
theorem qhv {a b a' b':Int × Int}(h1:a.1=90\/a'=a) (h2:b.1=90\/b'=b):(qks a b).1=90\/qks a' b'=qks a b:=by
 rcases h1 with h1|rfl
 ·left;rw[qa8 (by rw[h1];decide)];exact h1
 ·by_cases h:a'.1=0
  ·simp only[qks,h,if_true];exact h2
  ·right;rw[qa8 h,qa8 h]
mutual
theorem St.sco_more:∀(s:St) {f g:ByteArray->Bool},(∀x,f x=true->g x=true)->(s.sco f).1=90\/s.sco g=s.sco f
 | .mk kind mon name n e ad cap blocks pos,f,g,h=>by
  rw[St.sco,St.sco]
  exact qhv (qt7 h kind mon e blocks pos) (Bl.scoL_more blocks (qmx h kind mon))
theorem Bl.sco_more:∀(b:Bl) {f g:ByteArray->Bool},(∀x,f x=true->g x=true)->(b.sco f).1=90\/b.sco g=b.sco f
 | .mk ad cap body,f,g,h=>by rw[Bl.sco,Bl.sco];exact St.scoL_more body h
theorem St.scoL_more:∀(l:List St) {f g:ByteArray->Bool},(∀x,f x=true->g x=true)->(St.scoL f l).1=90\/St.scoL g l=St.scoL f l
 | [],f,g,h=>by right;simp[St.scoL]
 | s::l,f,g,h=>by rw[St.scoL,St.scoL];exact qhv (St.sco_more s h) (St.scoL_more l h)
theorem Bl.scoL_more:∀(l:List Bl) {f g:ByteArray->Bool},(∀x,f x=true->g x=true)->(Bl.scoL f l).1=90\/Bl.scoL g l=Bl.scoL f l
 | [],f,g,h=>by right;simp[Bl.scoL]
 | b::l,f,g,h=>by rw[Bl.scoL,Bl.scoL];exact qhv (Bl.sco_more b h) (Bl.scoL_more l h)
end
def qa5 (O:List ByteArray) (x:ByteArray):Bool:=O.any λy=>decide (y=x)
theorem qo5 {O:List ByteArray}{x:ByteArray}:qa5 O x=true↔x∈O:=by
 simp[qa5]
theorem qia (O l:List ByteArray) (x:ByteArray):qa5 (O++l) x=(qa5 O x || qa5 l x):=by simp[qa5]
def wth (O:List ByteArray) (x:ByteArray):List ByteArray:=if qa5 O x=true then O else O++[x]
def qej (O l:List ByteArray):List ByteArray:=l.foldl wth O
theorem qvu (O:List ByteArray) (x:ByteArray):qa5 (wth O x)=λy=>qa5 O y || decide (y=x):=by
 funext y
 unfold wth
 by_cases h:qa5 O x=true
 ·rw[if_pos h]
  by_cases e:y=x
  ·subst e;simp[h]
  ·simp[e]
 ·rw[if_neg h,qia]
  congr 1
  by_cases e:y=x
  ·subst e;simp[qa5]
  ·have:¬ x=y:=λh=>e h.symm
   simp[qa5,e,this]
theorem qym (l:List ByteArray):∀(O:List ByteArray) (y:ByteArray),qa5 (qej O l) y=(qa5 O y || qa5 l y):=by
 induction l with
 | nil=>intro O y;rw[qej,List.foldl_nil];simp[qa5]
 | cons x l ih =>
  intro O y
  have:=ih (wth O x) y
  rw[qej] at this ⊢
  rw[List.foldl_cons,this,qvu]
  show ((qa5 O y || decide (y=x)) || qa5 l y)=(qa5 O y || qa5 ([x]++l) y)
  rw[qia,Bool.or_assoc]
  congr 2
  by_cases e:y=x
  ·subst e;simp[qa5]
  ·have:¬ x=y:=λh=>e h.symm
   simp[qa5,e,this]
theorem qyl (l:List ByteArray):qa5 (qej [] l)=qa5 l:=by
 funext y
 rw[qym]
 rfl
theorem qvv (O l:List ByteArray) (k:Nat) (h:k<l.length):qej O (l.take (k+1))=wth (qej O (l.take k)) l[k]:=by
 rw[qej,qej,List.take_succ_eq_append_getElem h,List.foldl_append];rfl
theorem qpv (O:List ByteArray) (kind:Int) (mon:ByteArray):qbz (qa5 O) kind mon=qa5 (if kind=7 then wth O mon else O):=by
 unfold qbz
 split
 ·rw[qvu]
 ·rfl
