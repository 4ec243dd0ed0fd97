/-
  Own texts joined by program: TrB NxA EqB EqC EqD OwA.
-/
import Derived.Test.YtbmbchdjjfmafaaGreatDoorQab
namespace Go.Proofs.YtbmbchdjjfmafaaGreatDoor
open Go.RowKit
mutual
inductive St where
 | mk (kind:Int) (mon name:ByteArray) (n:Int) (e:Ex) (ad:Option Addr) (cap:Nat) (blocks:List Bl) (pos:Int)
inductive Bl where
 | mk (ad:Option Addr) (cap:Nat) (body:List St)
end
def Bl.body:Bl→List St
 | .mk _ _ body=>body
def Bl.slice:Bl→Value
 | .mk ad cap body=>.slice ad body.length cap
def Bl.cells (b:Bl):List Value:=[b.slice]
def St.cells:St→List Value
 | .mk kind mon name n e ad cap blocks pos=>[.int .i64 kind,.string mon,.string name,.int .i64 n]++e.cells++[.slice ad blocks.length cap,.int .i64 pos]
def St.val (s:St):Value:=.agg s.cells.toArray
def St.e:St→Ex
 | .mk _ _ _ _ e _ _ _ _=>e
mutual
def St.Is (n₀:Nat) (W:World):St→Prop
 | .mk kind mon name n e ad cap blocks pos=>(I64 kind∧I64 n∧I64 pos∧Len mon∧Len name)∧e.Is n₀ W∧SlAt 1 Bl.cells n₀ W ad cap blocks∧∀ b,(h:b∈blocks)→Bl.Is n₀ W b
def Bl.Is (n₀:Nat) (W:World):Bl→Prop
 | .mk ad cap body=>SlAt 12 St.cells n₀ W ad cap body∧∀ s,(h:s∈body)→St.Is n₀ W s
end
theorem St.Is.down {n₀:Nat} {W:World} {kind:Int} {mon name:ByteArray} {n:Int} {e:Ex} {ad:Option Addr} {cap:Nat} {blocks:List Bl} {pos:Int} (h:(St.mk kind mon name n e ad cap blocks pos).Is n₀ W) :
  (I64 kind∧I64 n∧I64 pos∧Len mon∧Len name)∧e.Is n₀ W∧SlAt 1 Bl.cells n₀ W ad cap blocks∧∀ b∈blocks,b.Is n₀ W:=by rw[St.Is] at h;exact h
theorem Bl.Is.down {n₀:Nat} {W:World} {ad:Option Addr} {cap:Nat} {body:List St} (h:(Bl.mk ad cap body).Is n₀ W):SlAt 12 St.cells n₀ W ad cap body∧∀ s∈body,s.Is n₀ W:=by rw[Bl.Is] at h;exact h
theorem St.Is.up {n₀:Nat} {W:World} {kind:Int} {mon name:ByteArray} {n:Int} {e:Ex} {ad:Option Addr} {cap:Nat} {blocks:List Bl} {pos:Int}
  (h:(I64 kind∧I64 n∧I64 pos∧Len mon∧Len name)∧e.Is n₀ W∧SlAt 1 Bl.cells n₀ W ad cap blocks∧∀ b∈blocks,b.Is n₀ W):(St.mk kind mon name n e ad cap blocks pos).Is n₀ W:=by rw[St.Is];exact h
theorem Bl.Is.up {n₀:Nat} {W:World} {ad:Option Addr} {cap:Nat} {body:List St} (h:SlAt 12 St.cells n₀ W ad cap body∧∀ s∈body,s.Is n₀ W):(Bl.mk ad cap body).Is n₀ W:=by rw[Bl.Is];exact h
mutual
theorem St.ind {P:St→Prop} {Q:Bl→Prop} (h1:∀ kind mon name n e ad cap blocks pos,(∀ b∈blocks,Q b)→P (.mk kind mon name n e ad cap blocks pos)) (h2:∀ ad cap body,(∀ s∈body,P s)→Q (.mk ad cap body)):∀ s,P s
 | .mk kind mon name n e ad cap blocks pos=>h1 kind mon name n e ad cap blocks pos (fun b _=>Bl.ind h1 h2 b)
theorem Bl.ind {P:St→Prop} {Q:Bl→Prop} (h1:∀ kind mon name n e ad cap blocks pos,(∀ b∈blocks,Q b)→P (.mk kind mon name n e ad cap blocks pos)) (h2:∀ ad cap body,(∀ s∈body,P s)→Q (.mk ad cap body)):∀ b,Q b
 | .mk ad cap body=>h2 ad cap body (fun s _=>St.ind h1 h2 s)
end
theorem Bl.Is.below {n₀:Nat} {W W':World} (hb:Below n₀ W W') {b:Bl}:b.Is n₀ W→b.Is n₀ W':=
 Bl.ind (P:=fun s=>s.Is n₀ W→s.Is n₀ W') (Q:=fun b=>b.Is n₀ W→b.Is n₀ W') (fun _ _ _ _ _ _ _ _ _ ih h=>St.Is.up ⟨h.down.1,h.down.2.1.below hb,h.down.2.2.1.below hb,fun b hb'=>ih b hb' (h.down.2.2.2 b hb')⟩)
  (fun _ _ _ ih h=>Bl.Is.up ⟨h.down.1.below hb,fun s hs=>ih s hs (h.down.2 s hs)⟩) b
theorem St.Is.below {n₀:Nat} {W W':World} (hb:Below n₀ W W') {s:St}:s.Is n₀ W→s.Is n₀ W':=
 St.ind (P:=fun s=>s.Is n₀ W→s.Is n₀ W') (Q:=fun b=>b.Is n₀ W→b.Is n₀ W') (fun _ _ _ _ _ _ _ _ _ ih h=>St.Is.up ⟨h.down.1,h.down.2.1.below hb,h.down.2.2.1.below hb,fun b hb'=>ih b hb' (h.down.2.2.2 b hb')⟩)
  (fun _ _ _ ih h=>Bl.Is.up ⟨h.down.1.below hb,fun s hs=>ih s hs (h.down.2 s hs)⟩) s
theorem Bl.Is.mono {n₀ n₁:Nat} {W:World} (hn:n₀≤n₁) {b:Bl}:b.Is n₀ W→b.Is n₁ W:=
 Bl.ind (P:=fun s=>s.Is n₀ W→s.Is n₁ W) (Q:=fun b=>b.Is n₀ W→b.Is n₁ W) (fun _ _ _ _ _ _ _ _ _ ih h=>St.Is.up ⟨h.down.1,h.down.2.1.mono hn,h.down.2.2.1.mono hn,fun b hb'=>ih b hb' (h.down.2.2.2 b hb')⟩)
  (fun _ _ _ ih h=>Bl.Is.up ⟨h.down.1.mono hn,fun s hs=>ih s hs (h.down.2 s hs)⟩) b
mutual
def St.subs:St→List St
 | .mk kind mon name n e ad cap blocks pos=>.mk kind mon name n e ad cap blocks pos::Bl.subsL blocks
def Bl.subs:Bl→List St
 | .mk _ _ body=>St.subsL body
def St.subsL:List St→List St
 | []=>[]
 | s::r=>s.subs++St.subsL r
def Bl.subsL:List Bl→List St
 | []=>[]
 | b::r=>b.subs++Bl.subsL r
end
theorem St.subsL_eq (l:List St):St.subsL l=l.flatMap St.subs:=by
 induction l with
 | nil=>simp[St.subsL]
 | cons a l ih=>simp[St.subsL,ih]
theorem Bl.subsL_eq (l:List Bl):Bl.subsL l=l.flatMap Bl.subs:=by
 induction l with
 | nil=>simp[Bl.subsL]
 | cons a l ih=>simp[Bl.subsL,ih]
theorem flatMap_snoc {α β:Type} (f:α→List β) (l:List α) (k:Nat) (h:k<l.length):(l.take (k+1)).flatMap f=(l.take k).flatMap f++f l[k]:=by
 rw[List.take_succ_eq_append_getElem h,List.flatMap_append,List.flatMap_cons,List.flatMap_nil,List.append_nil]
theorem St.subs_mk (kind:Int) (mon name:ByteArray) (n:Int) (e:Ex) (ad:Option Addr) (cap:Nat) (blocks:List Bl) (pos:Int):(St.mk kind mon name n e ad cap blocks pos).subs=.mk kind mon name n e ad cap blocks pos::blocks.flatMap Bl.subs:=by rw[St.subs,Bl.subsL_eq]
theorem Bl.subs_mk (ad:Option Addr) (cap:Nat) (body:List St):(Bl.mk ad cap body).subs=body.flatMap St.subs:=by rw[Bl.subs,St.subsL_eq]
theorem Bl.Is.subs {n₀:Nat} {W:World} {b:Bl}:b.Is n₀ W→∀ x∈b.subs,x.Is n₀ W:=
 Bl.ind (P:=fun s=>s.Is n₀ W→∀ x∈s.subs,x.Is n₀ W) (Q:=fun b=>b.Is n₀ W→∀ x∈b.subs,x.Is n₀ W) (fun _ _ _ _ _ _ _ _ _ ih h x hx=>by
   rw[St.subs_mk,List.mem_cons,List.mem_flatMap] at hx
   rcases hx with rfl|⟨y,hy,hx⟩
   ·exact h
   ·exact ih y hy (h.down.2.2.2 y hy) x hx)
  (fun _ _ _ ih h x hx=>by
   rw[Bl.subs_mk,List.mem_flatMap] at hx
   obtain⟨y,hy,hx⟩:=hx
   exact ih y hy (h.down.2 y hy) x hx) b
structure Va where
 name:ByteArray
 type:Int
 lo:Int
 hi:Int
 init:Int
 pos:Int
def Va.cells (v:Va):List Value:=[.string v.name,.int .i64 v.type,.int .i64 v.lo,.int .i64 v.hi,.int .i64 v.init,.int .i64 v.pos]
def Va.val (v:Va):Value:=.agg v.cells.toArray
def Va.Is (v:Va):Prop:=Len v.name∧I64 v.type∧I64 v.lo∧I64 v.hi∧I64 v.init∧I64 v.pos
structure Me where
 name:ByteArray
 body:Bl
 pos:Int
def Me.cells (m:Me):List Value:=[.string m.name,m.body.slice,.int .i64 m.pos]
def Me.Is (n₀:Nat) (W:World) (m:Me):Prop:=Len m.name∧I64 m.pos∧m.body.Is n₀ W
structure Mo where
 name:ByteArray
 vad:Option Addr
 vcap:Nat
 vars:List Va
 mad:Option Addr
 mcap:Nat
 meths:List Me
 pos:Int
def Mo.cells (m:Mo):List Value:=[.string m.name,.slice m.vad m.vars.length m.vcap,.slice m.mad m.meths.length m.mcap,.int .i64 m.pos]
def Mo.val (m:Mo):Value:=.agg m.cells.toArray
def Mo.Is (n₀:Nat) (W:World) (m:Mo):Prop:=(Len m.name∧I64 m.pos)∧(SlAt 6 Va.cells n₀ W m.vad m.vcap m.vars∧∀ v∈m.vars,v.Is)∧SlAt 3 Me.cells n₀ W m.mad m.mcap m.meths∧∀ x∈m.meths,x.Is n₀ W
structure Ro where
 name:ByteArray
 star:Bool
 count:Int
 body:Bl
 pos:Int
def Ro.cells (r:Ro):List Value:=[.string r.name,.bool r.star,.int .i64 r.count,r.body.slice,.int .i64 r.pos]
def Ro.val (r:Ro):Value:=.agg r.cells.toArray
def Ro.Is (n₀:Nat) (W:World) (r:Ro):Prop:=Len r.name∧I64 r.count∧I64 r.pos∧r.body.Is n₀ W
structure Pr where
 mad:Option Addr
 mcap:Nat
 mons:List Mo
 rad:Option Addr
 rcap:Nat
 roles:List Ro
def Pr.val (p:Pr):Value:=.agg #[.slice p.mad p.mons.length p.mcap,.slice p.rad p.roles.length p.rcap]
def Pr.Is (n₀:Nat) (W:World) (p:Pr):Prop:=(SlAt 4 Mo.cells n₀ W p.mad p.mcap p.mons∧∀ m∈p.mons,m.Is n₀ W)∧SlAt 5 Ro.cells n₀ W p.rad p.rcap p.roles∧∀ r∈p.roles,r.Is n₀ W
def Pr.stmts (p:Pr):List St:=p.mons.flatMap (fun m=>m.meths.flatMap fun x=>x.body.subs)++p.roles.flatMap fun r=>r.body.subs
theorem Me.Is.below {n₀:Nat} {W W':World} (hb:Below n₀ W W') {m:Me} (h:m.Is n₀ W):m.Is n₀ W':=⟨h.1,h.2.1,h.2.2.below hb⟩
theorem Mo.Is.below {n₀:Nat} {W W':World} (hb:Below n₀ W W') {m:Mo} (h:m.Is n₀ W):m.Is n₀ W':=⟨h.1,⟨h.2.1.1.below hb,h.2.1.2⟩,h.2.2.1.below hb,fun x hx=>(h.2.2.2 x hx).below hb⟩
theorem Ro.Is.below {n₀:Nat} {W W':World} (hb:Below n₀ W W') {r:Ro} (h:r.Is n₀ W):r.Is n₀ W':=⟨h.1,h.2.1,h.2.2.1,h.2.2.2.below hb⟩
theorem Pr.Is.below {n₀:Nat} {W W':World} (hb:Below n₀ W W') {p:Pr} (h:p.Is n₀ W):p.Is n₀ W':=⟨⟨h.1.1.below hb,fun m hm=>(h.1.2 m hm).below hb⟩,h.2.1.below hb,fun r hr=>(h.2.2 r hr).below hb⟩
theorem Me.Is.mono {n₀ n₁:Nat} {W:World} (hn:n₀≤n₁) {m:Me} (h:m.Is n₀ W):m.Is n₁ W:=⟨h.1,h.2.1,h.2.2.mono hn⟩
theorem Mo.Is.mono {n₀ n₁:Nat} {W:World} (hn:n₀≤n₁) {m:Mo} (h:m.Is n₀ W):m.Is n₁ W:=⟨h.1,⟨h.2.1.1.mono hn,h.2.1.2⟩,h.2.2.1.mono hn,fun x hx=>(h.2.2.2 x hx).mono hn⟩
theorem Ro.Is.mono {n₀ n₁:Nat} {W:World} (hn:n₀≤n₁) {r:Ro} (h:r.Is n₀ W):r.Is n₁ W:=⟨h.1,h.2.1,h.2.2.1,h.2.2.2.mono hn⟩
theorem Pr.Is.mono {n₀ n₁:Nat} {W:World} (hn:n₀≤n₁) {p:Pr} (h:p.Is n₀ W):p.Is n₁ W:=⟨⟨h.1.1.mono hn,fun m hm=>(h.1.2 m hm).mono hn⟩,h.2.1.mono hn,fun r hr=>(h.2.2 r hr).mono hn⟩
open Go.RowKit
def Mo.nps (m:Mo):List (ByteArray × Int):=m.vars.map (fun v=>(v.name,v.pos))++m.meths.map (fun f=>(f.name,f.pos))
def Mo.nms (m:Mo):List (ByteArray × Int):=m.vars.map (fun v=>(v.name,1))++m.meths.map (fun f=>(f.name,2))
def hasN (seen:List ByteArray) (n:ByteArray):Bool:=seen.any fun s=>decide (s=n)
theorem hasN_iff {seen:List ByteArray} {n:ByteArray}:hasN seen n=true↔n∈seen:=by
 rw[hasN,List.any_eq_true]
 constructor
 ·rintro⟨x,hx,h⟩
  exact (of_decide_eq_true h)▸hx
 ·intro h
  exact⟨n,h,by simp⟩
theorem hasN_no {seen:List ByteArray} {n:ByteArray} (h:¬ hasN seen n=true):n ∉ seen:=fun h'=>h (hasN_iff.2 h')
def dupN:List ByteArray→List (ByteArray × Int)→Option Int
 | _,[]=>none
 | seen,x::r=>if hasN seen x.1 then some x.2 else dupN (seen++[x.1]) r
theorem dupN_nodup (seen:List ByteArray) (l:List (ByteArray × Int)) (hs:seen.Nodup) (h:dupN seen l=none):(seen++l.map Prod.fst).Nodup:=by
 induction l generalizing seen with
 | nil=>simpa using hs
 | cons x l ih =>
  rw[dupN] at h
  split at h
  ·cases h
  ·rename_i hx'
   have hx:=hasN_no hx'
   have h1:=ih (seen++[x.1]) (List.nodup_append.2 ⟨hs,by simp,fun a ha b hb=>by simp at hb;rintro rfl;exact hx (hb▸ha)⟩) h
   simpa using h1
def declM:List ByteArray→List Mo→Option Int
 | _,[]=>none
 | seen,m::r=>if hasN seen m.name then some m.pos else (dupN [] m.nps).or (declM (seen++[m.name]) r)
def roleE:List ByteArray→List Ro→Option (Int × Int)
 | _,[]=>none
 | seen,r::rs=>if hasN seen r.name then some (60,r.pos) else if r.star=false∧(r.count<1∨8<r.count) then some (6,r.pos) else roleE (seen++[r.name]) rs
theorem declM_drop (l:List Mo) (k:Nat) (h:k<l.length) (seen:List ByteArray):declM seen (l.drop k)=if hasN seen l[k].name then some l[k].pos else (dupN [] l[k].nps).or (declM (seen++[l[k].name]) (l.drop (k+1))):=by
 rw[List.drop_eq_getElem_cons h,declM]
theorem roleE_drop (l:List Ro) (k:Nat) (h:k<l.length) (seen:List ByteArray):roleE seen (l.drop k)=if hasN seen l[k].name then some (60,l[k].pos) else if l[k].star=false∧(l[k].count<1∨8<l[k].count) then some (6,l[k].pos) else roleE (seen++[l[k].name]) (l.drop (k+1)):=by
 rw[List.drop_eq_getElem_cons h,roleE]
theorem names_snoc {α:Type} (f:α→ByteArray) (l:List α) (k:Nat) (h:k<l.length):(l.take (k+1)).map f=(l.take k).map f++[f l[k]]:=by
 rw[List.take_succ_eq_append_getElem h,List.map_append];rfl
structure Lk where
 V:ByteArray→ByteArray→Bool
 F:ByteArray→ByteArray→Bool
 M:ByteArray→Bool
mutual
def Ex.unk (k:Lk):Ex→Option Int
 | .mk op mon name _ _ _ kids pos=>if op=4∧k.V mon name=false then some pos else Ex.unkL k kids
def Ex.unkL (k:Lk):List Ex→Option Int
 | []=>none
 | e::r=>(Ex.unk k e).or (Ex.unkL k r)
end
theorem Ex.unk_mk (k:Lk) (op:Int) (mon name:ByteArray) (n:Int) (ad:Option Addr) (cap:Nat) (kids:List Ex) (pos:Int):(Ex.mk op mon name n ad cap kids pos).unk k=if op=4∧k.V mon name=false then some pos else Ex.unkL k kids:=by rw[Ex.unk]
theorem Ex.unkL_drop (k:Lk) (l:List Ex) (j:Nat) (h:j<l.length):Ex.unkL k (l.drop j)=(l[j].unk k).or (Ex.unkL k (l.drop (j+1))):=by
 rw[List.drop_eq_getElem_cons h,Ex.unkL]
theorem Ex.unkL_end (k:Lk) (l:List Ex) (j:Nat) (h:l.length≤j):Ex.unkL k (l.drop j)=none:=by
 rw[List.drop_of_length_le h,Ex.unkL]
def St.knows (k:Lk):St→Bool
 | .mk kind mon name _ _ _ _ _ _=>if kind=2 then k.V mon name else if kind=8 then k.F mon name else if kind=7∨kind=9∨kind=10∨kind=11 then k.M mon else true
mutual
def St.unk (k:Lk):St→Option Int
 | .mk kind mon name n e ad cap blocks pos=>if St.knows k (.mk kind mon name n e ad cap blocks pos)=false then some pos else (e.unk k).or (Bl.unkL k blocks)
def Bl.unk (k:Lk):Bl→Option Int
 | .mk _ _ body=>St.unkL k body
def St.unkL (k:Lk):List St→Option Int
 | []=>none
 | s::r=>(St.unk k s).or (St.unkL k r)
def Bl.unkL (k:Lk):List Bl→Option Int
 | []=>none
 | b::r=>(Bl.unk k b).or (Bl.unkL k r)
end
theorem St.unk_mk (k:Lk) (kind:Int) (mon name:ByteArray) (n:Int) (e:Ex) (ad:Option Addr) (cap:Nat) (blocks:List Bl) (pos:Int):(St.mk kind mon name n e ad cap blocks pos).unk k=if St.knows k (.mk kind mon name n e ad cap blocks pos)=false then some pos else (e.unk k).or (Bl.unkL k blocks):=by rw[St.unk]
theorem Bl.unk_mk (k:Lk) (ad:Option Addr) (cap:Nat) (body:List St):(Bl.mk ad cap body).unk k=St.unkL k body:=by rw[Bl.unk]
theorem St.unkL_drop (k:Lk) (l:List St) (j:Nat) (h:j<l.length):St.unkL k (l.drop j)=(l[j].unk k).or (St.unkL k (l.drop (j+1))):=by
 rw[List.drop_eq_getElem_cons h,St.unkL]
theorem St.unkL_end (k:Lk) (l:List St) (j:Nat) (h:l.length≤j):St.unkL k (l.drop j)=none:=by
 rw[List.drop_of_length_le h,St.unkL]
theorem Bl.unkL_drop (k:Lk) (l:List Bl) (j:Nat) (h:j<l.length):Bl.unkL k (l.drop j)=(l[j].unk k).or (Bl.unkL k (l.drop (j+1))):=by
 rw[List.drop_eq_getElem_cons h,Bl.unkL]
theorem Bl.unkL_end (k:Lk) (l:List Bl) (j:Nat) (h:l.length≤j):Bl.unkL k (l.drop j)=none:=by
 rw[List.drop_of_length_le h,Bl.unkL]
def unkOf {α:Type} (f:α→Option Int):List α→Option Int
 | []=>none
 | a::r=>(f a).or (unkOf f r)
theorem unkOf_drop {α:Type} (f:α→Option Int) (l:List α) (j:Nat) (h:j<l.length):unkOf f (l.drop j)=(f l[j]).or (unkOf f (l.drop (j+1))):=by
 rw[List.drop_eq_getElem_cons h,unkOf]
theorem unkOf_end {α:Type} (f:α→Option Int) (l:List α) (j:Nat) (h:l.length≤j):unkOf f (l.drop j)=none:=by
 rw[List.drop_of_length_le h,unkOf]
def Me.unk (k:Lk) (m:Me):Option Int:=m.body.unk k
def Mo.unk (k:Lk) (m:Mo):Option Int:=unkOf (Me.unk k) m.meths
def Ro.unk (k:Lk) (r:Ro):Option Int:=r.body.unk k
def Pr.unk (k:Lk) (p:Pr):Option Int:=(unkOf (Mo.unk k) p.mons).or (unkOf (Ro.unk k) p.roles)
def monAt (l:List Mo) (mon:ByteArray):Option Mo:=l.find? fun m=>decide (m.name=mon)
def Pr.lk (p:Pr):Lk where
 V:=fun mon name=>match monAt p.mons mon with|some m=>m.vars.any (fun v=>decide (v.name=name))|none=>false
 F:=fun mon name=>match monAt p.mons mon with|some m=>m.meths.any (fun v=>decide (v.name=name))|none=>false
 M:=fun mon=>(monAt p.mons mon).isSome
def Pr.chk (p:Pr):Int × Int:=
 match declM [] p.mons with
 | some a=>(60,a)
 | none=>match roleE [] p.roles with
  | some x=>x
  | none=>match p.unk p.lk with
   | some a=>(61,a)
   | none=>(0,0)
def kindAt (l:List (ByteArray × Int)) (n:ByteArray):Int:=match l.find? (fun x=>decide (x.1=n)) with|some x=>x.2|none=>0
def scLk (S:List (ByteArray × List (ByteArray × Int))):Lk where
 V:=fun mon name=>match S.find? (fun x=>decide (x.1=mon)) with|some x=>decide (kindAt x.2 name=1)|none=>false
 F:=fun mon name=>match S.find? (fun x=>decide (x.1=mon)) with|some x=>decide (kindAt x.2 name=2)|none=>false
 M:=fun mon=>(S.find? (fun x=>decide (x.1=mon))).isSome
def scOf (l:List Mo):List (ByteArray × List (ByteArray × Int)):=l.map fun m=>(m.name,m.nms)
theorem find_scOf (l:List Mo) (mon:ByteArray):(scOf l).find? (fun x=>decide (x.1=mon))=(monAt l mon).map fun m=>(m.name,m.nms):=by
 induction l with
 | nil=>rfl
 | cons m l ih =>
  simp only[scOf,List.map_cons,List.find?_cons,monAt] at ih ⊢
  cases decide (m.name=mon) with
  | true=>rfl
  | false=>exact ih
theorem declM_each (seen:List ByteArray) (l:List Mo) (h:declM seen l=none):∀ m∈l,dupN [] m.nps=none:=by
 induction l generalizing seen with
 | nil=>intro m hm;cases hm
 | cons x l ih =>
  rw[declM] at h
  split at h
  ·cases h
  ·intro m hm
   rw[Option.or_eq_none_iff] at h
   rcases List.mem_cons.1 hm with rfl|hm
   ·exact h.1
   ·exact ih _ h.2 m hm
theorem kindAt_append (a b:List (ByteArray × Int)) (n:ByteArray):kindAt (a++b) n=if hasN (a.map Prod.fst) n then kindAt a n else kindAt b n:=by
 unfold kindAt
 rw[List.find?_append]
 by_cases h':hasN (a.map Prod.fst) n=true
 ·rw[if_pos h']
  have h:=hasN_iff.1 h'
  obtain⟨x,hx,rfl⟩:=List.mem_map.1 h
  cases hf:a.find? (fun y=>decide (y.1=x.1)) with
  | some y=>rfl
  | none=>exact absurd (List.find?_eq_none.1 hf x hx) (by simp)
 ·rw[if_neg h']
  have h:=hasN_no h'
  have:a.find? (fun y=>decide (y.1=n))=none:=List.find?_eq_none.2 fun y hy=>by
   have:y.1≠n:=fun e=>h (List.mem_map.2 ⟨y,hy,e⟩)
   simpa using this
  rw[this];rfl
theorem kindAt_const {α:Type} (f:α→ByteArray) (c:Int) (l:List α) (n:ByteArray):kindAt (l.map fun a=>(f a,c)) n=if l.any (fun a=>decide (f a=n)) then c else 0:=by
 induction l with
 | nil=>rfl
 | cons a l ih =>
  simp only[List.map_cons,kindAt,List.find?_cons,List.any_cons] at ih ⊢
  by_cases hd:f a=n
  ·simp[hd]
  ·simpa[hd] using ih
theorem mem_map_any {α:Type} (f:α→ByteArray) (l:List α) (n:ByteArray):(n∈l.map f)↔l.any (fun a=>decide (f a=n))=true:=by
 rw[List.any_eq_true]
 constructor
 ·intro h
  obtain⟨a,ha,rfl⟩:=List.mem_map.1 h
  exact⟨a,ha,by simp⟩
 ·rintro⟨a,ha,h⟩
  exact List.mem_map.2 ⟨a,ha,by simpa using h⟩
theorem nms_var (m:Mo) (n:ByteArray):decide (kindAt m.nms n=1)=m.vars.any (fun v=>decide (v.name=n)):=by
 rw[Mo.nms,kindAt_append,kindAt_const,kindAt_const,List.map_map]
 have h:(n∈m.vars.map (Prod.fst ∘ fun v=>(v.name,(1:Int))))↔m.vars.any (fun v=>decide (v.name=n))=true:=mem_map_any Va.name m.vars n
 cases hv:m.vars.any (fun v=>decide (v.name=n)) with
 | true=>rw[if_pos (hasN_iff.2 (h.2 hv))];simp
 | false=>rw[if_neg (fun h'=>by rw[h.1 (hasN_iff.1 h')] at hv;cases hv)];split <;> simp
theorem nms_meth (m:Mo) (n:ByteArray) (hd:dupN [] m.nps=none):decide (kindAt m.nms n=2)=m.meths.any (fun v=>decide (v.name=n)):=by
 have hnd:=dupN_nodup [] _ (by simp) hd
 rw[Mo.nms,kindAt_append,kindAt_const,kindAt_const,List.map_map]
 have h:(n∈m.vars.map (Prod.fst ∘ fun v=>(v.name,(1:Int))))↔m.vars.any (fun v=>decide (v.name=n))=true:=mem_map_any Va.name m.vars n
 have h2:=mem_map_any Me.name m.meths n
 cases hv:m.vars.any (fun v=>decide (v.name=n)) with
 | false=>rw[if_neg (fun h'=>by rw[h.1 (hasN_iff.1 h')] at hv;cases hv)];cases m.meths.any (fun v=>decide (v.name=n)) <;> simp
 | true =>
  rw[if_pos (hasN_iff.2 (h.2 hv))]
  cases hm:m.meths.any (fun v=>decide (v.name=n)) with
  | false=>simp
  | true =>
   exfalso
   simp only[Mo.nps,List.map_append,List.map_map,List.nil_append] at hnd
   have h3:n∈m.vars.map (Prod.fst ∘ fun v=>(v.name,v.pos)):=(mem_map_any Va.name m.vars n).2 hv
   have h4:n∈m.meths.map (Prod.fst ∘ fun v=>(v.name,v.pos)):=h2.2 hm
   exact (List.nodup_append.1 hnd).2.2 n h3 n h4 rfl
theorem scLk_eq (p:Pr) (h:declM [] p.mons=none):scLk (scOf p.mons)=p.lk:=by
 have he:=declM_each [] p.mons h
 unfold scLk Pr.lk
 congr 1
 ·funext mon name
  rw[find_scOf]
  cases monAt p.mons mon with
  | none=>rfl
  | some m=>exact nms_var m name
 ·funext mon name
  rw[find_scOf]
  cases hm:monAt p.mons mon with
  | none=>rfl
  | some m=>exact nms_meth m name (he m (List.mem_of_find?_eq_some hm))
 ·funext mon
  rw[find_scOf]
  cases monAt p.mons mon <;> rfl
open Go.RowKit
theorem row1 {α:Type} {cells:α→List Value} {W:World} {b off:Nat} {l:List α} (h:RowAt 1 cells W b off l) (k:Nat) (hk:k<l.length) {c0:Value} (hc:cells l[k]=[c0]) :
  W.cell? ⟨b,off+k,none⟩=some c0:=by
 have h':=h k hk
 rw[hc] at h'
 have h1:=h' 0 (by omega)
 rw[Nat.mul_one] at h1
 exact h1
theorem row3 {α:Type} {cells:α→List Value} {W:World} {b off:Nat} {l:List α} (h:RowAt 3 cells W b off l) (k:Nat) (hk:k<l.length) {c0 c1 c2:Value} (hc:cells l[k]=[c0,c1,c2]) :
  W.cell? ⟨b,off+k*3,none⟩=some c0∧W.cell? ⟨b,off+k*3+1,none⟩=some c1∧W.cell? ⟨b,off+k*3+2,none⟩=some c2:=by
 have h':=h k hk
 rw[hc] at h'
 exact⟨h' 0 (by omega),h' 1 (by omega),h' 2 (by omega)⟩
theorem row4 {α:Type} {cells:α→List Value} {W:World} {b off:Nat} {l:List α} (h:RowAt 4 cells W b off l) (k:Nat) (hk:k<l.length) {c0 c1 c2 c3:Value} (hc:cells l[k]=[c0,c1,c2,c3]) :
  W.cell? ⟨b,off+k*4,none⟩=some c0∧W.cell? ⟨b,off+k*4+1,none⟩=some c1∧W.cell? ⟨b,off+k*4+2,none⟩=some c2∧W.cell? ⟨b,off+k*4+3,none⟩=some c3:=by
 have h':=h k hk
 rw[hc] at h'
 exact⟨h' 0 (by omega),h' 1 (by omega),h' 2 (by omega),h' 3 (by omega)⟩
theorem row5 {α:Type} {cells:α→List Value} {W:World} {b off:Nat} {l:List α} (h:RowAt 5 cells W b off l) (k:Nat) (hk:k<l.length) {c0 c1 c2 c3 c4:Value} (hc:cells l[k]=[c0,c1,c2,c3,c4]) :
  W.cell? ⟨b,off+k*5,none⟩=some c0∧W.cell? ⟨b,off+k*5+1,none⟩=some c1∧W.cell? ⟨b,off+k*5+2,none⟩=some c2∧W.cell? ⟨b,off+k*5+3,none⟩=some c3∧W.cell? ⟨b,off+k*5+4,none⟩=some c4:=by
 have h':=h k hk
 rw[hc] at h'
 exact⟨h' 0 (by omega),h' 1 (by omega),h' 2 (by omega),h' 3 (by omega),h' 4 (by omega)⟩
theorem row12 {α:Type} {cells:α→List Value} {W:World} {b off:Nat} {l:List α} (h:RowAt 12 cells W b off l) (k:Nat) (hk:k<l.length) {c0 c1 c2 c3 c4 c5 c6 c7 c8 c9 c10 c11:Value} (hc:cells l[k]=[c0,c1,c2,c3,c4,c5,c6,c7,c8,c9,c10,c11]) :
  W.cell? ⟨b,off+k*12,none⟩=some c0∧W.cell? ⟨b,off+k*12+1,none⟩=some c1∧W.cell? ⟨b,off+k*12+2,none⟩=some c2∧W.cell? ⟨b,off+k*12+3,none⟩=some c3∧W.cell? ⟨b,off+k*12+4,none⟩=some c4∧W.cell? ⟨b,off+k*12+5,none⟩=some c5∧W.cell? ⟨b,off+k*12+6,none⟩=some c6∧W.cell? ⟨b,off+k*12+7,none⟩=some c7∧W.cell? ⟨b,off+k*12+8,none⟩=some c8∧W.cell? ⟨b,off+k*12+9,none⟩=some c9∧W.cell? ⟨b,off+k*12+10,none⟩=some c10∧W.cell? ⟨b,off+k*12+11,none⟩=some c11:=by
 have h':=h k hk
 rw[hc] at h'
 exact⟨h' 0 (by omega),h' 1 (by omega),h' 2 (by omega),h' 3 (by omega),h' 4 (by omega),h' 5 (by omega),h' 6 (by omega),h' 7 (by omega),h' 8 (by omega),h' 9 (by omega),h' 10 (by omega),h' 11 (by omega)⟩
open Go.RowKit
theorem bcell {W w1:World} (hb:Below W.heap.size W w1):(∀ b o,b<W.heap.size→w1.cell? ⟨b,o,none⟩=W.cell? ⟨b,o,none⟩)∧(∀ b o,b<W.heap.size→w1.frozen? ⟨b,o,none⟩=W.frozen? ⟨b,o,none⟩):=
 ⟨fun b o h=>hb.cell (p:=⟨b,o,none⟩) h,fun b o h=>hb.frozen (p:=⟨b,o,none⟩) h⟩
set_option maxHeartbeats 1000000 in
theorem isNone_any (n₀:Nat) (e:Ex) (w:World) (hn:n₀≤w.heap.size) (he:e.Is n₀ w) :
  Calls Tryz.prog 157 #[e.val] w fun r w'=>r=.returned (.bool (e.same (.mk 0 ⟨#[]⟩ ⟨#[]⟩ 0 none 0 [] 0)))∧Below w.heap.size w w':=by
 have hC:∀ W,Below n₀ w W→Calls Tryz.prog 175 #[e.val,(Ex.mk 0 ⟨#[]⟩ ⟨#[]⟩ 0 none 0 [] 0).val] W fun r w'=>r=.returned (.bool (e.same (.mk 0 ⟨#[]⟩ ⟨#[]⟩ 0 none 0 [] 0)))∧Below W.heap.size W w':=fun W hW =>
  sameExpr_any n₀ e _ W (by have:=hW.size;omega) (he.below hW) (Ex.Is.up ⟨⟨by unfold I64;omega,by unfold I64;omega,by unfold I64;omega,Nat.zero_le _,Nat.zero_le _⟩,⟨Nat.le_refl _,by unfold maxLen;omega,.inl rfl⟩,fun x hx=>by cases hx⟩)
 obtain⟨res,hres⟩:∃ res,e.same (.mk 0 ⟨#[]⟩ ⟨#[]⟩ 0 none 0 [] 0)=res:=⟨_,rfl⟩
 rw[hres] at hC ⊢
 clear hres he
 rcases e with ⟨op,mon,name,n,ad,cap,kids,pos⟩
 simp only[Ex.val,Ex.cells,List.length_nil] at hC ⊢
 go_enter Tryz.func157,Tryz.ntmps157
 go_wp2_with (go_at_call 175;refine (hC _ ((Below.refl n₀ w).al hn _)).mono ?_;rintro r w1 ⟨rfl,hb1⟩)
 go_ret
 exact⟨rfl,((Below.refl _ _).al le_rfl' _).tr le_rfl' hb1⟩
open Go.RowKit
open Go.RowKit
mutual
def Ex.fv (g:ByteArray→Bool):Ex→Option Int
 | .mk op mon _ _ _ _ kids pos=>if op=4∧g mon=true then some pos else Ex.fvL g kids
def Ex.fvL (g:ByteArray→Bool):List Ex→Option Int
 | []=>none
 | e::l=>match e.fv g with
  | some k=>some k
  | none=>Ex.fvL g l
end
theorem Ex.fv_mk (g:ByteArray→Bool) (op:Int) (mon name:ByteArray) (n:Int) (ad:Option Addr) (cap:Nat) (kids:List Ex) (pos:Int):(Ex.mk op mon name n ad cap kids pos).fv g=if op=4∧g mon=true then some pos else Ex.fvL g kids:=by rw[Ex.fv]
def St.kd:St→Int
 | .mk k _ _ _ _ _ _ _ _=>k
def St.mn:St→ByteArray
 | .mk _ m _ _ _ _ _ _ _=>m
def needs (k:Int):Bool:=(k==2) || (k==9) || (k==10) || (k==11)
def wts (l:List St):List ByteArray:=(l.filter (fun s=>s.kd==9)).map St.mn
def wtsL (bs:List Bl):List ByteArray:=bs.flatMap fun b=>wts b.body
def imp (kind:Int) (e:Ex) (bs:List Bl):Option Int:=if kind=3∨kind=4 then e.fv (fun m=>(wtsL bs).any fun x=>decide (x≠m)) else none
def oneE (f:ByteArray→Bool) (kind:Int) (mon:ByteArray) (e:Ex) (bs:List Bl) (pos:Int):Int × Int:=
 if needs kind=true∧f mon=false then (90,pos) else
  match e.fv (fun m=>!f m) with
  | some k=>(90,k)
  | none=>match imp kind e bs with
   | some k=>(91,k)
   | none=>(0,0)
def andMon (f:ByteArray→Bool) (kind:Int) (mon:ByteArray):ByteArray→Bool:=if kind=7 then fun x=>f x || decide (x=mon) else f
def fstE (a b:Int × Int):Int × Int:=if a.1=0 then b else a
mutual
def St.sco (f:ByteArray→Bool):St→Int × Int
 | .mk kind mon _ _ e _ _ blocks pos=>fstE (oneE f kind mon e blocks pos) (Bl.scoL (andMon f kind mon) blocks)
def Bl.sco (f:ByteArray→Bool):Bl→Int × Int
 | .mk _ _ body=>St.scoL f body
def St.scoL (f:ByteArray→Bool):List St→Int × Int
 | []=>(0,0)
 | s::l=>fstE (s.sco f) (St.scoL f l)
def Bl.scoL (f:ByteArray→Bool):List Bl→Int × Int
 | []=>(0,0)
 | b::l=>fstE (b.sco f) (Bl.scoL f l)
end
theorem fstE_zero (b:Int × Int):fstE (0,0) b=b:=rfl
theorem fstE_err {a:Int × Int} (h:a.1≠0) (b:Int × Int):fstE a b=a:=if_neg h
theorem oneE_zero {f:ByteArray→Bool} {kind:Int} {mon:ByteArray} {e:Ex} {bs:List Bl} {pos:Int} (h:(oneE f kind mon e bs pos).1=0):oneE f kind mon e bs pos=(0,0):=by
 unfold oneE at h ⊢
 split
 ·rename_i g;rw[if_pos g] at h;cases h
 ·rename_i g;rw[if_neg g] at h
  split
  ·rename_i g1;rw[g1] at h;cases h
  ·rename_i g1;rw[g1] at h
   simp only at h
   split
   ·rename_i g2;rw[g2] at h;cases h
   ·rfl
mutual
theorem St.sco_zero {f:ByteArray→Bool}:∀ s:St,(s.sco f).1=0→s.sco f=(0,0)
 | .mk kind mon name n e ad cap blocks pos=>by
  rw[St.sco]
  intro h
  by_cases h1:(oneE f kind mon e blocks pos).1=0
  ·rw[oneE_zero h1,fstE_zero] at h ⊢;exact Bl.scoL_zero blocks h
  ·rw[fstE_err h1] at h;exact absurd h h1
theorem Bl.sco_zero {f:ByteArray→Bool}:∀ b:Bl,(b.sco f).1=0→b.sco f=(0,0)
 | .mk ad cap body=>by rw[Bl.sco];exact St.scoL_zero body
theorem St.scoL_zero {f:ByteArray→Bool}:∀ l:List St,(St.scoL f l).1=0→St.scoL f l=(0,0)
 | []=>by intro _;simp[St.scoL]
 | s::l=>by
  rw[St.scoL]
  intro h
  by_cases h1:(s.sco f).1=0
  ·rw[St.sco_zero s h1,fstE_zero] at h ⊢;exact St.scoL_zero l h
  ·rw[fstE_err h1] at h;exact absurd h h1
theorem Bl.scoL_zero {f:ByteArray→Bool}:∀ l:List Bl,(Bl.scoL f l).1=0→Bl.scoL f l=(0,0)
 | []=>by intro _;simp[Bl.scoL]
 | b::l=>by
  rw[Bl.scoL]
  intro h
  by_cases h1:(b.sco f).1=0
  ·rw[Bl.sco_zero b h1,fstE_zero] at h ⊢;exact Bl.scoL_zero l h
  ·rw[fstE_err h1] at h;exact absurd h h1
end
def ownF (O:List ByteArray) (x:ByteArray):Bool:=O.any fun y=>decide (y=x)
theorem ownF_iff {O:List ByteArray} {x:ByteArray}:ownF O x=true↔x∈O:=by
 simp[ownF]
theorem ownF_append (O l:List ByteArray) (x:ByteArray):ownF (O++l) x=(ownF O x || ownF l x):=by simp[ownF]
def wth (O:List ByteArray) (x:ByteArray):List ByteArray:=if ownF O x=true then O else O++[x]
def wths (O l:List ByteArray):List ByteArray:=l.foldl wth O
theorem wth_own (O:List ByteArray) (x:ByteArray):ownF (wth O x)=fun y=>ownF O y || decide (y=x):=by
 funext y
 unfold wth
 by_cases h:ownF O x=true
 ·rw[if_pos h]
  by_cases e:y=x
  ·subst e;simp[h]
  ·simp[e]
 ·rw[if_neg h,ownF_append]
  congr 1
  by_cases e:y=x
  ·subst e;simp[ownF]
  ·have:¬ x=y:=fun h=>e h.symm
   simp[ownF,e,this]
theorem wths_own (l:List ByteArray):∀ (O:List ByteArray) (y:ByteArray),ownF (wths O l) y=(ownF O y || ownF l y):=by
 induction l with
 | nil=>intro O y;rw[wths,List.foldl_nil];simp[ownF]
 | cons x l ih =>
  intro O y
  have:=ih (wth O x) y
  rw[wths] at this ⊢
  rw[List.foldl_cons,this,wth_own]
  show ((ownF O y || decide (y=x)) || ownF l y)=(ownF O y || ownF ([x]++l) y)
  rw[ownF_append,Bool.or_assoc]
  congr 2
  by_cases e:y=x
  ·subst e;simp[ownF]
  ·have:¬ x=y:=fun h=>e h.symm
   simp[ownF,e,this]
theorem wths_nil (l:List ByteArray):ownF (wths [] l)=ownF l:=by
 funext y
 rw[wths_own]
 rfl
theorem wths_snoc (O l:List ByteArray) (k:Nat) (h:k<l.length):wths O (l.take (k+1))=wth (wths O (l.take k)) l[k]:=by
 rw[wths,wths,List.take_succ_eq_append_getElem h,List.foldl_append];rfl
theorem andMon_own (O:List ByteArray) (kind:Int) (mon:ByteArray):andMon (ownF O) kind mon=ownF (if kind=7 then wth O mon else O):=by
 unfold andMon
 split
 ·rw[wth_own]
 ·rfl
end Go.Proofs.YtbmbchdjjfmafaaGreatDoor
