import Derived.Test.YthdkgfmlihgceaaGreatDoorHac
import Derived.MapKept
import Derived.ChangeMaps4
import Derived.Maps.Range
import Derived.Maps.AppendAt
namespace Go.Proofs.YthdkgfmlihgceaaGreatDoor
open Go.RowKit
def qrf (L:List (ByteArray × Value)):List MapEntry:=L.mapIdx λi p=>{ key:=.string p.1,val:=p.2,born:=i }
theorem qu3 (L:List (ByteArray × Value)) (p:ByteArray × Value):qrf (L++[p])=qrf L++[(⟨.string p.1,p.2,L.length⟩:MapEntry)]:=by
 simp[qrf,List.mapIdx_append]
theorem qph {L:List (ByteArray × Value)}{x:MapEntry}(h:x∈qrf L):∃p∈L,x.key=.string p.1/\x.val=p.2:=by
 obtain⟨i,hi,rfl⟩:=List.mem_mapIdx.1 h
 exact⟨L[i],List.getElem_mem hi,rfl,rfl⟩
theorem qx6 {L:List (ByteArray × Value)}{p:ByteArray × Value}(h:p∈L):∃x∈qrf L,x.key=.string p.1:=by
 obtain⟨i,hi,rfl⟩:=List.getElem_of_mem h
 exact⟨_,List.mem_mapIdx.2 ⟨i,hi,rfl⟩,rfl⟩
theorem qrg (L:List (ByteArray × Value)):∀x∈qrf L,MapKept.IsKey .string x.key:=by
 intro x hx
 obtain⟨p,_,hk,_⟩:=qph hx
 rw[hk];trivial
def SMap (W:World) (b:Nat) (L:List (ByteArray × Value)):Prop:=W.heap[b]?=some (.map (qrf L).toArray L.length)/\(L.map Prod.fst).Nodup
theorem SMap.lt {W:World}{b:Nat}{L:List (ByteArray × Value)}(h:SMap W b L):b<W.heap.size:=(Array.getElem?_eq_some_iff.1 h.1).1
theorem SMap.kept {W W':World}{b:Nat}{L:List (ByteArray × Value)}(h:SMap W b L) (hb:W'.heap[b]?=W.heap[b]?):SMap W' b L:=⟨hb.trans h.1,h.2⟩
theorem SMap.below {W W':World}{b n:Nat}{L:List (ByteArray × Value)}(h:SMap W b L) (hb:Below n W W') (hn:b<n):SMap W' b L:=h.kept (hb.block b hn)
theorem SMap.al {W:World}{b:Nat}{L:List (ByteArray × Value)}(h:SMap W b L) (o:Obj):SMap (W.alloc o) b L:=h.kept (Below.heap_alloc _ _ _ h.lt)
theorem SMap.grown {W W':World}{b:Nat}{L:List (ByteArray × Value)}{row:Option Nat}(h:SMap W b L) (hg:W.grownBy W' row) (hne:some b≠row):SMap W' b L:=h.kept (hg.block b h.lt hne)
theorem SMap.new (W:World):SMap (W.alloc (.map #[] 0)) W.heap.size []:=⟨(MapKept.heap_alloc W _).1,by simp⟩
theorem qnf {L:List (ByteArray × Value)}(hn:(L.map Prod.fst).Nodup) {p:ByteArray × Value}(hp:p∈L):L.find? (λx=>decide (x.1=p.1))=some p:=by
 induction L with
 | nil=>cases hp
 | cons x L ih =>
  rw[List.map_cons,List.nodup_cons] at hn
  rw[List.find?_cons]
  rcases List.mem_cons.1 hp with rfl|hp
  ·simp
  ·have:x.1≠p.1:=λe=>hn.1 (List.mem_map.2 ⟨p,hp,e.symm⟩)
   simp only[decide_eq_false this]
   exact ih hn.2 hp
theorem qsm {W:World}{b:Nat}{L:List (ByteArray × Value)}(h:SMap W b L) (n:ByteArray) :
  (∃j p,L.find? (λx=>decide (x.1=n))=some p/\Instr.findNow .string (.string n) (qrf L) 0=some (some (j,p.2)))\/(L.find? (λx=>decide (x.1=n))=none/\Instr.findNow .string (.string n) (qrf L) 0=some none):=by
 have hk:MapKept.IsKey .string (.string n):=trivial
 rcases MapKept.findNow_spec hk (qrf L) 0 (qrg L) with ⟨h1,h2⟩|⟨j,e,h1,h2,h3⟩
 ·refine .inr ⟨List.find?_eq_none.2 λx hx=>?_,h1⟩
  obtain⟨y,hy,hky⟩:=qx6 hx
  have:x.1≠n:=λe=>h2 y hy (by rw[hky,e])
  simpa using this
 ·obtain⟨p,hp,hkp,hv⟩:=qph (List.mem_of_getElem? h2)
  rw[hkp] at h3
  obtain rfl:p.1=n:=by simpa using h3
  exact .inl ⟨0+j,p,qnf h.2 hp,by rw[h1,hv]⟩
theorem qtm {T E:TypeId}{z:Value}{W:World}{b:Nat}{L:List (ByteArray × Value)}(h:SMap W b L) (hT:Tryz.prog.underlying T=some (.map 9 E)) (hz:(zeroValue E).run Tryz.prog W=.ok z W) (n:ByteArray) :
  (Instr.lookup T (.map (some b)) (.string n) false).run Tryz.prog W=.ok (match L.find? (λx=>decide (x.1=n)) with|some p=>p.2|none=>z) W:=by
 have hk:MapKept.IsKey .string (.string n):=trivial
 rcases qsm h n with ⟨j,p,h1,h2⟩|⟨h1,h2⟩
 ·simp[Instr.lookup,run_underlying hT,MapKept.run_getObj_map h.1,MapKept.run_checkKey Tryz.underlying9 hk,MapKept.run_findKey Tryz.underlying9 h2,Result.andThen,h1]
 ·simp[Instr.lookup,run_underlying hT,MapKept.run_getObj_map h.1,MapKept.run_checkKey Tryz.underlying9 hk,MapKept.run_findKey Tryz.underlying9 h2,Result.andThen,h1,hz]
theorem qCu (W:World):(zeroValue 120).run Tryz.prog W=.ok (.map none) W:=by kernel_rfl
theorem qCt (W:World):(zeroValue 3).run Tryz.prog W=.ok (.int .i64 0) W:=by kernel_rfl
theorem qnt {T E:TypeId}{z:Value}{W:World}(hT:Tryz.prog.underlying T=some (.map 9 E)) (hz:(zeroValue E).run Tryz.prog W=.ok z W) (n:ByteArray) :
  (Instr.lookup T (.map none) (.string n) false).run Tryz.prog W=.ok z W:=by
 have hk:MapKept.IsKey .string (.string n):=trivial
 have h2:Instr.findNow .string (.string n) [] 0=some none:=rfl
 simp[Instr.lookup,run_underlying hT,MapKept.run_checkKey Tryz.underlying9 hk,MapKept.run_findKey Tryz.underlying9 h2,Result.andThen,hz]
def qfe (W:World) (b:Nat) (L:List (ByteArray × Value)) (n:ByteArray) (v:Value):World:=ChangeMaps.setBlock W b (.map (qrf (L++[(n,v)])).toArray (L++[(n,v)]).length)
theorem qec (W:World) (b:Nat) (L:List (ByteArray × Value)) (n:ByteArray) (v:Value):W.grownBy (qfe W b L n v) (some b):=
 ⟨rfl,rfl,rfl,by simp[qfe,ChangeMaps.setBlock],λk _ hk=>by
  show (W.heap.setIfInBounds b _)[k]?=_
  rw[Array.getElem?_setIfInBounds_ne (λe=>hk (by rw[e]))]⟩
theorem qfz {W:World}{b:Nat}{L:List (ByteArray × Value)}(h:SMap W b L) {n:ByteArray}(hn:n ∉ L.map Prod.fst) (v:Value):SMap (qfe W b L n v) b (L++[(n,v)]):=by
 refine⟨?_,?_⟩
 ·have:=h.lt
  simp[qfe,ChangeMaps.setBlock,this]
 ·rw[List.map_append]
  exact List.nodup_append.2 ⟨h.2,by simp,λa ha c hc=>by simp at hc;rintro rfl;exact hn (hc▸ha)⟩
theorem qpa {T E:TypeId}{W:World}{b:Nat}{L:List (ByteArray × Value)}(h:SMap W b L) (hT:Tryz.prog.underlying T=some (.map 9 E)) {n:ByteArray}(hn:n ∉ L.map Prod.fst) (v:Value) :
  (Instr.mapUpdate T (.map (some b)) (.string n) v).run Tryz.prog W=.ok () (qfe W b L n v):=by
 have hk:MapKept.IsKey .string (.string n):=trivial
 have e1:(qrf L).toArray.push ⟨.string n,v,L.length⟩=(qrf (L++[(n,v)])).toArray:=by rw[qu3];simp
 have e2:(L++[(n,v)]).length=L.length+1:=by simp
 rcases qsm h n with ⟨j,p,h1,h2⟩|⟨h1,h2⟩
 ·exact absurd (List.mem_map.2 ⟨p,List.mem_of_find?_eq_some h1,by simpa using List.find?_some h1⟩) hn
 ·simp only[Instr.mapUpdate,Sem.run_bind,run_underlying hT,MapKept.run_getObj_map h.1,MapKept.run_checkKey Tryz.underlying9 hk,MapKept.run_findKey Tryz.underlying9 h2,Result.andThen,e1,MapKept.run_setObj_map _ h.1,qfe,ChangeMaps.setBlock,e2]
def ints (l:List (ByteArray × Int)):List (ByteArray × Value):=l.map λx=>(x.1,.int .i64 x.2)
theorem qj2 (l:List (ByteArray × Int)):(ints l).map Prod.fst=l.map Prod.fst:=by simp[ints]
theorem qs7 (l:List (ByteArray × Int)) (n:ByteArray):(match (ints l).find? (λx=>decide (x.1=n)) with|some p=>p.2|none=>.int .i64 0)=Value.int .i64 (qbj l n):=by
 induction l with
 | nil=>rfl
 | cons x l ih =>
  simp only[ints,List.map_cons,List.find?_cons,qbj] at ih ⊢
  by_cases hd:x.1=n
  ·simp[hd]
  ·simpa[hd] using ih
def outer (S:List (ByteArray × List (ByteArray × Int))) (B:List Nat):List (ByteArray × Value):=S.zipWith (λx c=>(x.1,.map (some c))) B
def Scope (W:World) (b:Nat) (S:List (ByteArray × List (ByteArray × Int))) (B:List Nat):Prop:=
 B.length=S.length/\SMap W b (outer S B)/\∀(i:Nat) (h:i<S.length) (h':i<B.length),B[i]≠b/\SMap W B[i] (ints S[i].2)
theorem quc (S:List (ByteArray × List (ByteArray × Int))) (B:List Nat) (h:B.length=S.length):(outer S B).map Prod.fst=S.map Prod.fst:=by
 induction S generalizing B with
 | nil=>simp[outer]
 | cons x S ih=>cases B with
  | nil=>simp at h
  | cons c B=>simp only[outer,List.zipWith_cons_cons,List.map_cons] at ih ⊢;rw[ih B (by simpa using h)]
theorem Scope.below {W W':World}{b n:Nat}{S:List (ByteArray × List (ByteArray × Int))}{B:List Nat}(h:Scope W b S B) (hb:Below n W W') (hn:W.heap.size<=n):Scope W' b S B:=
 ⟨h.1,h.2.1.below hb (Nat.lt_of_lt_of_le h.2.1.lt hn),λi hi hi'=>⟨(h.2.2 i hi hi').1,(h.2.2 i hi hi').2.below hb (Nat.lt_of_lt_of_le (h.2.2 i hi hi').2.lt hn)⟩⟩
theorem qq1 (S:List (ByteArray × List (ByteArray × Int))) (B:List Nat) (h:B.length=S.length) (n:ByteArray) :
  (∃(i:Nat) (hi:i<S.length) (hi':i<B.length),S.find? (λx=>decide (x.1=n))=some S[i]/\(match (outer S B).find? (λx=>decide (x.1=n)) with|some p=>p.2|none=>.map none)=Value.map (some B[i])) \/
  (S.find? (λx=>decide (x.1=n))=none/\(match (outer S B).find? (λx=>decide (x.1=n)) with|some p=>p.2|none=>.map none)=Value.map none):=by
 induction S generalizing B with
 | nil=>exact .inr ⟨rfl,rfl⟩
 | cons x S ih=>cases B with
  | nil=>simp at h
  | cons c B =>
   by_cases hd:x.1=n
   ·exact .inl ⟨0,by simp,by simp,by simp[hd],by simp[outer,hd]⟩
   ·rcases ih B (by simpa using h) with ⟨i,hi,hi',h1,h2⟩|⟨h1,h2⟩
    ·refine .inl ⟨i+1,by simpa using hi,by simpa using hi',?_,?_⟩
     ·simpa[List.find?_cons,hd] using h1
     ·simpa[outer,List.find?_cons,hd] using h2
    ·refine .inr ⟨?_,?_⟩
     ·simpa[List.find?_cons,hd] using h1
     ·simpa[outer,List.find?_cons,hd] using h2
theorem qq2 (S:List (ByteArray × List (ByteArray × Int))) (B:List Nat) (h:B.length=S.length) (x:ByteArray × List (ByteArray × Int)) (c:Nat):outer (S++[x]) (B++[c])=outer S B++[(x.1,.map (some c))]:=by
 rw[outer,List.zipWith_append h.symm];rfl
theorem qgn {W:World}{b:Nat}{S:List (ByteArray × List (ByteArray × Int))}{B:List Nat}(h:Scope W b S B) (mon:ByteArray) :
  (∃(c:Nat) (l:List (ByteArray × Int)),(∀name,(qbd S).V mon name=decide (qbj l name=1)/\(qbd S).F mon name=decide (qbj l name=2))/\(qbd S).M mon=true/\(Instr.lookup 165 (.map (some b)) (.string mon) false).run Tryz.prog W=.ok (.map (some c)) W/\SMap W c (ints l)/\mon∈S.map Prod.fst) \/
  ((∀name,(qbd S).V mon name=false/\(qbd S).F mon name=false)/\(qbd S).M mon=false/\(Instr.lookup 165 (.map (some b)) (.string mon) false).run Tryz.prog W=.ok (.map none) W/\mon ∉ S.map Prod.fst):=by
 have hl:=qtm h.2.1 (T:=165) (E:=120) Tryz.underlying165 (qCu W) mon
 rcases qq1 S B h.1 mon with ⟨i,hi,hi',h1,h2⟩|⟨h1,h2⟩
 ·rw[h2] at hl
  exact .inl ⟨B[i],S[i].2,λname=>⟨by simp only[qbd,h1],by simp only[qbd,h1]⟩,by simp only[qbd,h1];rfl,hl,(h.2.2 i hi hi').2,List.mem_map.2 ⟨_,List.mem_of_find?_eq_some h1,by simpa using List.find?_some h1⟩⟩
 ·rw[h2] at hl
  refine .inr ⟨λname=>⟨by simp only[qbd,h1],by simp only[qbd,h1]⟩,by simp only[qbd,h1];rfl,hl,λhm=>?_⟩
  obtain⟨x,hx,he⟩:=List.mem_map.1 hm
  exact absurd (List.find?_eq_none.1 h1 x hx) (by simp[he])
theorem qj7 {W:World}{c:Nat}{l:List (ByteArray × Int)}(h:SMap W c (ints l)) (name:ByteArray):(Instr.lookup 120 (.map (some c)) (.string name) false).run Tryz.prog W=.ok (.int .i64 (qbj l name)) W:=by
 have:=qtm h (T:=120) (E:=3) Tryz.underlying120 (qCt W) name
 rwa [qs7] at this
theorem qtl (W:World) (name:ByteArray):(Instr.lookup 120 (.map none) (.string name) false).run Tryz.prog W=.ok (.int .i64 0) W:=qnt (T:=120) (E:=3) Tryz.underlying120 (qCt W) name
theorem qe6 (l:List (ByteArray × Int)) (n:ByteArray) (h:n ∉ l.map Prod.fst):qbj l n=0:=by
 unfold qbj
 rw[List.find?_eq_none.2 λx hx=>by
  have:x.1≠n:=λe=>h (List.mem_map.2 ⟨x,hx,e⟩)
  simpa using this]
theorem qge (l:List (ByteArray × Int)) (n:ByteArray) (h:n∈l.map Prod.fst) (hp:∀x∈l,x.2≠0):qbj l n≠0:=by
 unfold qbj
 cases hf:l.find? (λx=>decide (x.1=n)) with
 | none =>
  obtain⟨x,hx,he⟩:=List.mem_map.1 h
  exact absurd (List.find?_eq_none.1 hf x hx) (by simp[he])
 | some x=>exact hp x (List.mem_of_find?_eq_some hf)
