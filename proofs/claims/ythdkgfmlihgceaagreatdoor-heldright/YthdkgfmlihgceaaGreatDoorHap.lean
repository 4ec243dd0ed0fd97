import Derived.Test.YthdkgfmlihgceaaGreatDoorHac
import Derived.DeepKeys4
import Derived.MapKept
import Derived.ChangeMaps4
namespace Go.Proofs.YthdkgfmlihgceaaGreatDoor
open Go.RowKit
abbrev Ref:=ByteArray × ByteArray
theorem laidOut:laidOutB Tryz.prog=true:=by kernel_rfl
theorem keyLaw:WideMaps.KeyLaw Tryz.prog 116:=deep_law_laid (m:=2) laidOut (by omega) (of_decide_eq_true (by kernel_rfl)) (by kernel_rfl) (by kernel_rfl)
def qeg (p:Ref):Value:=.agg #[.string p.1,.string p.2]
theorem qpo {p q:Ref}(h:qeg p=qeg q):p=q:=by
 have:p.1=q.1/\p.2=q.2:=by simpa[qeg] using h
 exact Prod.ext this.1 this.2
def qct (p:Ref):Prop:=p.1.size<=maxLen/\p.2.size<=maxLen
theorem qwt:Tryz.prog.keyType 116=true:=by kernel_rfl
theorem qvj:∃n,Tryz.prog.types.size=n+1:=⟨248,by kernel_rfl⟩
theorem qBl:Tryz.prog.cellsOf 116=2:=by kernel_rfl
theorem cellsS:Tryz.prog.cellsOf 9=1:=by kernel_rfl
theorem qtc {P:Program}{k s:TypeId}{f0 f1:Field}(hu:P.underlying k=some (.struct #[f0,f1])) (t0:f0.type=s) (t1:f1.type=s) (o0:f0.offset=0) (o1:f1.offset=1) (n0:(f0.name != "_")=true) (n1:(f1.name != "_")=true)
  (hs:P.underlying s=some .string) (hc:P.cellsOf k=2) (hcs:P.cellsOf s=1) (hk:P.keyType k=true) (hsz:∃n,P.types.size=n+1) {p:Ref}(h:qct p) :
  keyOf P k (qeg p)=some (.string (keyBytes [.string p.1.data.toList,.string p.2.data.toList])):=by
 obtain⟨n,hn⟩:=hsz
 obtain⟨h1,h2⟩:=h
 unfold keyOf
 simp[hu,hk,hn,qeg,Value.formed,hc,Value.cells,Program.keyLits,hs,hcs,h1,h2,t0,t1,o0,o1,n0,n1]
theorem qe5 {p:Ref}(h:qct p):keyOf Tryz.prog 116 (qeg p)=some (.string (keyBytes [.string p.1.data.toList,.string p.2.data.toList])):=
 qtc Tryz.underlying116 rfl rfl rfl rfl rfl rfl Tryz.underlying9 qBl cellsS qwt qvj h
def qe7 (L:List (Ref × Value)):List MapEntry:=L.mapIdx λi p=>{ key:=qeg p.1,val:=p.2,born:=i }
theorem qen (L:List (Ref × Value)) (p:Ref × Value):qe7 (L++[p])=qe7 L++[(⟨qeg p.1,p.2,L.length⟩:MapEntry)]:=by
 simp[qe7,List.mapIdx_append]
theorem qj6 (L:List (Ref × Value)):(qe7 L).length=L.length:=by simp[qe7]
theorem qwv {L:List (Ref × Value)}{j:Nat}{x:MapEntry}(h:(qe7 L)[j]?=some x):∃(hj:j<L.length),x=⟨qeg L[j].1,L[j].2,j⟩:=by
 have hj:j<L.length:=by rw[<- qj6];exact (List.getElem?_eq_some_iff.1 h).1
 refine⟨hj,?_⟩
 simp[qe7,hj] at h
 exact h.symm
theorem qoy {L:List (Ref × Value)}{x:MapEntry}(h:x∈qe7 L):∃p∈L,x.key=qeg p.1/\x.val=p.2/\x.born<L.length:=by
 obtain⟨i,hi,rfl⟩:=List.mem_mapIdx.1 h
 exact⟨L[i],List.getElem_mem hi,rfl,rfl,hi⟩
theorem qww {L:List (Ref × Value)}{p:Ref × Value}(h:p∈L):∃x∈qe7 L,x.key=qeg p.1:=by
 obtain⟨i,hi,rfl⟩:=List.getElem_of_mem h
 exact⟨_,List.mem_mapIdx.2 ⟨i,hi,rfl⟩,rfl⟩
def KMap (W:World) (b:Nat) (L:List (Ref × Value)):Prop:=W.heap[b]?=some (.map (qe7 L).toArray L.length)/\(∀p∈L,qct p.1)/\(L.map Prod.fst).Nodup
theorem KMap.lt {W:World}{b:Nat}{L:List (Ref × Value)}(h:KMap W b L):b<W.heap.size:=(Array.getElem?_eq_some_iff.1 h.1).1
theorem KMap.kept {W W':World}{b:Nat}{L:List (Ref × Value)}(h:KMap W b L) (hb:W'.heap[b]?=W.heap[b]?):KMap W' b L:=⟨hb.trans h.1,h.2⟩
theorem KMap.below {W W':World}{b n:Nat}{L:List (Ref × Value)}(h:KMap W b L) (hb:Below n W W') (hn:b<n):KMap W' b L:=h.kept (hb.block b hn)
theorem KMap.al {W:World}{b:Nat}{L:List (Ref × Value)}(h:KMap W b L) (o:Obj):KMap (W.alloc o) b L:=h.kept (Below.heap_alloc _ _ _ h.lt)
theorem KMap.new (W:World):KMap (W.alloc (.map #[] 0)) W.heap.size []:=⟨(MapKept.heap_alloc W _).1,(λp hp=>by cases hp),by simp⟩
theorem KMap.keys {W:World}{b:Nat}{L:List (Ref × Value)}(h:KMap W b L):∀e∈qe7 L,∃l,keyOf Tryz.prog 116 e.key=some l:=by
 intro e he
 obtain⟨p,hp,hk,_⟩:=qoy he
 exact⟨_,by rw[hk];exact qe5 (h.2.1 p hp)⟩
def qfs (L:List (Ref × Value)) (r:Ref):Option Value:=(L.find? (λx=>decide (x.1=r))).map Prod.snd
theorem qem {L:List (Ref × Value)}{r:Ref}:qfs L r=none↔r ∉ L.map Prod.fst:=by
 simp only[qfs,Option.map_eq_none_iff,List.find?_eq_none,List.mem_map,not_exists,not_and,decide_eq_true_eq]
theorem qwu {L:List (Ref × Value)}(hn:(L.map Prod.fst).Nodup) {p:Ref × Value}(hp:p∈L):qfs L p.1=some p.2:=by
 induction L with
 | nil=>cases hp
 | cons x L ih =>
  rw[List.map_cons,List.nodup_cons] at hn
  rw[qfs,List.find?_cons]
  rcases List.mem_cons.1 hp with rfl|hp
  ·simp
  ·have:x.1≠p.1:=λe=>hn.1 (List.mem_map.2 ⟨p,hp,e.symm⟩)
   simp only[decide_eq_false this]
   exact ih hn.2 hp
theorem qjz {W:World}{b:Nat}{L:List (Ref × Value)}(h:KMap W b L) {r:Ref}(hr:qct r) (U:World) :
  (qfs L r=none/\(Instr.findKey 116 (qeg r) (qe7 L)).run Tryz.prog U=.ok none U)\/(∃(j:Nat) (hj:j<L.length),L[j].1=r/\qfs L r=some L[j].2/\(Instr.findKey 116 (qeg r) (qe7 L)).run Tryz.prog U=.ok (some (j,L[j].2)) U):=by
 rcases keyLaw.find U (qe5 hr) (qe7 L) h.keys with ⟨h1,h2⟩|⟨j,e,h1,h2,h3⟩
 ·refine .inl ⟨qem.2 λhm=>?_,h1⟩
  obtain⟨p,hp,rfl⟩:=List.mem_map.1 hm
  obtain⟨x,hx,hk⟩:=qww hp
  exact h2 x hx hk
 ·obtain⟨hj,rfl⟩:=qwv h2
  have e1:=qpo h3
  exact .inr ⟨j,hj,e1,by rw[<- e1];exact qwu h.2.2 (List.getElem_mem hj),h1⟩
theorem qi5 {r:Ref}(hr:qct r) (W:World) (em:Bool):(Instr.checkKey em 10000 116 (.agg #[.string r.1,.string r.2])).run Tryz.prog W=.ok () W:=keyLaw.check W em (qe5 hr)
theorem qde {T E:TypeId}{z:Value}{W:World}{b:Nat}{L:List (Ref × Value)}(h:KMap W b L) (hT:Tryz.prog.underlying T=some (.map 116 E)) (hz:(zeroValue E).run Tryz.prog W=.ok z W) {r:Ref}(hr:qct r) :
  (Instr.lookup T (.map (some b)) (.agg #[.string r.1,.string r.2]) false).run Tryz.prog W=.ok ((qfs L r).getD z) W:=by
 rcases qjz h hr W with ⟨h1,h2⟩|⟨j,hj,_,h1,h2⟩
 ·rw[qeg] at h2
  simp[Instr.lookup,run_underlying hT,MapKept.run_getObj_map h.1,qi5 hr W,h2,Result.andThen,h1,hz]
 ·rw[qeg] at h2
  simp[Instr.lookup,run_underlying hT,MapKept.run_getObj_map h.1,qi5 hr W,h2,Result.andThen,h1]
theorem qw6 {T E:TypeId}{z:Value}{W:World}{b:Nat}{L:List (Ref × Value)}(h:KMap W b L) (hT:Tryz.prog.underlying T=some (.map 116 E)) (hz:(zeroValue E).run Tryz.prog W=.ok z W) {r:Ref}(hr:qct r) :
  (Instr.lookup T (.map (some b)) (.agg #[.string r.1,.string r.2]) true).run Tryz.prog W=.ok (.tuple #[(qfs L r).getD z,.bool (qfs L r).isSome]) W:=by
 rcases qjz h hr W with ⟨h1,h2⟩|⟨j,hj,_,h1,h2⟩
 ·rw[qeg] at h2
  simp[Instr.lookup,run_underlying hT,MapKept.run_getObj_map h.1,qi5 hr W,h2,Result.andThen,h1,hz]
 ·rw[qeg] at h2
  simp[Instr.lookup,run_underlying hT,MapKept.run_getObj_map h.1,qi5 hr W,h2,Result.andThen,h1]
def kmW (W:World) (b:Nat) (L:List (Ref × Value)):World:=ChangeMaps.setBlock W b (.map (qe7 L).toArray L.length)
theorem qln (W:World) (b:Nat) (L:List (Ref × Value)):W.grownBy (kmW W b L) (some b):=
 ⟨rfl,rfl,rfl,by simp[kmW,ChangeMaps.setBlock],λk _ hk=>by
  show (W.heap.setIfInBounds b _)[k]?=_
  rw[Array.getElem?_setIfInBounds_ne (λe=>hk (by rw[e]))]⟩
theorem qoz (W:World) (b:Nat) (L:List (Ref × Value)):W.grownBy (kmW W.drew b L) (some b):=
 ⟨rfl,rfl,rfl,by simp[kmW,ChangeMaps.setBlock],λk _ hk=>by
  show (W.heap.setIfInBounds b _)[k]?=_
  rw[Array.getElem?_setIfInBounds_ne (λe=>hk (by rw[e]))]⟩
theorem qgf {W:World}{b:Nat}{L L':List (Ref × Value)}(h:KMap W b L) (hv:∀p∈L',qct p.1) (hn:(L'.map Prod.fst).Nodup):KMap (kmW W b L') b L':=by
 refine⟨?_,hv,hn⟩
 have:=h.lt
 simp[kmW,ChangeMaps.setBlock,this]
theorem qlp (W:World) (b:Nat) (L L':List (Ref × Value)):kmW (kmW W b L) b L'=kmW W b L':=by
 simp[kmW,ChangeMaps.setBlock]
theorem qo0 (W:World) (b:Nat) (L:List (Ref × Value)):(kmW W b L).heap.size=W.heap.size:=by simp[kmW,ChangeMaps.setBlock]
def qmt (L:List (Ref × Value)) (r:Ref) (v:Value):List (Ref × Value):=if ∃x∈L,x.1=r then L.map (λx=>if x.1=r then (r,v) else x) else L++[(r,v)]
theorem qfu (L:List (Ref × Value)) (r:Ref) (v:Value) (h:r∈L.map Prod.fst):qmt L r v=L.map (λx=>if x.1=r then (r,v) else x):=by rw[qmt,if_pos (List.mem_map.1 h)]
theorem qwy (L:List (Ref × Value)) (r:Ref) (v:Value) (h:r∈L.map Prod.fst):(qmt L r v).map Prod.fst=L.map Prod.fst:=by
 rw[qfu _ _ _ h,List.map_map]
 refine List.map_congr_left λx _=>?_
 by_cases e:x.1=r <;> simp[e]
theorem qd5 (L:List (Ref × Value)) (r:Ref) (v:Value) (h:r ∉ L.map Prod.fst):qmt L r v=L++[(r,v)]:=by rw[qmt,if_neg (λg=>h (List.mem_map.2 g))]
theorem qdr {L:List (Ref × Value)}(hn:(L.map Prod.fst).Nodup) {r:Ref}(v:Value) (h:r ∉ L.map Prod.fst):((L++[(r,v)]).map Prod.fst).Nodup:=by
 rw[List.map_append]
 exact List.nodup_append.2 ⟨hn,by simp,λa ha c hc=>by simp at hc;rintro rfl;exact h (hc▸ha)⟩
theorem qer {L:List (Ref × Value)}(hv:∀p∈L,qct p.1) {r:Ref}(hr:qct r) (v:Value):∀p∈L++[(r,v)],qct p.1:=by
 intro p hp
 rcases List.mem_append.1 hp with hp|hp
 ·exact hv p hp
 ·rw[List.mem_singleton.1 hp];exact hr
theorem KMap.put {W:World}{b:Nat}{L:List (Ref × Value)}(h:KMap W b L) {r:Ref}(hr:qct r) (v:Value):KMap (kmW W b (qmt L r v)) b (qmt L r v):=by
 by_cases hm:r∈L.map Prod.fst
 ·refine qgf h (λp hp=>?_) (by rw[qwy _ _ _ hm];exact h.2.2)
  rw[qfu _ _ _ hm] at hp
  obtain⟨x,hx,rfl⟩:=List.mem_map.1 hp
  by_cases e:x.1=r
  ·simp only[e,if_true];exact hr
  ·simp only[e,if_false];exact h.2.1 x hx
 ·rw[qd5 _ _ _ hm]
  exact qgf h (qer h.2.1 hr v) (qdr h.2.2 v hm)
theorem qj5 (L:List (Ref × Value)) (r:Ref) (v:Value) (s:Ref):qfs (qmt L r v) s=if s=r then some v else qfs L s:=by
 by_cases hm:r∈L.map Prod.fst
 ·rw[qfu _ _ _ hm]
  induction L with
  | nil=>simp at hm
  | cons x L ih =>
   rw[List.map_cons]
   by_cases e:x.1=r
   ·by_cases es:s=r
    ·subst es;simp[qfs,e]
    ·simp only[e,if_true,es,if_false]
     have h1:¬ r=s:=λh=>es h.symm
     have h2:¬ x.1=s:=by rw[e];exact h1
     by_cases hm2:r∈L.map Prod.fst
     ·have:=ih hm2
      simp only[es,if_false] at this
      simpa[qfs,List.find?_cons,h1,h2] using this
     ·have:L.map (λx=>if x.1=r then (r,v) else x)=L:=by
       refine (List.map_congr_left λy hy=>?_).trans (List.map_id' L)
       have:y.1≠r:=λh=>hm2 (List.mem_map.2 ⟨y,hy,h⟩)
       simp[this]
      simp[qfs,h1,h2,this]
   ·have hm2:r∈L.map Prod.fst:=by
     rw[List.map_cons,List.mem_cons] at hm
     rcases hm with h|h
     ·exact absurd h.symm e
     ·exact h
    have:=ih hm2
    simp only[e,if_false]
    by_cases ex:x.1=s
    ·have:¬ s=r:=by rw[<- ex];exact e
     simp[qfs,ex,this]
    ·simpa[qfs,List.find?_cons,ex] using this
 ·rw[qd5 _ _ _ hm]
  by_cases es:s=r
  ·subst es
   have:=List.find?_eq_none.1 (Option.map_eq_none_iff.1 (qem.2 hm))
   rw[qfs,List.find?_append,List.find?_eq_none.2 this]
   simp
  ·have:¬ r=s:=λh=>es h.symm
   simp[qfs,List.find?_append,es,this]
theorem qB7 (L:List (Ref × Value)) (hn:(L.map Prod.fst).Nodup) (j:Nat) (hj:j<L.length) (r:Ref) (hr:L[j].1=r) (v:Value):(qe7 L).toArray.modify j (λe=>{ e with key:=qeg r,val:=v })=(qe7 (qmt L r v)).toArray:=by
 have hm:r∈L.map Prod.fst:=List.mem_map.2 ⟨L[j],List.getElem_mem hj,hr⟩
 apply Array.ext'
 rw[Array.toList_modify,qfu _ _ _ hm]
 apply List.ext_getElem?
 intro k
 rw[List.getElem?_modify]
 simp only[qe7,List.getElem?_mapIdx,List.getElem?_map]
 by_cases hk:k<L.length
 ·by_cases e:j=k
  ·subst e
   simp[List.getElem?_eq_getElem hj,hr]
  ·have hne:L[k].1≠r:=by
    intro h
    have h1:=List.pairwise_iff_getElem.1 hn
    rcases Nat.lt_or_gt_of_ne e with hlt|hlt
    ·exact h1 j k (by simpa using hj) (by simpa using hk) hlt (by simp[hr,h])
    ·exact h1 k j (by simpa using hk) (by simpa using hj) hlt (by simp[hr,h])
   simp[List.getElem?_eq_getElem hk,e,hne]
 ·have:L[k]?=none:=List.getElem?_eq_none (by omega)
  simp[this]
theorem qwz (L:List (Ref × Value)) (r:Ref) (v:Value) (h:r∈L.map Prod.fst):(qmt L r v).length=L.length:=by rw[qfu _ _ _ h,List.length_map]
theorem qy1 {T E:TypeId}{W:World}{b:Nat}{L:List (Ref × Value)}(h:KMap W b L) (hT:Tryz.prog.underlying T=some (.map 116 E)) {r:Ref}(hr:qct r) (v:Value) :
  (Instr.mapUpdate T (.map (some b)) (.agg #[.string r.1,.string r.2]) v).run Tryz.prog W=.ok () (kmW W b (qmt L r v)):=by
 rcases qjz h hr W with ⟨h1,h2⟩|⟨j,hj,e1,h1,h2⟩
 ·rw[qeg] at h2
  have hm:=qem.1 h1
  have e1:(qe7 L).toArray.push ⟨.agg #[.string r.1,.string r.2],v,L.length⟩=(qe7 (qmt L r v)).toArray:=by rw[qd5 _ _ _ hm,qen,qeg];simp
  have e2:(qmt L r v).length=L.length+1:=by rw[qd5 _ _ _ hm];simp
  simp only[Instr.mapUpdate,Sem.run_bind,run_underlying hT,MapKept.run_getObj_map h.1,qi5 hr W,h2,Result.andThen,e1,MapKept.run_setObj_map _ h.1,kmW,ChangeMaps.setBlock,e2]
 ·have hm:r∈L.map Prod.fst:=List.mem_map.2 ⟨L[j],List.getElem_mem hj,e1⟩
  have e2:=qB7 L h.2.2 j hj r e1 v
  have e3:(((qe7 L).toArray[j]?).map (·.key)).getD (qeg r)=qeg r:=by
   have:(qe7 L)[j]?=some ⟨qeg L[j].1,L[j].2,j⟩:=by simp[qe7,List.getElem?_eq_getElem hj]
   simp[this,e1]
  have e4:=keyLaw.stays W (qe5 hr)
  have e5:=qwz L r v hm
  show (Instr.mapUpdate T (.map (some b)) (qeg r) v).run Tryz.prog W=_
  simp only[Instr.mapUpdate,Sem.run_bind,run_underlying hT,MapKept.run_getObj_map h.1,keyLaw.check W _ (qe5 hr),h2,Result.andThen,e3,e4,e2,MapKept.run_setObj_map _ h.1,kmW,ChangeMaps.setBlock,e5]
theorem qot {T:TypeId}{W:World}{b:Nat}{L:List (Ref × Value)}(h:KMap W b L) (hT:Tryz.prog.underlying T=some (.map 116 3)) {r:Ref}(hr:qct r) (hm:r ∉ L.map Prod.fst) :
  (Instr.mapEntry T (.map (some b)) (.agg #[.string r.1,.string r.2])).run Tryz.prog W=.ok (.tuple #[.int .i64 0,.int .i64 (L.length:Int)]) (kmW W b (L++[(r,.int .i64 0)])):=by
 rcases qjz h hr W with ⟨h1,h2⟩|⟨j,hj,e1,h1,h2⟩
 ·rw[qeg] at h2
  have e1:(qe7 L).toArray.push ⟨.agg #[.string r.1,.string r.2],.int .i64 0,L.length⟩=(qe7 (L++[(r,.int .i64 0)])).toArray:=by rw[qen,qeg];simp
  have e2:(L++[(r,Value.int .i64 0)]).length=L.length+1:=by simp
  simp only[Instr.mapEntry,Sem.run_bind,Sem.run_pure,run_underlying hT,MapKept.run_getObj_map h.1,qi5 hr W,h2,Tryz.zeroValue3,Result.andThen,e1,MapKept.run_setObj_map _ h.1,kmW,ChangeMaps.setBlock,e2,goInt]
 ·exact absurd (List.mem_map.2 ⟨L[j],List.getElem_mem hj,e1⟩) hm
theorem qqr (L:List (Ref × Value)) (x:MapEntry) (hx:x.born=L.length):(qe7 L++[x]).findIdx? (λe=>((e.born:Nat):Int)==((L.length:Nat):Int))=some L.length:=by
 have hlen:=qj6 L
 have h0:(qe7 L).findIdx? (λe=>((e.born:Nat):Int)==((L.length:Nat):Int))=none:=by
  rw[List.findIdx?_eq_none_iff]
  intro e he
  obtain⟨_,_,_,_,hb⟩:=qoy he
  rw[beq_eq_false_iff_ne];omega
 rw[List.findIdx?_append,h0]
 simp[hx,hlen]
theorem qqz {α:Type}(f:α->α) (a:α) (l:List α):(l++[a]).modify l.length f=l++[f a]:=by
 induction l with
 | nil=>rfl
 | cons b r ih=>rw[List.cons_append,List.length_cons,List.modify_succ_cons,ih];rfl
theorem qpi {T:TypeId}{W:World}{b:Nat}{L:List (Ref × Value)}{r:Ref}(h:KMap W b (L++[(r,.int .i64 0)])) :
  (Instr.entryStore T (.map (some b)) (.int .i64 (L.length:Int)) (.int .i64 1)).run Tryz.prog W=.ok () (kmW W b (L++[(r,.int .i64 1)])):=by
 have hb:=h.1
 have hm:(qe7 (L++[(r,.int .i64 0)])).toArray.modify L.length (λe=>{ e with val:=.int .i64 1 })=(qe7 (L++[(r,.int .i64 1)])).toArray:=by
  apply Array.ext'
  rw[Array.toList_modify,qen,qen,<- qj6]
  exact qqz _ _ _
 have hf:(qe7 (L++[(r,.int .i64 0)])).toArray.findIdx? (λe=>((e.born:Nat):Int)==((L.length:Nat):Int))=some L.length:=by rw[List.findIdx?_toArray,qen];exact qqr L _ rfl
 have e2:(L++[(r,Value.int .i64 0)]).length=(L++[(r,Value.int .i64 1)]).length:=by simp
 simp only[Instr.entryStore,Sem.run_bind,Sem.run_pure,MapKept.run_getObj_map hb,Result.andThen,asInt,asIntOf,hf,hm,MapKept.run_setObj_map _ hb,kmW,ChangeMaps.setBlock,e2]
