/-
  Own texts joined by program: MpK.
-/
import Derived.Test.YtbmbchdjjfmafaaGreatDoorQac
import Derived.DeepKeys4
import Derived.MapKept
import Derived.ChangeMaps4
namespace Go.Proofs.YtbmbchdjjfmafaaGreatDoor
open Go.RowKit
abbrev Ref:=ByteArray × ByteArray
theorem laidOut:laidOutB Tryz.prog=true:=by kernel_rfl
theorem keyLaw:WideMaps.KeyLaw Tryz.prog 99:=deep_law_laid (m:=2) laidOut (by omega) (of_decide_eq_true (by kernel_rfl)) (by kernel_rfl) (by kernel_rfl)
def vkey (p:Ref):Value:=.agg #[.string p.1,.string p.2]
theorem vkey_inj {p q:Ref} (h:vkey p=vkey q):p=q:=by
 have:p.1=q.1∧p.2=q.2:=by simpa[vkey] using h
 exact Prod.ext this.1 this.2
def VLen (p:Ref):Prop:=p.1.size≤maxLen∧p.2.size≤maxLen
theorem keyTypeK:Tryz.prog.keyType 99=true:=by kernel_rfl
theorem typesSize:∃ n,Tryz.prog.types.size=n+1:=⟨255,by kernel_rfl⟩
theorem cellsK:Tryz.prog.cellsOf 99=2:=by kernel_rfl
theorem cellsS:Tryz.prog.cellsOf 9=1:=by kernel_rfl
theorem keyOf_gen {P:Program} {k s:TypeId} {f0 f1:Field} (hu:P.underlying k=some (.struct #[f0,f1])) (t0:f0.type=s) (t1:f1.type=s) (o0:f0.offset=0) (o1:f1.offset=1) (n0:(f0.name != "_")=true) (n1:(f1.name != "_")=true)
  (hs:P.underlying s=some .string) (hc:P.cellsOf k=2) (hcs:P.cellsOf s=1) (hk:P.keyType k=true) (hsz:∃ n,P.types.size=n+1) {p:Ref} (h:VLen p) :
  keyOf P k (vkey p)=some (.string (keyBytes [.string p.1.data.toList,.string p.2.data.toList])):=by
 obtain⟨n,hn⟩:=hsz
 obtain⟨h1,h2⟩:=h
 unfold keyOf
 simp[hu,hk,hn,vkey,Value.formed,hc,Value.cells,Program.keyLits,hs,hcs,h1,h2,t0,t1,o0,o1,n0,n1]
theorem keyOf_v {p:Ref} (h:VLen p):keyOf Tryz.prog 99 (vkey p)=some (.string (keyBytes [.string p.1.data.toList,.string p.2.data.toList])):=
 keyOf_gen Tryz.underlying99 rfl rfl rfl rfl rfl rfl Tryz.underlying9 cellsK cellsS keyTypeK typesSize h
def kmEs (L:List (Ref × Value)):List MapEntry:=L.mapIdx fun i p=>{ key:=vkey p.1,val:=p.2,born:=i }
theorem kmEs_snoc (L:List (Ref × Value)) (p:Ref × Value):kmEs (L++[p])=kmEs L++[(⟨vkey p.1,p.2,L.length⟩:MapEntry)]:=by
 simp[kmEs,List.mapIdx_append]
theorem kmEs_len (L:List (Ref × Value)):(kmEs L).length=L.length:=by simp[kmEs]
theorem kmEs_get {L:List (Ref × Value)} {j:Nat} {x:MapEntry} (h:(kmEs L)[j]?=some x):∃ (hj:j<L.length),x=⟨vkey L[j].1,L[j].2,j⟩:=by
 have hj:j<L.length:=by rw[← kmEs_len];exact (List.getElem?_eq_some_iff.1 h).1
 refine⟨hj,?_⟩
 simp[kmEs,hj] at h
 exact h.symm
theorem kmEs_mem {L:List (Ref × Value)} {x:MapEntry} (h:x∈kmEs L):∃ p∈L,x.key=vkey p.1∧x.val=p.2∧x.born<L.length:=by
 obtain⟨i,hi,rfl⟩:=List.mem_mapIdx.1 h
 exact⟨L[i],List.getElem_mem hi,rfl,rfl,hi⟩
theorem kmEs_has {L:List (Ref × Value)} {p:Ref × Value} (h:p∈L):∃ x∈kmEs L,x.key=vkey p.1:=by
 obtain⟨i,hi,rfl⟩:=List.getElem_of_mem h
 exact⟨_,List.mem_mapIdx.2 ⟨i,hi,rfl⟩,rfl⟩
def KMap (W:World) (b:Nat) (L:List (Ref × Value)):Prop:=W.heap[b]?=some (.map (kmEs L).toArray L.length)∧(∀ p∈L,VLen p.1)∧(L.map Prod.fst).Nodup
theorem KMap.lt {W:World} {b:Nat} {L:List (Ref × Value)} (h:KMap W b L):b<W.heap.size:=(Array.getElem?_eq_some_iff.1 h.1).1
theorem KMap.kept {W W':World} {b:Nat} {L:List (Ref × Value)} (h:KMap W b L) (hb:W'.heap[b]?=W.heap[b]?):KMap W' b L:=⟨hb.trans h.1,h.2⟩
theorem KMap.below {W W':World} {b n:Nat} {L:List (Ref × Value)} (h:KMap W b L) (hb:Below n W W') (hn:b<n):KMap W' b L:=h.kept (hb.block b hn)
theorem KMap.al {W:World} {b:Nat} {L:List (Ref × Value)} (h:KMap W b L) (o:Obj):KMap (W.alloc o) b L:=h.kept (Below.heap_alloc _ _ _ h.lt)
theorem KMap.new (W:World):KMap (W.alloc (.map #[] 0)) W.heap.size []:=⟨(MapKept.heap_alloc W _).1,(fun p hp=>by cases hp),by simp⟩
theorem KMap.keys {W:World} {b:Nat} {L:List (Ref × Value)} (h:KMap W b L):∀ e∈kmEs L,∃ l,keyOf Tryz.prog 99 e.key=some l:=by
 intro e he
 obtain⟨p,hp,hk,_⟩:=kmEs_mem he
 exact⟨_,by rw[hk];exact keyOf_v (h.2.1 p hp)⟩
def kget (L:List (Ref × Value)) (r:Ref):Option Value:=(L.find? (fun x=>decide (x.1=r))).map Prod.snd
theorem kget_none {L:List (Ref × Value)} {r:Ref}:kget L r=none↔r ∉ L.map Prod.fst:=by
 simp only[kget,Option.map_eq_none_iff,List.find?_eq_none,List.mem_map,not_exists,not_and,decide_eq_true_eq]
theorem kget_mem {L:List (Ref × Value)} (hn:(L.map Prod.fst).Nodup) {p:Ref × Value} (hp:p∈L):kget L p.1=some p.2:=by
 induction L with
 | nil=>cases hp
 | cons x L ih =>
  rw[List.map_cons,List.nodup_cons] at hn
  rw[kget,List.find?_cons]
  rcases List.mem_cons.1 hp with rfl|hp
  ·simp
  ·have:x.1≠p.1:=fun e=>hn.1 (List.mem_map.2 ⟨p,hp,e.symm⟩)
   simp only[decide_eq_false this]
   exact ih hn.2 hp
theorem find_km {W:World} {b:Nat} {L:List (Ref × Value)} (h:KMap W b L) {r:Ref} (hr:VLen r) (U:World) :
  (kget L r=none∧(Instr.findKey 99 (vkey r) (kmEs L)).run Tryz.prog U=.ok none U)∨(∃ (j:Nat) (hj:j<L.length),L[j].1=r∧kget L r=some L[j].2∧(Instr.findKey 99 (vkey r) (kmEs L)).run Tryz.prog U=.ok (some (j,L[j].2)) U):=by
 rcases keyLaw.find U (keyOf_v hr) (kmEs L) h.keys with ⟨h1,h2⟩|⟨j,e,h1,h2,h3⟩
 ·refine .inl ⟨kget_none.2 fun hm=>?_,h1⟩
  obtain⟨p,hp,rfl⟩:=List.mem_map.1 hm
  obtain⟨x,hx,hk⟩:=kmEs_has hp
  exact h2 x hx hk
 ·obtain⟨hj,rfl⟩:=kmEs_get h2
  have e1:=vkey_inj h3
  exact .inr ⟨j,hj,e1,by rw[← e1];exact kget_mem h.2.2 (List.getElem_mem hj),h1⟩
theorem chk_km {r:Ref} (hr:VLen r) (W:World) (em:Bool):(Instr.checkKey em 10000 99 (.agg #[.string r.1,.string r.2])).run Tryz.prog W=.ok () W:=keyLaw.check W em (keyOf_v hr)
theorem look_km {T E:TypeId} {z:Value} {W:World} {b:Nat} {L:List (Ref × Value)} (h:KMap W b L) (hT:Tryz.prog.underlying T=some (.map 99 E)) (hz:(zeroValue E).run Tryz.prog W=.ok z W) {r:Ref} (hr:VLen r) :
  (Instr.lookup T (.map (some b)) (.agg #[.string r.1,.string r.2]) false).run Tryz.prog W=.ok ((kget L r).getD z) W:=by
 rcases find_km h hr W with ⟨h1,h2⟩|⟨j,hj,_,h1,h2⟩
 ·rw[vkey] at h2
  simp[Instr.lookup,run_underlying hT,MapKept.run_getObj_map h.1,chk_km hr W,h2,Result.andThen,h1,hz]
 ·rw[vkey] at h2
  simp[Instr.lookup,run_underlying hT,MapKept.run_getObj_map h.1,chk_km hr W,h2,Result.andThen,h1]
theorem look2_km {T E:TypeId} {z:Value} {W:World} {b:Nat} {L:List (Ref × Value)} (h:KMap W b L) (hT:Tryz.prog.underlying T=some (.map 99 E)) (hz:(zeroValue E).run Tryz.prog W=.ok z W) {r:Ref} (hr:VLen r) :
  (Instr.lookup T (.map (some b)) (.agg #[.string r.1,.string r.2]) true).run Tryz.prog W=.ok (.tuple #[(kget L r).getD z,.bool (kget L r).isSome]) W:=by
 rcases find_km h hr W with ⟨h1,h2⟩|⟨j,hj,_,h1,h2⟩
 ·rw[vkey] at h2
  simp[Instr.lookup,run_underlying hT,MapKept.run_getObj_map h.1,chk_km hr W,h2,Result.andThen,h1,hz]
 ·rw[vkey] at h2
  simp[Instr.lookup,run_underlying hT,MapKept.run_getObj_map h.1,chk_km hr W,h2,Result.andThen,h1]
def kmW (W:World) (b:Nat) (L:List (Ref × Value)):World:=ChangeMaps.setBlock W b (.map (kmEs L).toArray L.length)
theorem kmW_grown (W:World) (b:Nat) (L:List (Ref × Value)):W.grownBy (kmW W b L) (some b):=
 ⟨rfl,rfl,rfl,by simp[kmW,ChangeMaps.setBlock],fun k _ hk=>by
  show (W.heap.setIfInBounds b _)[k]?=_
  rw[Array.getElem?_setIfInBounds_ne (fun e=>hk (by rw[e]))]⟩
theorem kmW_drew (W:World) (b:Nat) (L:List (Ref × Value)):W.grownBy (kmW W.drew b L) (some b):=
 ⟨rfl,rfl,rfl,by simp[kmW,ChangeMaps.setBlock],fun k _ hk=>by
  show (W.heap.setIfInBounds b _)[k]?=_
  rw[Array.getElem?_setIfInBounds_ne (fun e=>hk (by rw[e]))]⟩
theorem kmW_map {W:World} {b:Nat} {L L':List (Ref × Value)} (h:KMap W b L) (hv:∀ p∈L',VLen p.1) (hn:(L'.map Prod.fst).Nodup):KMap (kmW W b L') b L':=by
 refine⟨?_,hv,hn⟩
 have:=h.lt
 simp[kmW,ChangeMaps.setBlock,this]
theorem kmW_twice (W:World) (b:Nat) (L L':List (Ref × Value)):kmW (kmW W b L) b L'=kmW W b L':=by
 simp[kmW,ChangeMaps.setBlock]
theorem kmW_size (W:World) (b:Nat) (L:List (Ref × Value)):(kmW W b L).heap.size=W.heap.size:=by simp[kmW,ChangeMaps.setBlock]
def kput (L:List (Ref × Value)) (r:Ref) (v:Value):List (Ref × Value):=if ∃ x∈L,x.1=r then L.map (fun x=>if x.1=r then (r,v) else x) else L++[(r,v)]
theorem kput_old (L:List (Ref × Value)) (r:Ref) (v:Value) (h:r∈L.map Prod.fst):kput L r v=L.map (fun x=>if x.1=r then (r,v) else x):=by rw[kput,if_pos (List.mem_map.1 h)]
theorem kput_fst (L:List (Ref × Value)) (r:Ref) (v:Value) (h:r∈L.map Prod.fst):(kput L r v).map Prod.fst=L.map Prod.fst:=by
 rw[kput_old _ _ _ h,List.map_map]
 refine List.map_congr_left fun x _=>?_
 by_cases e:x.1=r <;> simp[e]
theorem kput_new (L:List (Ref × Value)) (r:Ref) (v:Value) (h:r ∉ L.map Prod.fst):kput L r v=L++[(r,v)]:=by rw[kput,if_neg (fun g=>h (List.mem_map.2 g))]
theorem nodup_snoc {L:List (Ref × Value)} (hn:(L.map Prod.fst).Nodup) {r:Ref} (v:Value) (h:r ∉ L.map Prod.fst):((L++[(r,v)]).map Prod.fst).Nodup:=by
 rw[List.map_append]
 exact List.nodup_append.2 ⟨hn,by simp,fun a ha c hc=>by simp at hc;rintro rfl;exact h (hc▸ha)⟩
theorem vlen_snoc {L:List (Ref × Value)} (hv:∀ p∈L,VLen p.1) {r:Ref} (hr:VLen r) (v:Value):∀ p∈L++[(r,v)],VLen p.1:=by
 intro p hp
 rcases List.mem_append.1 hp with hp|hp
 ·exact hv p hp
 ·rw[List.mem_singleton.1 hp];exact hr
theorem KMap.put {W:World} {b:Nat} {L:List (Ref × Value)} (h:KMap W b L) {r:Ref} (hr:VLen r) (v:Value):KMap (kmW W b (kput L r v)) b (kput L r v):=by
 by_cases hm:r∈L.map Prod.fst
 ·refine kmW_map h (fun p hp=>?_) (by rw[kput_fst _ _ _ hm];exact h.2.2)
  rw[kput_old _ _ _ hm] at hp
  obtain⟨x,hx,rfl⟩:=List.mem_map.1 hp
  by_cases e:x.1=r
  ·simp only[e,if_true];exact hr
  ·simp only[e,if_false];exact h.2.1 x hx
 ·rw[kput_new _ _ _ hm]
  exact kmW_map h (vlen_snoc h.2.1 hr v) (nodup_snoc h.2.2 v hm)
theorem kget_put (L:List (Ref × Value)) (r:Ref) (v:Value) (s:Ref):kget (kput L r v) s=if s=r then some v else kget L s:=by
 by_cases hm:r∈L.map Prod.fst
 ·rw[kput_old _ _ _ hm]
  induction L with
  | nil=>simp at hm
  | cons x L ih =>
   rw[List.map_cons]
   by_cases e:x.1=r
   ·by_cases es:s=r
    ·subst es;simp[kget,e]
    ·simp only[e,if_true,es,if_false]
     have h1:¬ r=s:=fun h=>es h.symm
     have h2:¬ x.1=s:=by rw[e];exact h1
     by_cases hm2:r∈L.map Prod.fst
     ·have:=ih hm2
      simp only[es,if_false] at this
      simpa[kget,List.find?_cons,h1,h2] using this
     ·have:L.map (fun x=>if x.1=r then (r,v) else x)=L:=by
       refine (List.map_congr_left fun y hy=>?_).trans (List.map_id' L)
       have:y.1≠r:=fun h=>hm2 (List.mem_map.2 ⟨y,hy,h⟩)
       simp[this]
      simp[kget,h1,h2,this]
   ·have hm2:r∈L.map Prod.fst:=by
     rw[List.map_cons,List.mem_cons] at hm
     rcases hm with h|h
     ·exact absurd h.symm e
     ·exact h
    have:=ih hm2
    simp only[e,if_false]
    by_cases ex:x.1=s
    ·have:¬ s=r:=by rw[← ex];exact e
     simp[kget,ex,this]
    ·simpa[kget,List.find?_cons,ex] using this
 ·rw[kput_new _ _ _ hm]
  by_cases es:s=r
  ·subst es
   have:=List.find?_eq_none.1 (Option.map_eq_none_iff.1 (kget_none.2 hm))
   rw[kget,List.find?_append,List.find?_eq_none.2 this]
   simp
  ·have:¬ r=s:=fun h=>es h.symm
   simp[kget,List.find?_append,es,this]
theorem mod_km (L:List (Ref × Value)) (hn:(L.map Prod.fst).Nodup) (j:Nat) (hj:j<L.length) (r:Ref) (hr:L[j].1=r) (v:Value):(kmEs L).toArray.modify j (fun e=>{ e with key:=vkey r,val:=v })=(kmEs (kput L r v)).toArray:=by
 have hm:r∈L.map Prod.fst:=List.mem_map.2 ⟨L[j],List.getElem_mem hj,hr⟩
 apply Array.ext'
 rw[Array.toList_modify,kput_old _ _ _ hm]
 apply List.ext_getElem?
 intro k
 rw[List.getElem?_modify]
 simp only[kmEs,List.getElem?_mapIdx,List.getElem?_map]
 by_cases hk:k<L.length
 ·by_cases e:j=k
  ·subst e
   simp[List.getElem?_eq_getElem hj,hr]
  ·have hne:L[k].1≠r:=by
    intro h
    have h1:=List.pairwise_iff_getElem.1 hn
    rcases Nat.lt_or_gt_of_ne e with hlt|hlt
    ·exact h1 j k (by simpa using hj) (by simpa using hk) hlt (by simp[hr,h])
    ·exact h1 k j (by simpa using hk) (by simpa using hj) hlt (by simp[hr,h])
   simp[List.getElem?_eq_getElem hk,e,hne]
 ·have:L[k]?=none:=List.getElem?_eq_none (by omega)
  simp[this]
theorem kput_len (L:List (Ref × Value)) (r:Ref) (v:Value) (h:r∈L.map Prod.fst):(kput L r v).length=L.length:=by rw[kput_old _ _ _ h,List.length_map]
theorem put_km {T E:TypeId} {W:World} {b:Nat} {L:List (Ref × Value)} (h:KMap W b L) (hT:Tryz.prog.underlying T=some (.map 99 E)) {r:Ref} (hr:VLen r) (v:Value) :
  (Instr.mapUpdate T (.map (some b)) (.agg #[.string r.1,.string r.2]) v).run Tryz.prog W=.ok () (kmW W b (kput L r v)):=by
 rcases find_km h hr W with ⟨h1,h2⟩|⟨j,hj,e1,h1,h2⟩
 ·rw[vkey] at h2
  have hm:=kget_none.1 h1
  have e1:(kmEs L).toArray.push ⟨.agg #[.string r.1,.string r.2],v,L.length⟩=(kmEs (kput L r v)).toArray:=by rw[kput_new _ _ _ hm,kmEs_snoc,vkey];simp
  have e2:(kput L r v).length=L.length+1:=by rw[kput_new _ _ _ hm];simp
  simp only[Instr.mapUpdate,Sem.run_bind,run_underlying hT,MapKept.run_getObj_map h.1,chk_km hr W,h2,Result.andThen,e1,MapKept.run_setObj_map _ h.1,kmW,ChangeMaps.setBlock,e2]
 ·have hm:r∈L.map Prod.fst:=List.mem_map.2 ⟨L[j],List.getElem_mem hj,e1⟩
  have e2:=mod_km L h.2.2 j hj r e1 v
  have e3:(((kmEs L).toArray[j]?).map (·.key)).getD (vkey r)=vkey r:=by
   have:(kmEs L)[j]?=some ⟨vkey L[j].1,L[j].2,j⟩:=by simp[kmEs,List.getElem?_eq_getElem hj]
   simp[this,e1]
  have e4:=keyLaw.stays W (keyOf_v hr)
  have e5:=kput_len L r v hm
  show (Instr.mapUpdate T (.map (some b)) (vkey r) v).run Tryz.prog W=_
  simp only[Instr.mapUpdate,Sem.run_bind,run_underlying hT,MapKept.run_getObj_map h.1,keyLaw.check W _ (keyOf_v hr),h2,Result.andThen,e3,e4,e2,MapKept.run_setObj_map _ h.1,kmW,ChangeMaps.setBlock,e5]
theorem entry_km {T:TypeId} {W:World} {b:Nat} {L:List (Ref × Value)} (h:KMap W b L) (hT:Tryz.prog.underlying T=some (.map 99 3)) {r:Ref} (hr:VLen r) (hm:r ∉ L.map Prod.fst) :
  (Instr.mapEntry T (.map (some b)) (.agg #[.string r.1,.string r.2])).run Tryz.prog W=.ok (.tuple #[.int .i64 0,.int .i64 (L.length:Int)]) (kmW W b (L++[(r,.int .i64 0)])):=by
 rcases find_km h hr W with ⟨h1,h2⟩|⟨j,hj,e1,h1,h2⟩
 ·rw[vkey] at h2
  have e1:(kmEs L).toArray.push ⟨.agg #[.string r.1,.string r.2],.int .i64 0,L.length⟩=(kmEs (L++[(r,.int .i64 0)])).toArray:=by rw[kmEs_snoc,vkey];simp
  have e2:(L++[(r,Value.int .i64 0)]).length=L.length+1:=by simp
  simp only[Instr.mapEntry,Sem.run_bind,Sem.run_pure,run_underlying hT,MapKept.run_getObj_map h.1,chk_km hr W,h2,Tryz.zeroValue3,Result.andThen,e1,MapKept.run_setObj_map _ h.1,kmW,ChangeMaps.setBlock,e2,goInt]
 ·exact absurd (List.mem_map.2 ⟨L[j],List.getElem_mem hj,e1⟩) hm
theorem kfind_last (L:List (Ref × Value)) (x:MapEntry) (hx:x.born=L.length):(kmEs L++[x]).findIdx? (fun e=>((e.born:Nat):Int)==((L.length:Nat):Int))=some L.length:=by
 have hlen:=kmEs_len L
 have h0:(kmEs L).findIdx? (fun e=>((e.born:Nat):Int)==((L.length:Nat):Int))=none:=by
  rw[List.findIdx?_eq_none_iff]
  intro e he
  obtain⟨_,_,_,_,hb⟩:=kmEs_mem he
  rw[beq_eq_false_iff_ne];omega
 rw[List.findIdx?_append,h0]
 simp[hx,hlen]
theorem modify_end {α:Type} (f:α→α) (a:α) (l:List α):(l++[a]).modify l.length f=l++[f a]:=by
 induction l with
 | nil=>rfl
 | cons b r ih=>rw[List.cons_append,List.length_cons,List.modify_succ_cons,ih];rfl
theorem store_km {T:TypeId} {W:World} {b:Nat} {L:List (Ref × Value)} {r:Ref} (h:KMap W b (L++[(r,.int .i64 0)])) :
  (Instr.entryStore T (.map (some b)) (.int .i64 (L.length:Int)) (.int .i64 1)).run Tryz.prog W=.ok () (kmW W b (L++[(r,.int .i64 1)])):=by
 have hb:=h.1
 have hm:(kmEs (L++[(r,.int .i64 0)])).toArray.modify L.length (fun e=>{ e with val:=.int .i64 1 })=(kmEs (L++[(r,.int .i64 1)])).toArray:=by
  apply Array.ext'
  rw[Array.toList_modify,kmEs_snoc,kmEs_snoc,← kmEs_len]
  exact modify_end _ _ _
 have hf:(kmEs (L++[(r,.int .i64 0)])).toArray.findIdx? (fun e=>((e.born:Nat):Int)==((L.length:Nat):Int))=some L.length:=by rw[List.findIdx?_toArray,kmEs_snoc];exact kfind_last L _ rfl
 have e2:(L++[(r,Value.int .i64 0)]).length=(L++[(r,Value.int .i64 1)]).length:=by simp
 simp only[Instr.entryStore,Sem.run_bind,Sem.run_pure,MapKept.run_getObj_map hb,Result.andThen,asInt,asIntOf,hf,hm,MapKept.run_setObj_map _ hb,kmW,ChangeMaps.setBlock,e2]
end Go.Proofs.YtbmbchdjjfmafaaGreatDoor
