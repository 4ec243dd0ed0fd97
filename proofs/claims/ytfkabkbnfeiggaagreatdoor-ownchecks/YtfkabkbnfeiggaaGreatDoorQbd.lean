/-
  Own texts joined by program: NxLs.
-/
import Derived.Test.YtfkabkbnfeiggaaGreatDoorQal
import Derived.Deep.AppendLies
namespace Go.Proofs.YtfkabkbnfeiggaaGreatDoor
open Go.RowKit
theorem step_append_sl {P:Program} {w:World} {α:Type} {cells:α→List Value} {ops:Array Go.Oper} {o:Go.Oper} {a:Act} {K:Act→World→Prop} {Q:Exit→Act→World→Prop} {E:Prop} (hgd:o.guard=none) (s x:Operand) (t:TypeId)
  (ho:o.op=.call { callee:=.builtin .append,args:=#[s,x],argTypes:=#[t,t] })
  (base:Nat) (e:TypeId) (i:TypeInfo) (z:Value) (size bytes:Nat) (ht:P.underlying t=some (.slice e)) (hi:P.info? e=some i) (hz:i.zero=some z)
  (hsize:i.size=size) (hby:i.bytes=bytes) (hzs:z.cells.size=size) (hsz:0<size) (hlen:∀ x,(cells x).length=size) (hone:∀ x,∀ u∈cells x,u.oneCell'=true)
  (v:Value) (l:List α) (hs:a.eval s=v) (hown:w.ownsRow base e size v l.length (l.flatMap cells)) (ad:Option Addr) (c:Nat) (r:List α) (n₀:Nat) (hx:a.eval x=.slice ad r.length c) (hsl:SlAt size cells n₀ w ad c r)
  (h63:l.length+r.length≤maxLen) (hbytes:(l.length+r.length)*bytes≤140737488355328) (hbase:base≤w.heap.size)
  (h:∀ v' w',w'.ownsRow base e size v' (l++r).length ((l++r).flatMap cells)→w.grownBy w' v.ownBlock→(v≠.slice none 0 0→v'≠.slice none 0 0)→K (a.put o.dst v') w') :
  if Region.wanted o (yielded ops a.tmps)=true then Oper.wp P o a w K Q else E:=by
 have hw:Region.wanted o (yielded ops a.tmps)=true:=by simp[Region.wanted,hgd]
 rw[if_pos hw]
 obtain⟨v',w',hr,h2,h3,h4⟩:=run_append_sl (P:=P) w base t o.type e i z size bytes ht hi hz hsize hby hzs hsz hlen hone v l hown ad c r n₀ hsl h63 hbytes hbase
 unfold Go.Oper.wp execOp
 simp only[ho,resolve,invoke,builtin,Sem.run_bind,Sem.run_pure,Result.andThen_ok,List.map_toArray,List.map_cons,List.map_nil,hs,hx,hr]
 exact h v' w' h2 h3 h4
theorem step_append_slB {P:Program} {w:World} {α:Type} {cells:α→List Value} {ops:Array Go.Oper} {o:Go.Oper} {a:Act} {K:Act→World→Prop} {Q:Exit→Act→World→Prop} {E:Prop} (hgd:o.guard=none) (s x:Operand) (t:TypeId)
  (ho:o.op=.call { callee:=.builtin .append,args:=#[s,x],argTypes:=#[t,t] })
  (base:Nat) (e:TypeId) (i:TypeInfo) (z:Value) (size bytes:Nat) (ht:P.underlying t=some (.slice e)) (hi:P.info? e=some i) (hz:i.zero=some z)
  (hsize:i.size=size) (hby:i.bytes=bytes) (hzs:z.cells.size=size) (hsz:0<size) (hlen:∀ x,(cells x).length=size) (hone:∀ x,∀ u∈cells x,u.oneCell'=true)
  (v:Value) (l:List α) (hs:a.eval s=v) (hown:w.ownsRow base e size v l.length (l.flatMap cells)) (ad:Option Addr) (c:Nat) (r:List α) (n₀:Nat) (hx:a.eval x=.slice ad r.length c) (hsl:SlAt size cells n₀ w ad c r)
  (h63:l.length+r.length≤maxLen) (hbytes:(l.length+r.length)*bytes≤140737488355328) (hbase:base≤w.heap.size) (W0:World) (hb:Below base W0 w)
  (h:∀ v' w',w'.ownsRow base e size v' (l++r).length ((l++r).flatMap cells)→w.grownBy w' v.ownBlock→(v≠.slice none 0 0→v'≠.slice none 0 0)→Below base W0 w'→K (a.put o.dst v') w') :
  if Region.wanted o (yielded ops a.tmps)=true then Oper.wp P o a w K Q else E:=by
 exact step_append_sl hgd s x t ho base e i z size bytes ht hi hz hsize hby hzs hsz hlen hone v l hs hown ad c r n₀ hx hsl h63 hbytes hbase fun v' w' h1 h2 h3=>h v' w' h1 h2 h3 (owns_grown_below hb hown h2 hbase)
end Go.Proofs.YtfkabkbnfeiggaaGreatDoor
