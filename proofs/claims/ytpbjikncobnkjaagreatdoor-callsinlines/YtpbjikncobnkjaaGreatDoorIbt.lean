/-
  Own texts joined by program: RfA.
-/
import Derived.Test.YtpbjikncobnkjaaGreatDoorIav
namespace Go.Proofs.YtpbjikncobnkjaaGreatDoor
open Go.RowKit
theorem neRef {a b:ByteArray} (hr:VLen (a,b)) (W:World):(binOp .neq 70 (.agg #[.string a,.string b]) (.agg #[.string a,.string b])).run Tryz.prog W=.ok (.bool false) W:=by
 have h:(Op.equal 70 (.agg #[.string a,.string b]) (.agg #[.string a,.string b])).run Tryz.prog W=.ok (decide ((a,b)=(a,b))) W:=eqKey hr hr W
 simp only[decide_true] at h
 simp[binOp,go_sem,h]
set_option maxRecDepth 100000 in
set_option maxHeartbeats 4000000 in
theorem refs_any (l:List Ref) (ad ad':Option Addr) (cap cap' n₀:Nat) (w:World) (hn:n₀≤w.heap.size) (hsl:SlAt 2 rcells n₀ w ad cap l) (hsl':SlAt 2 rcells n₀ w ad' cap' l) (hV:∀ r∈l,VLen r) :
  Calls Tryz.prog 15 #[.slice ad l.length cap,.slice ad' l.length cap'] w fun e w'=>e=.returned (.bool true)∧Below w.heap.size w w':=by
 have hl1:=hsl.1;have hl2:=hsl.2.1
 unfold maxLen at hl2
 go_enter Tryz.func15,Tryz.ntmps15
 go_wp2
 go_loopw [5] (fun i wr=>∃ k:Nat,k≤l.length∧i=.int .i64 k∧Below w.heap.size w wr)
  (fun i _=>l.length-(intOf i).toNat)
 case atStart=>exact⟨0,by omega,rfl,Below.refl _ _⟩
 case round =>
  obtain⟨k,hk,rfl,hbF⟩:=hrel
  have hzx:=hbF.size
  by_cases hlk:k<l.length
  ·have hkd:decide ((k:Int)<(l.length:Int))=true:=by simp;omega
   rcases hsl.2.2 with h|⟨tb,toff,rfl,htn,htrow⟩
   ·subst h;simp at hlk
   rcases hsl'.2.2 with h|⟨sb,soff,rfl,hsn,hsrow⟩
   ·subst h;simp at hlk
   have d0:=(htrow.below (hbF.mono hn) htn) k hlk 0 (by omega)
   have d1:=(htrow.below (hbF.mono hn) htn) k hlk 1 (by omega)
   have e0:=(hsrow.below (hbF.mono hn) hsn) k hlk 0 (by omega)
   have e1:=(hsrow.below (hbF.mono hn) hsn) k hlk 1 (by omega)
   have htw:tb<wr.heap.size:=by omega
   have hsw:sb<wr.heap.size:=by omega
   have hvx:=hV _ (List.getElem_mem hlk)
   simp only[rcells] at d0 d1 e0 e1
   simp at d0 d1 e0 e1
   obtain⟨g1,hg1⟩:∃ g1,l[k]=g1:=⟨_,rfl⟩
   rw[hg1] at d0 d1 e0 e1 hvx
   clear hg1
   obtain⟨gm,gn⟩:=g1
   simp only at d0 d1 e0 e1
   have heq:=fun W=>neRef hvx W
   have hk0:(0:Int)≤(k:Int):=Int.natCast_nonneg _
   have hk1:(k:Int)<(l.length:Int):=by omega
   go_wp2_with fail
   go_quiet (fail)
   go_wp2
   go_roundw
   case rel=>exact⟨k+1,by omega,by go_num,below_drewN hbF _⟩
   case measure=>simp[intOf];omega
  ·have hkd:decide ((k:Int)<(l.length:Int))=false:=by simp;omega
   go_wp2
   go_ret
   exact⟨rfl,hbF⟩
end Go.Proofs.YtpbjikncobnkjaaGreatDoor
