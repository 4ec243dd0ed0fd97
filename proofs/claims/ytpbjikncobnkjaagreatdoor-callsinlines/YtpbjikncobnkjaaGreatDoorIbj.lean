/-
  Own texts joined by program: FmA IsA.
-/
import Derived.Test.YtpbjikncobnkjaaGreatDoorIbh
namespace Go.Proofs.YtpbjikncobnkjaaGreatDoor
open Go.RowKit
set_option maxRecDepth 100000 in
set_option maxHeartbeats 4000000 in
theorem form_no (kind:Int) (w:World) (h:¬ (1≤kind∧kind≤11)) :
  Calls Tryz.prog 54 #[.int .i64 kind] w fun r w'=>r=.returned (.tuple #[.slice none 0 0,.int .i64 0,.int .i64 0,.bool false])∧w'=w:=by
 have h1:kind≠1:=by omega
 have h2:kind≠2:=by omega
 have h3:kind≠3:=by omega
 have h4:kind≠4:=by omega
 have h5:kind≠5:=by omega
 have h6:kind≠6:=by omega
 have h7:kind≠7:=by omega
 have h8:kind≠8:=by omega
 have h9:kind≠9:=by omega
 have h10:kind≠10:=by omega
 have h11:kind≠11:=by omega
 clear h
 go_enter Tryz.func54,Tryz.ntmps54
 go_wp2
 exact bodyPost_ret (v:=.tuple #[.slice none 0 0,.int .i64 0,.int .i64 0,.bool false]) (by simp[results,Tryz.results54,go_sem]) rfl ⟨rfl,rfl⟩
set_option maxRecDepth 100000 in
set_option maxHeartbeats 8000000 in
theorem form_yes (k:Nat) (w:World) (h1:1≤k) (h2:k≤11) :
  Calls Tryz.prog 54 #[.int .i64 (k:Int)] w fun r w'=>r=.returned (.tuple #[.slice (some ⟨w.heap.size,0,none⟩) 4 4,.int .i64 ((stLeast k:Nat):Int),.int .i64 ((stMost k:Nat):Int),.bool true]) ∧
   w'=w.alloc (.cells #[.bool (stMon k),.bool (stName k),.bool (stNumber k),.bool (stExpr k)] 4):=by
 have hk:k=1∨k=2∨k=3∨k=4∨k=5∨k=6∨k=7∨k=8∨k=9∨k=10∨k=11:=by omega
 rcases hk with rfl|rfl|rfl|rfl|rfl|rfl|rfl|rfl|rfl|rfl|rfl
 all_goals
  go_enter Tryz.func54,Tryz.ntmps54
  go_wp2
  exact bodyPost_ret (v:=.tuple #[.slice (some ⟨w.heap.size,0,none⟩) 4 4,_,_,.bool true]) (by simp[results,Tryz.results54,go_sem];exact⟨rfl,rfl⟩) rfl ⟨rfl,rfl⟩
open Go.RowKit
theorem name_ne {s:ByteArray} (h:Lx.name s=true):s.toList.isEmpty=false:=by
 rw[isEmpty_size,decide_eq_false_iff_not]
 intro h0
 rw[Lx.name_zero s h0] at h
 cases h
theorem fitsName_doc (s:ByteArray) (b:Bool):fitsName s b=(!(b != !s.toList.isEmpty)&&!(b&&!Lx.name s)):=by
 cases b
 ·simp[fitsName,isEmpty_size]
 ·cases h:Lx.name s
  ·simp[fitsName,h]
  ·simp[fitsName,h,name_ne h]
theorem fitsNum_doc (n:Int) (b:Bool):fitsNum n b=(!decide (n<0)&&!(!b&&(n != 0))):=by
 cases b
 ·rw[num_f];simp
 ·rw[num_t];simp
theorem stok_doc (k:Nat) (mon name:ByteArray) (n:Int) (e:Ex) (ad:Option Addr) (cap:Nat) (blocks:List Bl) (pos:Int) (h1:1≤k) (h2:k≤11) :
  (St.mk (k:Int) mon name n e ad cap blocks pos).ok1=(!decide ((blocks.length:Int)<(stLeast k:Int))&&!decide ((stMost k:Int)<(blocks.length:Int))&&!(stMon k != !mon.toList.isEmpty)&&!(stName k != !name.toList.isEmpty) &&
   !(stMon k&&!Lx.name mon)&&!(stName k&&!Lx.name name)&&!decide (n<0)&&!(!stNumber k&&(n != 0))&&!(stExpr k&&!e.ok || !stExpr k&&!e.none)):=by
 have a1:decide (1≤(k:Int))=true:=by simp;omega
 have a2:decide ((k:Int)≤11)=true:=by simp;omega
 have a3:decide (stLeast k≤blocks.length)=!decide ((blocks.length:Int)<(stLeast k:Int)):=by rw[Bool.eq_iff_iff];simp
 have a4:decide (blocks.length≤stMost k)=!decide ((stMost k:Int)<(blocks.length:Int)):=by rw[Bool.eq_iff_iff];simp
 have a5:fitsEx e (stExpr k)=!(stExpr k&&!e.ok || !stExpr k&&!e.none):=by cases stExpr k <;> simp[fitsEx]
 simp only[St.ok1,a1,a2,Int.toNat_natCast,a3,a4,a5,fitsName_doc,fitsNum_doc,Bool.true_and]
 grind
theorem stok_no (kind:Int) (mon name:ByteArray) (n:Int) (e:Ex) (ad:Option Addr) (cap:Nat) (blocks:List Bl) (pos:Int) (h:¬ (1≤kind∧kind≤11)):(St.mk kind mon name n e ad cap blocks pos).ok1=false:=by
 simp only[St.ok1]
 rw[show (decide (1≤kind)&&decide (kind≤11))=false by rw[Bool.and_eq_false_iff,decide_eq_false_iff_not,decide_eq_false_iff_not];omega]
 rfl
def Bl.ok (b:Bl):Bool:=b.subs.all St.ok1
theorem St.sok_mk (kind:Int) (mon name:ByteArray) (n:Int) (e:Ex) (ad:Option Addr) (cap:Nat) (blocks:List Bl) (pos:Int) :
  (St.mk kind mon name n e ad cap blocks pos).subs.all St.ok1=((St.mk kind mon name n e ad cap blocks pos).ok1&&blocks.all Bl.ok):=by
 rw[St.subs_mk,List.all_cons,List.all_flatMap]
 rfl
theorem Bl.ok_mk (ad:Option Addr) (cap:Nat) (body:List St):(Bl.mk ad cap body).ok=body.all fun s=>s.subs.all St.ok1:=by
 rw[Bl.ok,Bl.subs_mk,List.all_flatMap]
end Go.Proofs.YtpbjikncobnkjaaGreatDoor
