/-
  Own texts joined by program: SzA LvA.
-/
import Derived.Test.YtpbjikncobnkjaaGreatDoorIag
namespace Go.Proofs.YtpbjikncobnkjaaGreatDoor
open Go.RowKit Go.Shelf
attribute [local go_sem] Oper.semAt_some
def St.sz (s:St):Nat:=1+if s.e.none then 0 else s.e.subs.length
def Pr.size (p:Pr):Nat:=(p.stmts.map St.sz).sum
def szA {n₀:Nat} {w:World} (l:List (StA n₀ w)):Nat:=((l.map Subtype.val).map St.sz).sum
theorem szA_snoc {n₀:Nat} {w:World} (l:List (StA n₀ w)) (x:StA n₀ w):szA (l++[x])=szA l+x.1.sz:=by simp[szA]
theorem wrap_next (x:Int):wrap64 (wrap64 x+1)=wrap64 (x+1):=by unfold wrap64;omega
theorem wrap_small (n:Nat) (h:n≤1000000):wrap64 (n:Int)=n:=by unfold wrap64;omega
theorem exBox_set {W:World} {Bx b:Nat} {s:Ex} (h:ExBox W Bx s) (hne:Bx≠b) (v:Value):ExBox (W.setCell ⟨b,0,none⟩ v) Bx s:=((grownBy_setCell' W b v).block Bx h.lt (fun e=>hne (by cases e;rfl))).trans h
theorem stBox_set {W:World} {Bx b:Nat} {s:St} (h:StBox W Bx s) (hne:Bx≠b) (v:Value):StBox (W.setCell ⟨b,0,none⟩ v) Bx s:=((grownBy_setCell' W b v).block Bx h.lt (fun e=>hne (by cases e;rfl))).trans h
theorem ownFrom_kp {β:Type} {n₀ B B':Nat} {W:World} (h1:n₀≤W.heap.size) (h2:n₀≤B'):OwnFrom B' (fun (_:β) W'=>Kp n₀ B W W'):=
 fun s X Y row hs hg hr=>⟨ownFrom_below h1 h2 s X Y row hs.1 hg hr,fun k c t z hk ht hc=>by
  have hX:=hs.2 k c t z hk ht hc
  refine (hg.block k (Array.getElem?_eq_some_iff.1 hX).1 (fun e=>?_)).trans hX
  obtain⟨_,o,ho,hoc⟩:=hr k e.symm
  rw[hX] at ho;cases ho;cases hoc⟩
open Go.RowKit
theorem flat_get {α:Type} (f:α→List Value) (size:Nat) (hf:∀ a,(f a).length=size) (l:List α) (j i:Nat) (hj:j<l.length) (hi:i<size):(l.flatMap f)[j*size+i]?=(f l[j])[i]?:=by
 induction l generalizing j with
 | nil=>simp at hj
 | cons a r ih =>
  rw[List.flatMap_cons]
  cases j with
  | zero=>rw[Nat.zero_mul,Nat.zero_add,List.getElem?_append_left (by rw[hf];exact hi)];rfl
  | succ j =>
   rw[List.getElem?_append_right (by rw[hf,Nat.succ_mul];omega),hf]
   rw[show (j+1)*size+i-size=j*size+i by rw[Nat.succ_mul];omega]
   exact ih j (by simpa using hj)
theorem rowAt_of_block {α:Type} {cells:α→List Value} {size:Nat} (hf:∀ a,(cells a).length=size) {W:World} {b:Nat} {c:Array Value} {t:TypeId} {z:Nat × Nat} {l:List α} (h:W.heap[b]?=some (.cells c t z)) (hc:c.toList=l.flatMap cells):RowAt size cells W b 0 l:=by
 intro j hj i hi
 rw[Nat.zero_add,cell_of h,← flat_get cells size hf l j i hj hi,← hc,Array.getElem?_toList]
theorem slAt_of_block {α:Type} {cells:α→List Value} {size n₀:Nat} (hf:∀ a,(cells a).length=size) {W:World} {b cap:Nat} {c:Array Value} {t:TypeId} {z:Nat × Nat} {l:List α} (h:W.heap[b]?=some (.cells c t z)) (hc:c.toList=l.flatMap cells) (hb:b<n₀) (h1:l.length≤cap) (h2:cap≤1000) :
  SlAt size cells n₀ W (some ⟨b,0,none⟩) cap l:=⟨h1,by unfold maxLen;omega,.inr ⟨b,0,rfl,hb,rowAt_of_block hf h hc⟩⟩
theorem slAt_nil {α:Type} {cells:α→List Value} {size n₀:Nat} {W:World}:SlAt size cells n₀ W none 0 ([]:List α):=⟨Nat.le_refl _,by unfold maxLen;omega,.inl rfl⟩
theorem exCells_len (a:Ex):a.cells.length=6:=by cases a;rfl
theorem stCells_len (a:St):a.cells.length=12:=by cases a with|mk _ _ _ _ e _ _ _ _=>cases e;rfl
def exX:Ex:=.mk 4 ⟨#[97]⟩ ⟨#[120]⟩ 0 none 0 [] 0
def exY:Ex:=.mk 1 ⟨#[]⟩ ⟨#[]⟩ 2 none 0 [] 7
def exZ:Ex:=.mk 0 ⟨#[]⟩ ⟨#[]⟩ 0 none 0 [] 0
def exE (b:Nat):Ex:=.mk 8 ⟨#[]⟩ ⟨#[]⟩ 0 (some ⟨b,0,none⟩) 2 [exX,exY] 0
def stS (b:Nat):St:=.mk 2 ⟨#[97]⟩ ⟨#[120]⟩ 0 (exE b) none 0 [] 0
def vaV:Va:=⟨⟨#[120]⟩,2,0,0,0,0⟩
def moM (b1:Nat):Mo:=⟨⟨#[97]⟩,some ⟨b1,0,none⟩,1,[vaV],none,0,[],0⟩
def roR (b b3:Nat):Ro:=⟨⟨#[114]⟩,true,0,.mk (some ⟨b3,0,none⟩) 1 [stS b],0⟩
def prP (b b1 b2 b3 b4:Nat):Pr:=⟨some ⟨b2,0,none⟩,1,[moM b1],some ⟨b4,0,none⟩,1,[roR b b3]⟩
def prZ:Pr:=⟨none,0,[],none,0,[]⟩
theorem exX_is (n₀:Nat) (W:World):exX.Is n₀ W:=Ex.Is.up ⟨⟨by unfold I64;omega,by unfold I64;omega,by unfold I64;omega,by unfold Len;decide,by unfold Len;decide⟩,slAt_nil,fun x hx=>by cases hx⟩
theorem exY_is (n₀:Nat) (W:World):exY.Is n₀ W:=Ex.Is.up ⟨⟨by unfold I64;omega,by unfold I64;omega,by unfold I64;omega,by unfold Len;decide,by unfold Len;decide⟩,slAt_nil,fun x hx=>by cases hx⟩
theorem exZ_is (n₀:Nat) (W:World):exZ.Is n₀ W:=Ex.Is.up ⟨⟨by unfold I64;omega,by unfold I64;omega,by unfold I64;omega,by unfold Len;decide,by unfold Len;decide⟩,slAt_nil,fun x hx=>by cases hx⟩
theorem exE_is {n₀ b:Nat} {W:World} {z:Nat × Nat} (h:W.heap[b]?=some (.cells (exX.cells++exY.cells).toArray 61 z)) (hb:b<n₀):(exE b).Is n₀ W:=
 Ex.Is.up ⟨⟨by unfold I64;omega,by unfold I64;omega,by unfold I64;omega,by unfold Len;decide,by unfold Len;decide⟩,slAt_of_block exCells_len h (by simp) hb (by simp) (by omega),fun x hx=>by
  rcases List.mem_cons.1 hx with rfl|hx
  ·exact exX_is _ _
  ·rw[List.mem_singleton.1 hx];exact exY_is _ _⟩
theorem prZ_is (n₀:Nat) (W:World):prZ.Is n₀ W:=⟨⟨slAt_nil,fun x hx=>by cases hx⟩,slAt_nil,fun x hx=>by cases hx⟩
theorem prP_is {n₀ b b1 b2 b3 b4:Nat} {W:World} {z1 z2 z3 z4:Nat × Nat} (he:(exE b).Is n₀ W) (h1:W.heap[b1]?=some (.cells vaV.cells.toArray 54 z1)) (h2:W.heap[b2]?=some (.cells (moM b1).cells.toArray 52 z2)) (h3:W.heap[b3]?=some (.cells (stS b).cells.toArray 64 z3)) (h4:W.heap[b4]?=some (.cells (roR b b3).cells.toArray 58 z4))
  (hb1:b1<n₀) (hb2:b2<n₀) (hb3:b3<n₀) (hb4:b4<n₀):(prP b b1 b2 b3 b4).Is n₀ W:=by
 refine⟨⟨slAt_of_block (cells:=Mo.cells) (size:=4) (l:=[moM b1]) (cap:=1) (fun _=>rfl) h2 (by simp) hb2 (by simp) (by omega),fun m hm=>?_⟩,slAt_of_block (cells:=Ro.cells) (size:=5) (l:=[roR b b3]) (cap:=1) (fun _=>rfl) h4 (by simp) hb4 (by simp) (by omega),fun r hr=>?_⟩
 ·rw[List.mem_singleton.1 hm]
  refine⟨⟨show (ByteArray.mk #[97]).size≤140737488351232 by decide,show I64 0 by unfold I64;omega⟩,⟨slAt_of_block (cells:=Va.cells) (size:=6) (l:=[vaV]) (cap:=1) (fun _=>rfl) h1 (by simp) hb1 (by simp) (by omega),fun v hv=>?_⟩,slAt_nil,fun x hx=>by cases hx⟩
  rw[List.mem_singleton.1 hv]
  exact⟨by unfold Len;decide,show I64 2 by unfold I64;omega,show I64 0 by unfold I64;omega,show I64 0 by unfold I64;omega,show I64 0 by unfold I64;omega,show I64 0 by unfold I64;omega⟩
 ·rw[List.mem_singleton.1 hr]
  refine⟨show (ByteArray.mk #[114]).size≤140737488351232 by decide,show I64 0 by unfold I64;omega,show I64 0 by unfold I64;omega,Bl.Is.up ⟨slAt_of_block (cells:=St.cells) (size:=12) (l:=[stS b]) (cap:=1) stCells_len h3 (by simp) hb3 (by simp) (by omega),fun s hs=>?_⟩⟩
  rw[List.mem_singleton.1 hs]
  exact St.Is.up ⟨⟨by unfold I64;omega,by unfold I64;omega,by unfold I64;omega,by unfold Len;decide,by unfold Len;decide⟩,he,slAt_nil,fun x hx=>by cases hx⟩
theorem tl (l:List UInt8):(ByteArray.mk l.toArray).toList=l:=by rw[ByteArray.toList_eq]
theorem exE_subs (b:Nat):(exE b).subs=[exE b,exX,exY]:=by simp[exE,exX,exY,Ex.subs,Ex.subsL]
theorem exX_same:exX.same exX=true:=by simp[exX,Ex.same,Ex.sameL]
theorem exE_same (b:Nat):(exE b).same (exE b)=true:=by simp[exE,exX,exY,Ex.same,Ex.sameL]
theorem exE_x (b:Nat):(exE b).same exX=false:=by simp[exE,exX,Ex.same]
theorem nameA:Lx.name ⟨#[97]⟩=true:=by kernel_rfl
theorem nameX:Lx.name ⟨#[120]⟩=true:=by kernel_rfl
theorem nameR:Lx.name ⟨#[114]⟩=true:=by kernel_rfl
theorem exZ_ok:exZ.ok=false:=by simp[exZ,Ex.ok,Ex.subs,Ex.subsL,Ex.ok1]
theorem exE_ok (b:Nat):(exE b).ok=true:=by
 rw[Ex.ok,exE_subs]
 simp[exE,exX,exY,Ex.ok1,fitsName,fitsNum,exNames,exNumber,exKids,nameA,nameX]
 rfl
theorem exE_none (b:Nat):(exE b).none=false:=by simp[Ex.none,exE,Ex.same]
theorem prP_stmts (b b1 b2 b3 b4:Nat):(prP b b1 b2 b3 b4).stmts=[stS b]:=by
 simp[prP,Pr.stmts,moM,roR,Bl.subs,St.subsL,stS,St.subs,Bl.subsL]
theorem prP_size (b b1 b2 b3 b4:Nat):(prP b b1 b2 b3 b4).size=4:=by
 rw[Pr.size,prP_stmts]
 simp[St.sz,stS,St.e,exE_none,exE_subs]
theorem prP_ok (b b1 b2 b3 b4:Nat):(prP b b1 b2 b3 b4).ok=true:=by
 rw[Pr.ok,prP_stmts]
 simp[prP,Pr.decl,Mo.ok,moM,Ro.ok,roR,Va.ok,vaV,nameA,nameX,nameR,fitsNum,stS,St.ok1,fitsName,stMon,stName,stNumber,stExpr,stLeast,stMost,fitsEx,exE_ok]
theorem prP_same (b b1 b2 b3 b4:Nat):(prP b b1 b2 b3 b4).same (prP b b1 b2 b3 b4)=true:=by
 simp[prP,Pr.same,all2,Mo.same,moM,Ro.same,roR,Va.same,vaV,Bl.same,St.sameL,stS,St.same,Bl.sameL,exE_same]
theorem prP_z (b b1 b2 b3 b4:Nat):(prP b b1 b2 b3 b4).same prZ=false:=by simp[prP,prZ,Pr.same,all2]
end Go.Proofs.YtpbjikncobnkjaaGreatDoor
