/-
  Own texts joined by program: NmA.
-/
import Derived.Test.YtpbjikncobnkjaaGreatDoorProg
import Derived.WalkKit
import Derived.WalkSpells
import Derived.WalkLawsBesides
namespace Go.Proofs.YtpbjikncobnkjaaGreatDoor
open Go.RowKit
namespace Lx
def letter (c:UInt8):Bool:=(97≤c&&c≤122) || (65≤c&&c≤90)
def digit (c:UInt8):Bool:=48≤c&&c≤57
theorem letter_eq (c:UInt8):letter c=decide (((97:Int)≤c.toNat∧(c.toNat:Int)≤122)∨((65:Int)≤c.toNat∧(c.toNat:Int)≤90)):=by
 unfold letter
 rw[Bool.eq_iff_iff];simp[UInt8.le_iff_toNat_le];omega
theorem digit_eq (c:UInt8):digit c=decide ((48:Int)≤c.toNat∧(c.toNat:Int)≤57):=by
 unfold digit
 rw[Bool.eq_iff_iff];simp[UInt8.le_iff_toNat_le];omega
end Lx
theorem ret_bool {a b:Bool} (h:a=b):Ending.returned (.bool a)=.returned (.bool b):=by rw[h]
theorem isLetter_any (c:UInt8) (w:World) :
  Calls Tryz.prog 110 #[.int .u8 (c.toNat:Int)] w fun e w'=>e=.returned (.bool (Lx.letter c))∧w'=w:=by
 have hc:c.toNat<256:=c.toNat_lt
 go_enter Tryz.func110,Tryz.ntmps110
 go_wp2
 all_goals go_ret
 all_goals exact⟨ret_bool (by rw[Lx.letter_eq,Bool.eq_iff_iff];simp;omega),rfl⟩
theorem refLetter_any (c:UInt8) (w:World) :
  Calls Tryz.prog 76 #[.int .u8 (c.toNat:Int)] w fun e w'=>e=.returned (.bool (Lx.letter c))∧w'=w:=by
 have hc:c.toNat<256:=c.toNat_lt
 go_enter Tryz.func76,Tryz.ntmps76
 go_wp2
 all_goals go_ret
 all_goals exact⟨ret_bool (by rw[Lx.letter_eq,Bool.eq_iff_iff];simp;omega),rfl⟩
theorem isDigit_any (c:UInt8) (w:World) :
  Calls Tryz.prog 117 #[.int .u8 (c.toNat:Int)] w fun e w'=>e=.returned (.bool (Lx.digit c))∧w'=w:=by
 have hc:c.toNat<256:=c.toNat_lt
 go_enter Tryz.func117,Tryz.ntmps117
 go_wp2
 all_goals go_ret
 all_goals exact⟨ret_bool (by rw[Lx.digit_eq,Bool.eq_iff_iff];simp;omega),rfl⟩
theorem refDigit_any (c:UInt8) (w:World) :
  Calls Tryz.prog 77 #[.int .u8 (c.toNat:Int)] w fun e w'=>e=.returned (.bool (Lx.digit c))∧w'=w:=by
 have hc:c.toNat<256:=c.toNat_lt
 go_enter Tryz.func77,Tryz.ntmps77
 go_wp2
 all_goals go_ret
 all_goals exact⟨ret_bool (by rw[Lx.digit_eq,Bool.eq_iff_iff];simp;omega),rfl⟩
namespace Lx
def nameByte (c:UInt8):Bool:=letter c || digit c || c==95
def spanEnd (p:UInt8→Bool) (s:ByteArray) (k:Nat):Nat:=k+((s.data.toList.drop k).takeWhile p).length
theorem drop_cons (s:ByteArray) (k:Nat) (h:k<s.size):s.data.toList.drop k=s[k]::s.data.toList.drop (k+1):=by
 rw[List.drop_eq_getElem_cons (by simpa using h)];rfl
theorem drop_over (s:ByteArray) (k:Nat) (h:s.size≤k):s.data.toList.drop k=[]:=by
 apply List.drop_of_length_le;simpa using h
theorem spanEnd_step (p:UInt8→Bool) (s:ByteArray) (k:Nat) (h:k<s.size) (hp:p s[k]=true):spanEnd p s (k+1)=spanEnd p s k:=by
 unfold spanEnd;rw[drop_cons s k h];simp[hp];omega
theorem spanEnd_stop (p:UInt8→Bool) (s:ByteArray) (k:Nat) (h:k<s.size) (hp:p s[k]=false):spanEnd p s k=k:=by
 unfold spanEnd;rw[drop_cons s k h];simp[hp]
theorem spanEnd_over (p:UInt8→Bool) (s:ByteArray) (k:Nat) (h:s.size≤k):spanEnd p s k=k:=by
 unfold spanEnd;rw[drop_over s k h];simp
theorem le_spanEnd (p:UInt8→Bool) (s:ByteArray) (k:Nat):k≤spanEnd p s k:=by unfold spanEnd;omega
theorem spanEnd_le (p:UInt8→Bool) (s:ByteArray) (k:Nat) (h:k≤s.size):spanEnd p s k≤s.size:=by
 unfold spanEnd
 have h1:=(List.takeWhile_sublist p (l:=s.data.toList.drop k)).length_le
 have h2:s.data.toList.length=s.size:=by simp
 simp only[List.length_drop,h2] at h1;omega
def noLf (c:UInt8):Bool:=c != 10
def blank (c:UInt8):Bool:=c==32 || c==9 || c==13 || c==10
def skipC:Bool→List UInt8→Nat
 | _,[]=>0
 | true,c::r=>if c=10 then skipC false r+1 else skipC true r+1
 | false,c::r=>if c=35 then skipC true r+1 else if blank c then skipC false r+1 else 0
def skip (s:ByteArray) (k:Nat):Nat:=k+skipC false (s.data.toList.drop k)
theorem skipC_le (b:Bool) (l:List UInt8):skipC b l≤l.length:=by
 induction l generalizing b with
 | nil=>simp[skipC]
 | cons c r ih =>
  have h1:=ih true;have h2:=ih false
  cases b <;> simp only[skipC,List.length_cons] <;> (repeat' split) <;> omega
theorem le_skip (s:ByteArray) (k:Nat):k≤skip s k:=by unfold skip;omega
theorem skip_le (s:ByteArray) (k:Nat) (h:k≤s.size):skip s k≤s.size:=by
 unfold skip
 have h1:=skipC_le false (s.data.toList.drop k)
 have h2:s.data.toList.length=s.size:=by simp
 simp only[List.length_drop,h2] at h1;omega
theorem skip_blank (s:ByteArray) (k:Nat) (h:k<s.size) (hb:blank s[k]=true):skip s (k+1)=skip s k:=by
 unfold skip;rw[drop_cons s k h]
 have:s[k]≠35:=by intro e;rw[e] at hb;simp[blank] at hb
 simp[skipC,hb,this];omega
theorem skip_stop (s:ByteArray) (k:Nat) (h:k<s.size) (hb:blank s[k]=false) (h35:s[k]≠35):skip s k=k:=by
 unfold skip;rw[drop_cons s k h];simp[skipC,hb,h35]
theorem skip_over (s:ByteArray) (k:Nat) (h:s.size≤k):skip s k=k:=by
 unfold skip;rw[drop_over s k h];simp[skipC]
theorem skipC_true (l:List UInt8):skipC true l=(l.takeWhile noLf).length+skipC false (l.drop (l.takeWhile noLf).length):=by
 induction l with
 | nil=>simp[skipC]
 | cons c r ih =>
  by_cases h:c=10
  ·subst h;simp[skipC,noLf,blank]
  ·have e:noLf c=true:=by simp[noLf,h]
   simp only[skipC,h,if_false,List.takeWhile_cons,e,if_true,List.length_cons,List.drop_succ_cons]
   rw[ih];omega
theorem skip_note (s:ByteArray) (k:Nat) (h:k<s.size) (h35:s[k]=35):skip s (spanEnd noLf s k)=skip s k:=by
 unfold skip spanEnd
 have e:noLf s[k]=true:=by rw[h35];decide
 rw[← List.drop_drop,drop_cons s k h]
 simp only[List.takeWhile_cons,e,if_true,List.length_cons,List.drop_succ_cons]
 rw[show skipC false (s[k]::s.data.toList.drop (k+1))=skipC true (s.data.toList.drop (k+1))+1 by simp[skipC,h35],skipC_true]
 omega
end Lx
theorem hid {p:Prop} (h:p):Hid p:=h
theorem u8_eq (c d:UInt8) (h:(c.toNat:Int)=(d.toNat:Int)):c=d:=UInt8.toNat_inj.1 (by omega)
theorem ret_i64 {a b:Int} (h:a=b):Ending.returned (.int .i64 a)=.returned (.int .i64 b):=by rw[h]
set_option maxHeartbeats 400000 in
theorem nameEnd_any (s:ByteArray) (a:Nat) (w:World) (hs:s.size≤140737488351232) (ha:a≤s.size) :
  Calls Tryz.prog 111 #[.string s,.int .i64 (a:Int)] w fun e w'=>e=.returned (.int .i64 (Lx.spanEnd Lx.nameByte s a:Nat))∧w'=w:=by
 go_enter Tryz.func111,Tryz.ntmps111
 go_wp2
 go_loop [1] (fun i=>∃ k:Nat,a≤k∧k≤s.size∧i=.int .i64 k∧Lx.spanEnd Lx.nameByte s k=Lx.spanEnd Lx.nameByte s a) (fun i=>s.size-(intOf i).toNat)
 case atStart=>exact⟨a,Nat.le_refl _,ha,rfl,rfl⟩
 case round =>
  obtain⟨k,hak,hk,rfl,hq⟩:=hrel
  have HQ:Hid (Lx.spanEnd Lx.nameByte s k=Lx.spanEnd Lx.nameByte s a):=hq
  clear hq
  by_cases hlt:k<s.size
  ·have hgo:Lx.nameByte s[k]=true→Lx.spanEnd Lx.nameByte s (k+1)=Lx.spanEnd Lx.nameByte s a:=fun h=>(Lx.spanEnd_step _ _ _ hlt h).trans HQ.out
   have HG:=hid hgo
   clear hgo
   cases hl:Lx.letter s[k]
   ·cases hd:Lx.digit s[k]
    ·cases hu:((s[k].toNat:Int)==95)
     ·have HN:Hid (Lx.nameByte s[k]=false):=by
       have:s[k]≠95:=by intro h;rw[h] at hu;simp at hu
       show Lx.nameByte s[k]=false
       simp[Lx.nameByte,hl,hd,this]
      go_wp2_with (first|(go_at_call 110;refine (isLetter_any _ _).mono ?_;rintro e w' ⟨rfl,rfl⟩)|(go_at_call 117;refine (isDigit_any _ _).mono ?_;rintro e w' ⟨rfl,rfl⟩))
      go_ret
      exact⟨ret_i64 (by rw[← HQ.out,Lx.spanEnd_stop _ _ _ hlt HN.out]),rfl⟩
     ·have HN:Hid (Lx.nameByte s[k]=true):=by
       have:s[k]=95:=u8_eq _ 95 (eq_of_beq hu)
       show Lx.nameByte s[k]=true
       simp[Lx.nameByte,this]
      go_wp2_with (first|(go_at_call 110;refine (isLetter_any _ _).mono ?_;rintro e w' ⟨rfl,rfl⟩)|(go_at_call 117;refine (isDigit_any _ _).mono ?_;rintro e w' ⟨rfl,rfl⟩))
      go_round
      case rel=>exact⟨k+1,by omega,by omega,by go_num,HG.out HN.out⟩
      case measure=>simp[intOf];omega
    ·have HN:Hid (Lx.nameByte s[k]=true):=by
      show Lx.nameByte s[k]=true
      simp[Lx.nameByte,hd]
     go_wp2_with (first|(go_at_call 110;refine (isLetter_any _ _).mono ?_;rintro e w' ⟨rfl,rfl⟩)|(go_at_call 117;refine (isDigit_any _ _).mono ?_;rintro e w' ⟨rfl,rfl⟩))
     go_round
     case rel=>exact⟨k+1,by omega,by omega,by go_num,HG.out HN.out⟩
     case measure=>simp[intOf];omega
   ·have HN:Hid (Lx.nameByte s[k]=true):=by
     show Lx.nameByte s[k]=true
     simp[Lx.nameByte,hl]
    go_wp2_with (first|(go_at_call 110;refine (isLetter_any _ _).mono ?_;rintro e w' ⟨rfl,rfl⟩)|(go_at_call 117;refine (isDigit_any _ _).mono ?_;rintro e w' ⟨rfl,rfl⟩))
    go_round
    case rel=>exact⟨k+1,by omega,by omega,by go_num,HG.out HN.out⟩
    case measure=>simp[intOf];omega
  ·go_wp2
   go_ret
   exact⟨ret_i64 (by rw[← HQ.out,Lx.spanEnd_over _ _ _ (by omega)]),rfl⟩
namespace Lx
def words:List (List UInt8):=[[109,111,110,105,116,111,114],[118,97,114],[109,101,116,104,111,100],[116,104,114,101,97,100],[98,111,111,108],[105,110,116],[116,114,117,101],[102,97,108,115,101],[115,107,105,112],[105,102],[101,108,115,101],[119,104,105,108,101],[108,111,111,112],[99,104,111,111,115,101],[111,114],[115,121,110,99],[99,97,108,108],[119,97,105,116],[110,111,116,105,102,121],[110,111,116,105,102,121,97,108,108]]
def word (s:ByteArray):Bool:=words.contains s.toList
end Lx
set_option maxHeartbeats 1000000 in
theorem word_any (s:ByteArray) (w:World) :
  Calls Tryz.prog 112 #[.string s] w fun e w'=>e=.returned (.bool (Lx.word s))∧w'=w:=by
 go_enter Tryz.func112,Tryz.ntmps112
 go_wp2
 all_goals go_ret
 all_goals exact⟨ret_bool (by simp only[Lx.word,Lx.words,List.contains_cons,List.contains_nil, *];simp_all),rfl⟩
def textCells (l:List (List UInt8)):Array Value:=(l.map fun x=>Value.string ⟨x.toArray⟩).toArray
set_option maxHeartbeats 1000000 in
theorem words_any (w:World) :
  Calls Tryz.prog 97 #[] w fun e w'=>e=.returned (.slice (some ⟨w.heap.size,0,none⟩) 20 20)∧w'=w.alloc (.cells (textCells Lx.words) 9):=by
 go_enter Tryz.func97,Tryz.ntmps97
 go_wp2
 go_ret
 exact⟨rfl,rfl⟩
def HoldsTexts (w:World) (b:Nat) (l:List (List UInt8)):Prop:=∀ (j:Nat) (h:j<l.length),w.cell? ⟨b,j,none⟩=some (.string ⟨(l[j]).toArray⟩)
theorem textCells_cell (l:List (List UInt8)) (w:World) (t:TypeId):HoldsTexts (w.alloc (.cells (textCells l) t)) w.heap.size l:=by
 intro j h
 rw[World.cell?_alloc_at _ _ _ _ rfl]
 simp[textCells,h]
theorem words_row (w:World) :
  Calls Tryz.prog 97 #[] w fun e w'=>∃ b,e=.returned (.slice (some ⟨b,0,none⟩) 20 20)∧HoldsTexts w' b Lx.words∧Below w.heap.size w w':=by
 refine (words_any w).mono ?_
 rintro e w' ⟨rfl,rfl⟩
 exact⟨_,rfl,textCells_cell _ _ _,(Below.refl _ _).alloc (Nat.le_refl _) _⟩
theorem contains_snoc (l:List (List UInt8)) (k:Nat) (x:List UInt8) (h:k<l.length):(l.take (k+1)).contains x=((l.take k).contains x || x==l[k]):=by
 rw[List.take_succ_eq_append_getElem h,List.contains_append,Bool.eq_iff_iff];simp
theorem bytes_beq_comm (a b:List UInt8):(a==b)=(b==a):=by rw[Bool.eq_iff_iff,beq_iff_eq,beq_iff_eq];exact eq_comm
theorem toList_mk (l:List UInt8):(ByteArray.mk l.toArray).toList=l:=by rw[ByteArray.toList_eq]
set_option maxHeartbeats 400000 in
theorem refWord_any (s:ByteArray) (w:World) :
  Calls Tryz.prog 78 #[.string s] w fun e w'=>e=.returned (.bool (Lx.word s))∧Below w.heap.size w w':=by
 go_enter Tryz.func78,Tryz.ntmps78
 go_wp2_with (go_at_call 97;refine (words_row _).mono ?_;rintro e w1 ⟨b,rfl,hrow,hb⟩)
 go_loop [4] (fun i=>∃ k:Nat,k≤20∧i=.int .i64 k∧(Lx.words.take k).contains s.toList=false) (fun i=>20-(intOf i).toNat)
 case atStart=>exact⟨0,by omega,rfl,rfl⟩
 case round =>
  obtain⟨k,hk,rfl,hq⟩:=hrel
  have HQ:=hid hq
  clear hq
  by_cases hlt:k<20
  ·have hl:k<Lx.words.length:=hlt
   have hc:=hrow k hl
   have hs:=contains_snoc Lx.words k s.toList hl
   have ht:=toList_mk (Lx.words[k])
   have HS:=hid hs
   clear hs
   generalize hx:(ByteArray.mk (Lx.words[k]).toArray)=x at hc ht
   clear hx
   have HT:Hid (x.toList=Lx.words[k]):=ht
   clear ht
   cases he:(x.toList==s.toList)
   ·go_wp2
    go_round
    case rel=>exact⟨k+1,by omega,by go_num,by rw[HS.out,HQ.out,← HT.out,bytes_beq_comm,he];rfl⟩
    case measure=>simp[intOf];omega
   ·go_wp2
    go_ret
    refine⟨ret_bool ?_,hb⟩
    have h1:(Lx.words.take (k+1)).contains s.toList=true:=by rw[HS.out,HQ.out,← HT.out,bytes_beq_comm,he];rfl
    have h2:=List.mem_of_mem_take (List.contains_iff_mem.1 h1)
    exact (List.contains_iff_mem.2 h2).symm
  ·have hk20:k=20:=by omega
   go_wp2
   go_ret
   refine⟨ret_bool ?_,hb⟩
   have:=HQ.out
   rw[hk20] at this
   exact this.symm
namespace Lx
def name (s:ByteArray):Bool:=decide (0<s.size)&&decide (s.size≤32)&&(match s.data.toList with|c::_=>letter c | []=>false)&&s.data.toList.all nameByte&&!word s
theorem name_zero (s:ByteArray) (h:s.size=0):name s=false:=by simp[name,h]
theorem name_long (s:ByteArray) (h:32<s.size):name s=false:=by simp[name];omega
theorem list_cons (s:ByteArray) (h:0<s.size):s.data.toList=s[0]::s.data.toList.drop 1:=by
 have:=drop_cons s 0 h;simpa using this
theorem name_head (s:ByteArray) (h:0<s.size) (hl:letter s[0]=false):name s=false:=by
 unfold name;rw[list_cons s h];simp[hl]
theorem name_body (s:ByteArray) (h:0<s.size) (h32:s.size≤32) (hl:letter s[0]=true):name s=(s.data.toList.all nameByte&&!word s):=by
 unfold name;rw[list_cons s h];simp[hl,h,h32]
theorem all_span (s:ByteArray):(spanEnd nameByte s 0=s.size)↔s.data.toList.all nameByte=true:=by
 have e:s.size=s.data.toList.length:=by simp
 unfold spanEnd
 rw[e,List.drop_zero,Nat.zero_add]
 generalize s.data.toList=l
 induction l with
 | nil=>simp
 | cons c r ih =>
  cases h:nameByte c
  ·simp[h]
  ·simp[h];simpa using ih
end Lx
set_option maxHeartbeats 400000 in
theorem name_any (s:ByteArray) (w:World) (hs:s.size≤140737488351232) :
  Calls Tryz.prog 102 #[.string s] w fun e w'=>e=.returned (.bool (Lx.name s))∧w'=w:=by
 by_cases h0:s.size=0
 ·have HN:=hid (Lx.name_zero s h0)
  go_enter Tryz.func102,Tryz.ntmps102
  go_wp2
  go_ret
  exact⟨ret_bool HN.out.symm,rfl⟩
 ·have hb0:((s.size:Int)==0)=false:=by rw[beq_eq_false_iff_ne];omega
  have hp:0<s.size:=by omega
  by_cases h32:32<s.size
  ·have HN:=hid (Lx.name_long s h32)
   go_enter Tryz.func102,Tryz.ntmps102
   go_wp2
   go_ret
   exact⟨ret_bool HN.out.symm,rfl⟩
  ·cases hl:Lx.letter s[0]
   ·have HN:=hid (Lx.name_head s hp hl)
    go_enter Tryz.func102,Tryz.ntmps102
    go_wp2_with (go_at_call 110;refine (isLetter_any _ _).mono ?_;rintro e w' ⟨rfl,rfl⟩)
    go_ret
    exact⟨ret_bool HN.out.symm,rfl⟩
   ·have HN:=hid (Lx.name_body s hp (by omega) hl)
    have HA:=hid (Lx.all_span s)
    by_cases hq:Lx.spanEnd Lx.nameByte s 0=s.size
    ·have hqb:(((Lx.spanEnd Lx.nameByte s 0:Nat):Int)==(s.size:Int))=true:=by rw[beq_iff_eq];omega
     have HQ:=hid hq
     clear hq
     go_enter Tryz.func102,Tryz.ntmps102
     go_wp2_with (first|(go_at_call 110;refine (isLetter_any _ _).mono ?_;rintro e w' ⟨rfl,rfl⟩)|(go_at_call 111;refine (nameEnd_any s 0 _ hs (by omega)).mono ?_;rintro e w' ⟨rfl,rfl⟩)|(go_at_call 112;refine (word_any _ _).mono ?_;rintro e w' ⟨rfl,rfl⟩))
     go_ret
     exact⟨ret_bool (by rw[HN.out,HA.out.1 HQ.out];rfl),rfl⟩
    ·have hqb:(((Lx.spanEnd Lx.nameByte s 0:Nat):Int)==(s.size:Int))=false:=by rw[beq_eq_false_iff_ne];omega
     have HQ:=hid hq
     clear hq
     go_enter Tryz.func102,Tryz.ntmps102
     go_wp2_with (first|(go_at_call 110;refine (isLetter_any _ _).mono ?_;rintro e w' ⟨rfl,rfl⟩)|(go_at_call 111;refine (nameEnd_any s 0 _ hs (by omega)).mono ?_;rintro e w' ⟨rfl,rfl⟩)|(go_at_call 112;refine (word_any _ _).mono ?_;rintro e w' ⟨rfl,rfl⟩))
     go_ret
     refine⟨ret_bool ?_,rfl⟩
     cases ha:s.data.toList.all Lx.nameByte
     ·rw[HN.out,ha];rfl
     ·exact absurd (HA.out.2 ha) HQ.out
theorem all_snoc (s:ByteArray) (k:Nat) (h:k<s.size) (p:UInt8→Bool):(s.data.toList.take (k+1)).all p=((s.data.toList.take k).all p&&p s[k]):=by
 rw[List.take_succ_eq_append_getElem (by simpa using h),List.all_append];simp;rfl
theorem all_cut (s:ByteArray) (k:Nat) (h:k<s.size) (p:UInt8→Bool) (hp:p s[k]=false):s.data.toList.all p=false:=by
 rw[List.all_eq_false]
 exact⟨s[k],by rw[show s[k]=s.data.toList[k]'(by simpa using h) from rfl];exact List.getElem_mem _,by simp[hp]⟩
theorem all_whole (s:ByteArray) (k:Nat) (h:s.size≤k):s.data.toList.take k=s.data.toList:=by
 apply List.take_of_length_le;simpa using h
set_option maxHeartbeats 1000000 in
theorem refName_any (s:ByteArray) (w:World) (hs:s.size≤140737488351232) :
  Calls Tryz.prog 52 #[.string s] w fun e w'=>e=.returned (.bool (Lx.name s))∧Below w.heap.size w w':=by
 by_cases h0:s.size=0
 ·have HN:=hid (Lx.name_zero s h0)
  go_enter Tryz.func52,Tryz.ntmps52
  go_wp2
  go_ret
  exact⟨ret_bool HN.out.symm,Below.refl _ _⟩
 ·have hp:0<s.size:=by omega
  by_cases h32:32<s.size
  ·have HN:=hid (Lx.name_long s h32)
   go_enter Tryz.func52,Tryz.ntmps52
   go_wp2
   go_ret
   exact⟨ret_bool HN.out.symm,Below.refl _ _⟩
  ·cases hl:Lx.letter s[0]
   ·have HN:=hid (Lx.name_head s hp hl)
    go_enter Tryz.func52,Tryz.ntmps52
    go_wp2_with (go_at_call 76;refine (refLetter_any _ _).mono ?_;rintro e w' ⟨rfl,rfl⟩)
    go_ret
    exact⟨ret_bool HN.out.symm,Below.refl _ _⟩
   ·have HB:=hid (Lx.name_body s hp (by omega) hl)
    go_enter Tryz.func52,Tryz.ntmps52
    go_wp2_with (go_at_call 76;refine (refLetter_any _ _).mono ?_;rintro e w' ⟨rfl,rfl⟩)
    go_loop [3] (fun i=>∃ k:Nat,k≤s.size∧i=.int .i64 k∧(s.data.toList.take k).all Lx.nameByte=true) (fun i=>s.size-(intOf i).toNat)
    case atStart=>exact⟨0,by omega,rfl,rfl⟩
    case round =>
     obtain⟨k,hk,rfl,hq⟩:=hrel
     have HQ:=hid hq
     clear hq
     by_cases hlt:k<s.size
     ·have HT:=hid (all_snoc s k hlt Lx.nameByte)
      cases hk1:Lx.letter s[k]
      ·cases hk2:Lx.digit s[k]
       ·cases hu:((s[k].toNat:Int) != 95)
        ·skip
         have HN:Hid (Lx.nameByte s[k]=true):=by
          show Lx.nameByte s[k]=true
          have h95:s[k]=95:=u8_eq _ 95 (by simpa using hu)
          simp[Lx.nameByte,h95]
         go_wp2_with (first|(go_at_call 76;refine (refLetter_any _ _).mono ?_;rintro e w' ⟨rfl,rfl⟩)|(go_at_call 77;refine (refDigit_any _ _).mono ?_;rintro e w' ⟨rfl,rfl⟩))
         go_round
         case rel=>exact⟨k+1,by omega,by go_num,by rw[HT.out,HQ.out,HN.out];rfl⟩
         case measure=>simp[intOf];omega
        ·have HN:Hid (Lx.name s=false):=by
          show Lx.name s=false
          have h95:s[k]≠95:=by intro h;rw[h] at hu;simp at hu
          rw[HB.out,all_cut s k hlt Lx.nameByte (by simp[Lx.nameByte,hk1,hk2,h95])];rfl
         go_wp2_with (first|(go_at_call 76;refine (refLetter_any _ _).mono ?_;rintro e w' ⟨rfl,rfl⟩)|(go_at_call 77;refine (refDigit_any _ _).mono ?_;rintro e w' ⟨rfl,rfl⟩))
         go_ret
         exact⟨ret_bool HN.out.symm,Below.refl _ _⟩
       ·skip
        have HN:Hid (Lx.nameByte s[k]=true):=by
         show Lx.nameByte s[k]=true
         simp[Lx.nameByte,hk2]
        go_wp2_with (first|(go_at_call 76;refine (refLetter_any _ _).mono ?_;rintro e w' ⟨rfl,rfl⟩)|(go_at_call 77;refine (refDigit_any _ _).mono ?_;rintro e w' ⟨rfl,rfl⟩))
        go_round
        case rel=>exact⟨k+1,by omega,by go_num,by rw[HT.out,HQ.out,HN.out];rfl⟩
        case measure=>simp[intOf];omega
      ·skip
       have HN:Hid (Lx.nameByte s[k]=true):=by
        show Lx.nameByte s[k]=true
        simp[Lx.nameByte,hk1]
       go_wp2_with (first|(go_at_call 76;refine (refLetter_any _ _).mono ?_;rintro e w' ⟨rfl,rfl⟩)|(go_at_call 77;refine (refDigit_any _ _).mono ?_;rintro e w' ⟨rfl,rfl⟩))
       go_round
       case rel=>exact⟨k+1,by omega,by go_num,by rw[HT.out,HQ.out,HN.out];rfl⟩
       case measure=>simp[intOf];omega
     ·have HN:Hid (Lx.name s=!Lx.word s):=by
       show Lx.name s=!Lx.word s
       have h1:=HQ.out
       rw[all_whole s k (by omega)] at h1
       rw[HB.out,h1];rfl
      go_wp2_with (go_at_call 78;refine (refWord_any _ _).mono ?_;rintro e w' ⟨rfl,hb⟩)
      go_ret
      exact⟨ret_bool HN.out.symm,hb⟩
end Go.Proofs.YtpbjikncobnkjaaGreatDoor
