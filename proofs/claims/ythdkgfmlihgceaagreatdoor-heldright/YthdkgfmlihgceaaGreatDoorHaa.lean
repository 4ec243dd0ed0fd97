import Derived.Test.YthdkgfmlihgceaaGreatDoorProg
import Derived.WalkKit
import Derived.WalkSpells
import Derived.WalkLawsBesides
namespace Go.Proofs.YthdkgfmlihgceaaGreatDoor
set_option maxHeartbeats 1000000
open Go.RowKit
namespace Lx
def letter (c:UInt8):Bool:=(97<=c&&c<=122) || (65<=c&&c<=90)
def digit (c:UInt8):Bool:=48<=c&&c<=57
theorem letter_eq (c:UInt8):letter c=decide (((97:Int)<=c.toNat/\(c.toNat:Int)<=122)\/((65:Int)<=c.toNat/\(c.toNat:Int)<=90)):=by
 unfold letter
 rw[Bool.eq_iff_iff];simp[UInt8.le_iff_toNat_le];omega
theorem digit_eq (c:UInt8):digit c=decide ((48:Int)<=c.toNat/\(c.toNat:Int)<=57):=by
 unfold digit
 rw[Bool.eq_iff_iff];simp[UInt8.le_iff_toNat_le];omega
end Lx
theorem qai {a b:Bool}(h:a=b):Ending.returned (.bool a)=.returned (.bool b):=by rw[h]
theorem qbs (c:UInt8) (w:World) :
  Calls Tryz.prog 139 #[.int .u8 (c.toNat:Int)] w λe w'=>e=.returned (.bool (Lx.letter c))/\w'=w:=by
 have hc:c.toNat<256:=c.toNat_lt
 go_enter Tryz.func139,Tryz.ntmps139
 go_wp2
 all_goals go_ret
 all_goals exact⟨qai (by rw[Lx.letter_eq,Bool.eq_iff_iff];simp;omega),rfl⟩
theorem qd3 (c:UInt8) (w:World) :
  Calls Tryz.prog 145 #[.int .u8 (c.toNat:Int)] w λe w'=>e=.returned (.bool (Lx.digit c))/\w'=w:=by
 have hc:c.toNat<256:=c.toNat_lt
 go_enter Tryz.func145,Tryz.ntmps145
 go_wp2
 all_goals go_ret
 all_goals exact⟨qai (by rw[Lx.digit_eq,Bool.eq_iff_iff];simp;omega),rfl⟩
namespace Lx
def nameByte (c:UInt8):Bool:=letter c || digit c || c==95
def spanEnd (p:UInt8->Bool) (s:ByteArray) (k:Nat):Nat:=k+((s.data.toList.drop k).takeWhile p).length
theorem qhn (s:ByteArray) (k:Nat) (h:k<s.size):s.data.toList.drop k=s[k]::s.data.toList.drop (k+1):=by
 rw[List.drop_eq_getElem_cons (by simpa using h)];rfl
theorem qsj (s:ByteArray) (k:Nat) (h:s.size<=k):s.data.toList.drop k=[]:=by
 apply List.drop_of_length_le;simpa using h
theorem spanEnd_step (p:UInt8->Bool) (s:ByteArray) (k:Nat) (h:k<s.size) (hp:p s[k]=true):spanEnd p s (k+1)=spanEnd p s k:=by
 unfold spanEnd;rw[qhn s k h];simp[hp];omega
theorem spanEnd_stop (p:UInt8->Bool) (s:ByteArray) (k:Nat) (h:k<s.size) (hp:p s[k]=false):spanEnd p s k=k:=by
 unfold spanEnd;rw[qhn s k h];simp[hp]
theorem spanEnd_over (p:UInt8->Bool) (s:ByteArray) (k:Nat) (h:s.size<=k):spanEnd p s k=k:=by
 unfold spanEnd;rw[qsj s k h];simp
end Lx
theorem hid {p:Prop}(h:p):Hid p:=h
theorem qDs (c d:UInt8) (h:(c.toNat:Int)=(d.toNat:Int)):c=d:=UInt8.toNat_inj.1 (by omega)
theorem qep {a b:Int}(h:a=b):Ending.returned (.int .i64 a)=.returned (.int .i64 b):=by rw[h]
theorem qh6 (s:ByteArray) (a:Nat) (w:World) (hs:s.size<=140737488351232) (ha:a<=s.size) :
  Calls Tryz.prog 140 #[.string s,.int .i64 (a:Int)] w λe w'=>e=.returned (.int .i64 (Lx.spanEnd Lx.nameByte s a:Nat))/\w'=w:=by
 go_enter Tryz.func140,Tryz.ntmps140
 go_wp2
 go_loop [1] (λi=>∃k:Nat,a<=k/\k<=s.size/\i=.int .i64 k/\Lx.spanEnd Lx.nameByte s k=Lx.spanEnd Lx.nameByte s a) (λi=>s.size-(intOf i).toNat)
 case atStart=>exact⟨a,Nat.le_refl _,ha,rfl,rfl⟩
 case round =>
  obtain⟨k,hak,hk,rfl,hq⟩:=hrel
  have HQ:Hid (Lx.spanEnd Lx.nameByte s k=Lx.spanEnd Lx.nameByte s a):=hq
  clear hq
  by_cases hlt:k<s.size
  ·have hgo:Lx.nameByte s[k]=true->Lx.spanEnd Lx.nameByte s (k+1)=Lx.spanEnd Lx.nameByte s a:=λh=>(Lx.spanEnd_step _ _ _ hlt h).trans HQ.out
   have HG:=hid hgo
   clear hgo
   cases hl:Lx.letter s[k]
   ·cases hd:Lx.digit s[k]
    ·cases hu:((s[k].toNat:Int)==95)
     ·have HN:Hid (Lx.nameByte s[k]=false):=by
       have:s[k]≠95:=by intro h;rw[h] at hu;simp at hu
       show Lx.nameByte s[k]=false
       simp[Lx.nameByte,hl,hd,this]
      go_wp2_with (first|(go_at_call 139;refine (qbs _ _).mono ?_;rintro e w' ⟨rfl,rfl⟩)|(go_at_call 145;refine (qd3 _ _).mono ?_;rintro e w' ⟨rfl,rfl⟩))
      go_ret
      exact⟨qep (by rw[<- HQ.out,Lx.spanEnd_stop _ _ _ hlt HN.out]),rfl⟩
     ·have HN:Hid (Lx.nameByte s[k]=true):=by
       have:s[k]=95:=qDs _ 95 (eq_of_beq hu)
       show Lx.nameByte s[k]=true
       simp[Lx.nameByte,this]
      go_wp2_with (first|(go_at_call 139;refine (qbs _ _).mono ?_;rintro e w' ⟨rfl,rfl⟩)|(go_at_call 145;refine (qd3 _ _).mono ?_;rintro e w' ⟨rfl,rfl⟩))
      go_round
      case rel=>exact⟨k+1,by omega,by omega,by go_num,HG.out HN.out⟩
      case measure=>simp[intOf];omega
    ·have HN:Hid (Lx.nameByte s[k]=true):=by
      show Lx.nameByte s[k]=true
      simp[Lx.nameByte,hd]
     go_wp2_with (first|(go_at_call 139;refine (qbs _ _).mono ?_;rintro e w' ⟨rfl,rfl⟩)|(go_at_call 145;refine (qd3 _ _).mono ?_;rintro e w' ⟨rfl,rfl⟩))
     go_round
     case rel=>exact⟨k+1,by omega,by omega,by go_num,HG.out HN.out⟩
     case measure=>simp[intOf];omega
   ·have HN:Hid (Lx.nameByte s[k]=true):=by
     show Lx.nameByte s[k]=true
     simp[Lx.nameByte,hl]
    go_wp2_with (first|(go_at_call 139;refine (qbs _ _).mono ?_;rintro e w' ⟨rfl,rfl⟩)|(go_at_call 145;refine (qd3 _ _).mono ?_;rintro e w' ⟨rfl,rfl⟩))
    go_round
    case rel=>exact⟨k+1,by omega,by omega,by go_num,HG.out HN.out⟩
    case measure=>simp[intOf];omega
  ·go_wp2
   go_ret
   exact⟨qep (by rw[<- HQ.out,Lx.spanEnd_over _ _ _ (by omega)]),rfl⟩
namespace Lx
def words:List (List UInt8):=[[109,111,110,105,116,111,114],[118,97,114],[109,101,116,104,111,100],[116,104,114,101,97,100],[98,111,111,108],[105,110,116],[116,114,117,101],[102,97,108,115,101],[115,107,105,112],[105,102],[101,108,115,101],[119,104,105,108,101],[108,111,111,112],[99,104,111,111,115,101],[111,114],[115,121,110,99],[99,97,108,108],[119,97,105,116],[110,111,116,105,102,121],[110,111,116,105,102,121,97,108,108]]
def word (s:ByteArray):Bool:=words.contains s.toList
end Lx
theorem qpq (s:ByteArray) (w:World) :
  Calls Tryz.prog 141 #[.string s] w λe w'=>e=.returned (.bool (Lx.word s))/\w'=w:=by
 go_enter Tryz.func141,Tryz.ntmps141
 go_wp2
 all_goals go_ret
 all_goals exact⟨qai (by simp only[Lx.word,Lx.words,List.contains_cons,List.contains_nil, *];simp_all),rfl⟩
namespace Lx
def name (s:ByteArray):Bool:=decide (0<s.size)&&decide (s.size<=32)&&(match s.data.toList with|c::_=>letter c | []=>false)&&s.data.toList.all nameByte&&!word s
theorem name_zero (s:ByteArray) (h:s.size=0):name s=false:=by simp[name,h]
theorem name_long (s:ByteArray) (h:32<s.size):name s=false:=by simp[name];omega
theorem qlt (s:ByteArray) (h:0<s.size):s.data.toList=s[0]::s.data.toList.drop 1:=by
 have:=qhn s 0 h;simpa using this
theorem name_head (s:ByteArray) (h:0<s.size) (hl:letter s[0]=false):name s=false:=by
 unfold name;rw[qlt s h];simp[hl]
theorem name_body (s:ByteArray) (h:0<s.size) (h32:s.size<=32) (hl:letter s[0]=true):name s=(s.data.toList.all nameByte&&!word s):=by
 unfold name;rw[qlt s h];simp[hl,h,h32]
theorem all_span (s:ByteArray):(spanEnd nameByte s 0=s.size)↔s.data.toList.all nameByte=true:=by
 have e:s.size=s.data.toList.length:=by simp
 unfold spanEnd
 rw[e,List.drop_zero,Nat.zero_add]
 generalize s.data.toList=l
 induction l with
 | nil=>simp
 | cons c r ih =>
  cases h:nameByte c
  ·simp[h]
  ·simp[h];simpa using ih
end Lx
theorem qb2 (s:ByteArray) (w:World) (hs:s.size<=140737488351232) :
  Calls Tryz.prog 132 #[.string s] w λe w'=>e=.returned (.bool (Lx.name s))/\w'=w:=by
 by_cases h0:s.size=0
 ·have HN:=hid (Lx.name_zero s h0)
  go_enter Tryz.func132,Tryz.ntmps132
  go_wp2
  go_ret
  exact⟨qai HN.out.symm,rfl⟩
 ·have hb0:((s.size:Int)==0)=false:=by rw[beq_eq_false_iff_ne];omega
  have hp:0<s.size:=by omega
  by_cases h32:32<s.size
  ·have HN:=hid (Lx.name_long s h32)
   go_enter Tryz.func132,Tryz.ntmps132
   go_wp2
   go_ret
   exact⟨qai HN.out.symm,rfl⟩
  ·cases hl:Lx.letter s[0]
   ·have HN:=hid (Lx.name_head s hp hl)
    go_enter Tryz.func132,Tryz.ntmps132
    go_wp2_with (go_at_call 139;refine (qbs _ _).mono ?_;rintro e w' ⟨rfl,rfl⟩)
    go_ret
    exact⟨qai HN.out.symm,rfl⟩
   ·have HN:=hid (Lx.name_body s hp (by omega) hl)
    have HA:=hid (Lx.all_span s)
    by_cases hq:Lx.spanEnd Lx.nameByte s 0=s.size
    ·have hqb:(((Lx.spanEnd Lx.nameByte s 0:Nat):Int)==(s.size:Int))=true:=by rw[beq_iff_eq];omega
     have HQ:=hid hq
     clear hq
     go_enter Tryz.func132,Tryz.ntmps132
     go_wp2_with (first|(go_at_call 139;refine (qbs _ _).mono ?_;rintro e w' ⟨rfl,rfl⟩)|(go_at_call 140;refine (qh6 s 0 _ hs (by omega)).mono ?_;rintro e w' ⟨rfl,rfl⟩)|(go_at_call 141;refine (qpq _ _).mono ?_;rintro e w' ⟨rfl,rfl⟩))
     go_ret
     exact⟨qai (by rw[HN.out,HA.out.1 HQ.out];rfl),rfl⟩
    ·have hqb:(((Lx.spanEnd Lx.nameByte s 0:Nat):Int)==(s.size:Int))=false:=by rw[beq_eq_false_iff_ne];omega
     have HQ:=hid hq
     clear hq
     go_enter Tryz.func132,Tryz.ntmps132
     go_wp2_with (first|(go_at_call 139;refine (qbs _ _).mono ?_;rintro e w' ⟨rfl,rfl⟩)|(go_at_call 140;refine (qh6 s 0 _ hs (by omega)).mono ?_;rintro e w' ⟨rfl,rfl⟩)|(go_at_call 141;refine (qpq _ _).mono ?_;rintro e w' ⟨rfl,rfl⟩))
     go_ret
     refine⟨qai ?_,rfl⟩
     cases ha:s.data.toList.all Lx.nameByte
     ·rw[HN.out,ha];rfl
     ·exact absurd (HA.out.2 ha) HQ.out
