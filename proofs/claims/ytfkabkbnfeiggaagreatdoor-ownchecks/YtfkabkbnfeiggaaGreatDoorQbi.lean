/-
  Own texts joined by program: NmB.
-/
import Derived.Test.YtfkabkbnfeiggaaGreatDoorQaa
namespace Go.Proofs.YtfkabkbnfeiggaaGreatDoor
open Go.RowKit
namespace Lx
end Lx
theorem refLetter_any (c:UInt8) (w:World) :
  Calls Tryz.prog 93 #[.int .u8 (c.toNat:Int)] w fun e w'=>e=.returned (.bool (Lx.letter c))∧w'=w:=by
 have hc:c.toNat<256:=c.toNat_lt
 go_enter Tryz.func93,Tryz.ntmps93
 go_wp2
 all_goals go_ret
 all_goals exact⟨ret_bool (by rw[Lx.letter_eq,Bool.eq_iff_iff];simp;omega),rfl⟩
theorem refDigit_any (c:UInt8) (w:World) :
  Calls Tryz.prog 94 #[.int .u8 (c.toNat:Int)] w fun e w'=>e=.returned (.bool (Lx.digit c))∧w'=w:=by
 have hc:c.toNat<256:=c.toNat_lt
 go_enter Tryz.func94,Tryz.ntmps94
 go_wp2
 all_goals go_ret
 all_goals exact⟨ret_bool (by rw[Lx.digit_eq,Bool.eq_iff_iff];simp;omega),rfl⟩
namespace Lx
end Lx
namespace Lx
end Lx
set_option maxHeartbeats 1000000 in
theorem words_any (w:World) :
  Calls Tryz.prog 110 #[] w fun e w'=>e=.returned (.slice (some ⟨w.heap.size,0,none⟩) 20 20)∧w'=w.alloc (.cells (textCells Lx.words) 9):=by
 go_enter Tryz.func110,Tryz.ntmps110
 go_wp2
 go_ret
 exact⟨rfl,rfl⟩
theorem words_row (w:World) :
  Calls Tryz.prog 110 #[] w fun e w'=>∃ b,e=.returned (.slice (some ⟨b,0,none⟩) 20 20)∧HoldsTexts w' b Lx.words∧Below w.heap.size w w':=by
 refine (words_any w).mono ?_
 rintro e w' ⟨rfl,rfl⟩
 exact⟨_,rfl,textCells_cell _ _ _,(Below.refl _ _).alloc (Nat.le_refl _) _⟩
set_option maxHeartbeats 400000 in
theorem refWord_any (s:ByteArray) (w:World) :
  Calls Tryz.prog 95 #[.string s] w fun e w'=>e=.returned (.bool (Lx.word s))∧Below w.heap.size w w':=by
 go_enter Tryz.func95,Tryz.ntmps95
 go_wp2_with (go_at_call 110;refine (words_row _).mono ?_;rintro e w1 ⟨b,rfl,hrow,hb⟩)
 go_loop [4] (fun i=>∃ k:Nat,k≤20∧i=.int .i64 k∧(Lx.words.take k).contains s.toList=false) (fun i=>20-(intOf i).toNat)
 case atStart=>exact⟨0,by omega,rfl,rfl⟩
 case round =>
  obtain⟨k,hk,rfl,hq⟩:=hrel
  have HQ:=hid hq
  clear hq
  by_cases hlt:k<20
  ·have hl:k<Lx.words.length:=hlt
   have hc:=hrow k hl
   have hs:=contains_snoc Lx.words k s.toList hl
   have ht:=toList_mk (Lx.words[k])
   have HS:=hid hs
   clear hs
   generalize hx:(ByteArray.mk (Lx.words[k]).toArray)=x at hc ht
   clear hx
   have HT:Hid (x.toList=Lx.words[k]):=ht
   clear ht
   cases he:(x.toList==s.toList)
   ·go_wp2
    go_round
    case rel=>exact⟨k+1,by omega,by go_num,by rw[HS.out,HQ.out,← HT.out,bytes_beq_comm,he];rfl⟩
    case measure=>simp[intOf];omega
   ·go_wp2
    go_ret
    refine⟨ret_bool ?_,hb⟩
    have h1:(Lx.words.take (k+1)).contains s.toList=true:=by rw[HS.out,HQ.out,← HT.out,bytes_beq_comm,he];rfl
    have h2:=List.mem_of_mem_take (List.contains_iff_mem.1 h1)
    exact (List.contains_iff_mem.2 h2).symm
  ·have hk20:k=20:=by omega
   go_wp2
   go_ret
   refine⟨ret_bool ?_,hb⟩
   have:=HQ.out
   rw[hk20] at this
   exact this.symm
namespace Lx
end Lx
set_option maxHeartbeats 1000000 in
theorem refName_any (s:ByteArray) (w:World) (hs:s.size≤140737488351232) :
  Calls Tryz.prog 71 #[.string s] w fun e w'=>e=.returned (.bool (Lx.name s))∧Below w.heap.size w w':=by
 by_cases h0:s.size=0
 ·have HN:=hid (Lx.name_zero s h0)
  go_enter Tryz.func71,Tryz.ntmps71
  go_wp2
  go_ret
  exact⟨ret_bool HN.out.symm,Below.refl _ _⟩
 ·have hp:0<s.size:=by omega
  by_cases h32:32<s.size
  ·have HN:=hid (Lx.name_long s h32)
   go_enter Tryz.func71,Tryz.ntmps71
   go_wp2
   go_ret
   exact⟨ret_bool HN.out.symm,Below.refl _ _⟩
  ·cases hl:Lx.letter s[0]
   ·have HN:=hid (Lx.name_head s hp hl)
    go_enter Tryz.func71,Tryz.ntmps71
    go_wp2_with (go_at_call 93;refine (refLetter_any _ _).mono ?_;rintro e w' ⟨rfl,rfl⟩)
    go_ret
    exact⟨ret_bool HN.out.symm,Below.refl _ _⟩
   ·have HB:=hid (Lx.name_body s hp (by omega) hl)
    go_enter Tryz.func71,Tryz.ntmps71
    go_wp2_with (go_at_call 93;refine (refLetter_any _ _).mono ?_;rintro e w' ⟨rfl,rfl⟩)
    go_loop [3] (fun i=>∃ k:Nat,k≤s.size∧i=.int .i64 k∧(s.data.toList.take k).all Lx.nameByte=true) (fun i=>s.size-(intOf i).toNat)
    case atStart=>exact⟨0,by omega,rfl,rfl⟩
    case round =>
     obtain⟨k,hk,rfl,hq⟩:=hrel
     have HQ:=hid hq
     clear hq
     by_cases hlt:k<s.size
     ·have HT:=hid (all_snoc s k hlt Lx.nameByte)
      cases hk1:Lx.letter s[k]
      ·cases hk2:Lx.digit s[k]
       ·cases hu:((s[k].toNat:Int) != 95)
        ·skip
         have HN:Hid (Lx.nameByte s[k]=true):=by
          show Lx.nameByte s[k]=true
          have h95:s[k]=95:=u8_eq _ 95 (by simpa using hu)
          simp[Lx.nameByte,h95]
         go_wp2_with (first|(go_at_call 93;refine (refLetter_any _ _).mono ?_;rintro e w' ⟨rfl,rfl⟩)|(go_at_call 94;refine (refDigit_any _ _).mono ?_;rintro e w' ⟨rfl,rfl⟩))
         go_round
         case rel=>exact⟨k+1,by omega,by go_num,by rw[HT.out,HQ.out,HN.out];rfl⟩
         case measure=>simp[intOf];omega
        ·have HN:Hid (Lx.name s=false):=by
          show Lx.name s=false
          have h95:s[k]≠95:=by intro h;rw[h] at hu;simp at hu
          rw[HB.out,all_cut s k hlt Lx.nameByte (by simp[Lx.nameByte,hk1,hk2,h95])];rfl
         go_wp2_with (first|(go_at_call 93;refine (refLetter_any _ _).mono ?_;rintro e w' ⟨rfl,rfl⟩)|(go_at_call 94;refine (refDigit_any _ _).mono ?_;rintro e w' ⟨rfl,rfl⟩))
         go_ret
         exact⟨ret_bool HN.out.symm,Below.refl _ _⟩
       ·skip
        have HN:Hid (Lx.nameByte s[k]=true):=by
         show Lx.nameByte s[k]=true
         simp[Lx.nameByte,hk2]
        go_wp2_with (first|(go_at_call 93;refine (refLetter_any _ _).mono ?_;rintro e w' ⟨rfl,rfl⟩)|(go_at_call 94;refine (refDigit_any _ _).mono ?_;rintro e w' ⟨rfl,rfl⟩))
        go_round
        case rel=>exact⟨k+1,by omega,by go_num,by rw[HT.out,HQ.out,HN.out];rfl⟩
        case measure=>simp[intOf];omega
      ·skip
       have HN:Hid (Lx.nameByte s[k]=true):=by
        show Lx.nameByte s[k]=true
        simp[Lx.nameByte,hk1]
       go_wp2_with (first|(go_at_call 93;refine (refLetter_any _ _).mono ?_;rintro e w' ⟨rfl,rfl⟩)|(go_at_call 94;refine (refDigit_any _ _).mono ?_;rintro e w' ⟨rfl,rfl⟩))
       go_round
       case rel=>exact⟨k+1,by omega,by go_num,by rw[HT.out,HQ.out,HN.out];rfl⟩
       case measure=>simp[intOf];omega
     ·have HN:Hid (Lx.name s=!Lx.word s):=by
       show Lx.name s=!Lx.word s
       have h1:=HQ.out
       rw[all_whole s k (by omega)] at h1
       rw[HB.out,h1];rfl
      go_wp2_with (go_at_call 95;refine (refWord_any _ _).mono ?_;rintro e w' ⟨rfl,hb⟩)
      go_ret
      exact⟨ret_bool HN.out.symm,hb⟩
end Go.Proofs.YtfkabkbnfeiggaaGreatDoor
