/-
  stmts of package parse, out of the readers of statements.
-/
import Derived.Test.YtaekbgljbgmchaaGreatDoorPzU
namespace Go.Proofs.YtaekbgljbgmchaaGreatDoor
open Go.RowKit
open Lx (Out)
open Pz
theorem Tryz.info108 : (Tryz.prog.info? 108).map (fun i => (i.zero, i.size, i.bytes)) = some (some (.agg #[.int .i64 0, .string ⟨#[]⟩, .string ⟨#[]⟩, .int .i64 0, .int .i64 0, .string ⟨#[]⟩, .string ⟨#[]⟩, .int .i64 0, .slice none 0 0, .int .i64 0, .slice none 0 0, .int .i64 0]), 12, 160) := by kernel_rfl
theorem fnNil (w : World) : (binOp .neq 201 .nilFunc .nilFunc).run Tryz.prog w = .ok (.bool false) w := by kernel_rfl
theorem fnSome (F : Nat) (p : Value) (w : World) : (binOp .neq 201 (.func (.func F) #[p] #[]) .nilFunc).run Tryz.prog w = .ok (.bool true) w := by kernel_rfl
theorem fnOf_range (t : Out) (h : kindOf t ≠ 0) : fnOf (kindOf t) = 198 ∨ fnOf (kindOf t) = 199 ∨ fnOf (kindOf t) = 200 ∨ fnOf (kindOf t) = 201 ∨ fnOf (kindOf t) = 202 ∨ fnOf (kindOf t) = 203 ∨ fnOf (kindOf t) = 204 ∨ fnOf (kindOf t) = 205 ∨ fnOf (kindOf t) = 206 ∨ fnOf (kindOf t) = 207 ∨ fnOf (kindOf t) = 208 := by
  rcases kind_word t _ rfl h with h1 | h1 | h1 | h1 | h1 | h1 | h1 | h1 | h1 | h1 | h1 <;> rw [h1.1] <;> decide
/-- What a statement's reading asks of the reader. -/
def BdS (s : S) : Prop := 0 ≤ s.opn ∧ s.opn + s.rest.length ≤ 200001
/-- The readers of statements read as the plain functions do. -/
def StmtC (f : Nat) : Prop := ∀ (b g cap : Nat) (toks : List Out) (s : S) (w : World), At b g cap toks s w → Opers w → b ≠ 2 → BdS s → 3 * s.rest.length + 2 ≤ f → kindOf s.hd ≠ 0 →
  Calls Tryz.prog (fnOf (kindOf s.hd)) #[.pointer (some ⟨b, 0, none⟩)] w (StBack b g cap toks (stmt (exprAt f 1) (block (stmtsF f [])) (kindOf s.hd) s) w)
theorem news_of {w : World} {k : Nat} {c : Array Value} {T : TypeId} (h : w.heap[k]? = some (.cells c T (0, 0))) (j : Nat) (u : Value) (hu : c.toList[j]? = some u) : w.cell? ((⟨k, 0, none⟩ : Addr).add j) = some u := by
  rw [show (⟨k, 0, none⟩ : Addr).add j = ⟨k, j, none⟩ by simp [Addr.add]; omega, cellB h]
  simpa using hu
theorem StBy.pos {Q : Nat → Bool} {w : World} {kind : Int} {mon name : ByteArray} {n : Int} {e : Ex} {ad : Option Addr} {cp : Nat} {blocks : List Bl} {pos pos' : Int} (h : (St.mk kind mon name n e ad cp blocks pos).By Q w) (hp : I64 pos') : (St.mk kind mon name n e ad cp blocks pos').By Q w :=
  St.Is.up ⟨⟨h.down.1.1, h.down.1.2.1, hp, h.down.1.2.2.2.1, h.down.1.2.2.2.2⟩, h.down.2.1, h.down.2.2.1, h.down.2.2.2⟩
theorem stmts_unfold (f : Nat) (l : List St) (s : S) (h : 1 ≤ f) : stmtsF f l s = (if kindOf s.hd = 0 then (bl l, s)
    else stmtsF (f - 1) (l ++ [stAt (stmt (exprAt (f - 1) 1) (block (stmtsF (f - 1) [])) (kindOf s.hd) s).1 s.hd.pos]) (stmt (exprAt (f - 1) 1) (block (stmtsF (f - 1) [])) (kindOf s.hd) s).2) := by
  obtain ⟨f, rfl⟩ : ∃ k, f = k + 1 := ⟨f - 1, by omega⟩
  rw [stmtsF]; rfl
set_option maxRecDepth 100000 in
set_option maxHeartbeats 20000000 in
theorem stmts_of (F : Nat) (hS : ∀ f, f < F → StmtC f) (b g cap : Nat) (toks : List Out) (s : S) (w : World) (h : At b g cap toks s w) (hO : Opers w) (hb2 : b ≠ 2) (hBd : BdS s) (hF : 3 * s.rest.length + 3 ≤ F) :
    Calls Tryz.prog 162 #[.pointer (some ⟨b, 0, none⟩)] w (BlBack b g cap toks (stmtsF F [] s) w) := by
  obtain ⟨i0, hi, hz0, hz1, hz2⟩ := info_parts Tryz.info108
  have hb := h.lt
  have hgl := h.glt
  have hsm := h.ok.len.2
  have hsm2 := h.small
  obtain ⟨R, hR⟩ : ∃ R, stmtsF F [] s = R := ⟨_, rfl⟩
  rw [hR]
  have HR := hid hR
  clear hR
  have h181 := stmt_any b g cap toks s w h
  have f3 := fld3
  have hO0 := hO
  go_enter Tryz.func162, Tryz.ntmps162
  go_wp2_with (go_at_call 181; refine h181.mono ?_; rintro r w1 ⟨rfl, b1⟩)
  have A := h.below b1
  have K : Kp b w w1 := .of b1
  clear h181
  go_loopg [3, 4] s.rest.length (fun gn v rv wr => ∃ (l : List St) (fi : Nat) (s' : S), gn = s'.rest.length ∧ rv = rdV b (kindOf s'.hd) ∧ wr.ownsRow w.heap.size 108 12 v l.length (l.flatMap St.cells) ∧ (∀ x ∈ l, x.By (but w.heap.size v) wr) ∧ At b g cap toks s' wr ∧ Kp b w wr ∧ Hid (stmtsF fi (l.map St.clr) s' = R) ∧ 3 * s'.rest.length + 3 ≤ fi ∧ fi ≤ F ∧ Hid (s'.opn = s.opn ∧ l.length + s'.rest.length ≤ s.rest.length))
  case atStart => exact ⟨[], F, s, rfl, rfl, World.ownsRow_nil _ _ _ _, by simp, A, K, HR, hF, Nat.le_refl _, rfl, by simp⟩
  case round =>
    obtain ⟨l, fi, s', hgn, rfl, hown, hel, A, K, HS, hfi, hfF, HLe⟩ := hrel
    have hO := hO0.kp K hb2
    have HG := hid hgn
    clear hgn
    by_cases hk : kindOf s'.hd = 0
    · have HF : Hid (R = (bl (l.map St.clr), s')) := by show _ = _; rw [← HS.out, stmts_unfold fi _ _ (by omega), if_pos hk]
      rw [show rdV b (kindOf s'.hd) = .nilFunc by rw [hk]; rfl]
      obtain ⟨ad, cp, rfl, hsl⟩ := sl_of_own St.cells_len hown
      clear hown HS hS hk
      have fn := fnNil
      go_wp2
      go_ret
      refine ⟨ad, cp, l, rfl, ?_, ?_, ?_, K⟩
      · rw [HF.out, Bl.clr, St.clrL_eq]; rfl
      · exact Bl.Is.up ⟨hsl, fun x hx => St.By.weak (hel x hx) (fun k hk _ => from_iff.2 (but_iff.1 hk).1)⟩
      · rw [HF.out]; exact A
    · have hrv : rdV b (kindOf s'.hd) = .func (.func (fnOf (kindOf s'.hd))) #[.pointer (some ⟨b, 0, none⟩)] #[] := by unfold rdV; rw [if_neg hk]
      rw [hrv]
      have hpl := pass_lt A.ok (hd5 A.ok hk)
      have hstL := stmt_le (exprAt (fi - 1) 1) (block (stmtsF (fi - 1) [])) (fun s => (expr_le (fi - 1)).1 1 s) (fun s => le_block _ (fun s => stmts_le (fi - 1) [] s) s) hk
      have HL := hid (stmts_unfold fi (l.map St.clr) s' (by omega))
      have hbd : BdS s' := ⟨by rw [HLe.out.1]; exact hBd.1, by have h1 := HLe.out; have h2 := hBd.2; rw [h1.1]; omega⟩
      have hread0 := fun W hA hO => hS (fi - 1) (by omega) b g cap toks s' W hA hO hb2 hbd (by omega) hk
      obtain ⟨res, hres⟩ : ∃ res, stmt (exprAt (fi - 1) 1) (block (stmtsF (fi - 1) [])) (kindOf s'.hd) s' = res := ⟨_, rfl⟩
      rw [hres] at HL hstL
      simp only [hres] at hread0
      obtain ⟨Fk, hFk⟩ : ∃ Fk, fnOf (kindOf s'.hd) = Fk := ⟨_, rfl⟩
      rw [hFk] at hread0 ⊢
      have HL2 : Hid (R = stmtsF (fi - 1) (l.map St.clr ++ [stAt res.1 s'.hd.pos]) res.2) := by show _ = _; rw [← HS.out, HL.out, if_neg hk]
      have hfit := (hd_fit A).2.2.1
      obtain ⟨hp, hhp⟩ : ∃ hp, s'.hd.pos = hp := ⟨_, rfl⟩
      have htok : ∀ W, At b g cap toks s' W → Calls Tryz.prog 62 #[.pointer (some ⟨b, 0, none⟩)] W fun e w' => e = .returned (.agg #[.int .i64 s'.hd.kind, .string s'.hd.text, .int .i64 s'.hd.n, .int .i64 (hp : Int)]) ∧ Below W.heap.size W w' := fun W hW => by rw [← hhp]; exact token_any b g cap toks s' W hW
      rw [hhp] at HL2 hfit
      have HLR : Hid (res.2.opn = s.opn ∧ res.2.rest.length + 1 ≤ s'.rest.length) := ⟨by rw [hstL.1, pass_opn]; exact HLe.out.1, by have := hstL.2; omega⟩
      have hll : l.length ≤ 100000 := by have := HLe.out.2; omega
      have HF2 : Hid (3 * s'.rest.length + 3 ≤ fi ∧ fi ≤ F) := ⟨hfi, hfF⟩
      have hread := hread0
      have HP := hid hpl
      have h181 := fun W hA => stmt_any b g cap toks res.2 W hA
      have fn := fnSome
      have hFk2 : Fk = 198 ∨ Fk = 199 ∨ Fk = 200 ∨ Fk = 201 ∨ Fk = 202 ∨ Fk = 203 ∨ Fk = 204 ∨ Fk = 205 ∨ Fk = 206 ∨ Fk = 207 ∨ Fk = 208 := by rw [← hFk]; exact fnOf_range _ hk
      clear hread0 hhp hres hFk HL HS hS hrv hk hstL hfi hfF hpl hbd hF hBd HR h hO0 hsm
      rcases hFk2 with rfl | rfl | rfl | rfl | rfl | rfl | rfl | rfl | rfl | rfl | rfl
      · go_wp2_with (first
          | (go_at_call 62; (with_reducible refine (htok _ A).mono ?_); rintro r u1 ⟨rfl, b2⟩; have A := A.below b2; have K := K.tr b2; have hown := owns_below hown b2; have hO := hO.below b2; have hzu := K.size; have hown1 := hown; have hel : ∀ x ∈ l, x.By (but w.heap.size _) u1 := fun x hx => St.By.kq (hel x hx) ((Kq.refl _ _).bel b2))
          | (go_at_call 181; (with_reducible refine (h181 _ A).mono ?_); rintro r u5 ⟨rfl, b5⟩)
          | ((with_reducible refine (hread _ A hO).mono ?_); rintro r u2 ⟨kind, mon, name, n, eop, emon, ename, en, ead, ecp, ekids, epos, ad, cp, blocks, pos, rfl, hclr, hBy, A, k⟩; have K := K.trans k; have hown := owns_kp hown k hb; have hO := hO.kp k hb2; have hzv := K.size; have hel : ∀ x ∈ l, x.By (but w.heap.size _) u2 := fun x hx => St.By.kq (hel x hx) ((Kq.refl _ _).kp k (but_lt hb)))
          | (at_builtin; refine wpList_append_own2 rfl _ _ 60 rfl w.heap.size 108 i0 (.agg #[.int .i64 0, .string ⟨#[]⟩, .string ⟨#[]⟩, .int .i64 0, .int .i64 0, .string ⟨#[]⟩, .string ⟨#[]⟩, .int .i64 0, .slice none 0 0, .int .i64 0, .slice none 0 0, .int .i64 0]) 12 160 Tryz.underlying60 hi hz0 hz1 hz2 rfl (by decide) _ _ _ rfl ((hown.alloc _).alloc _) ⟨u2.heap.size + 1, 0, none⟩ 1 1 (#[.int .i64 kind, .string mon, .string name, .int .i64 n, .int .i64 eop, .string emon, .string ename, .int .i64 en, .slice ead ekids.length ecp, .int .i64 epos, .slice ad blocks.length cp, .int .i64 (hp : Int)]).toList rfl rfl (news_of (newB' _ _ _ _ (by simp))) ?c1 (by decide) ?c2 ?c3 ?c4 ?_))
        case c1 => exact ⟨rfl, rfl, rfl, rfl, rfl, rfl, rfl, rfl, rfl, rfl, rfl, rfl⟩
        case c2 => unfold maxLen; omega
        case c3 => omega
        case c4 => simp; omega
        intro v' u4 hown' hgrow hwh
        have hown2 := (hown.alloc (.cells #[.int .i64 kind, .string mon, .string name, .int .i64 n, .int .i64 eop, .string emon, .string ename, .int .i64 en, .slice ead ekids.length ecp, .int .i64 epos, .slice ad blocks.length cp, .int .i64 (hp : Int)] 108)).alloc (.cells #[.int .i64 kind, .string mon, .string name, .int .i64 n, .int .i64 eop, .string emon, .string ename, .int .i64 en, .slice ead ekids.length ecp, .int .i64 epos, .slice ad blocks.length cp, .int .i64 (hp : Int)] 108)
        have A := ((A.al (.cells #[.int .i64 kind, .string mon, .string name, .int .i64 n, .int .i64 eop, .string emon, .string ename, .int .i64 en, .slice ead ekids.length ecp, .int .i64 epos, .slice ad blocks.length cp, .int .i64 (hp : Int)] 108)).al (.cells #[.int .i64 kind, .string mon, .string name, .int .i64 n, .int .i64 eop, .string emon, .string ename, .int .i64 en, .slice ead ekids.length ecp, .int .i64 epos, .slice ad blocks.length cp, .int .i64 (hp : Int)] 108)).grown hown2 hgrow hb hgl
        have K2 := (K.al (.cells #[.int .i64 kind, .string mon, .string name, .int .i64 n, .int .i64 eop, .string emon, .string ename, .int .i64 en, .slice ead ekids.length ecp, .int .i64 epos, .slice ad blocks.length cp, .int .i64 (hp : Int)] 108)).al (.cells #[.int .i64 kind, .string mon, .string name, .int .i64 n, .int .i64 eop, .string emon, .string ename, .int .i64 en, .slice ead ekids.length ecp, .int .i64 epos, .slice ad blocks.length cp, .int .i64 (hp : Int)] 108)
        have K := grown_kp K2 hown2 hgrow (Nat.le_refl _)
        have hwh2 : v'.ownBlock = u3.ownBlock ∨ v'.ownBlock = some (((u2.alloc (.cells #[.int .i64 kind, .string mon, .string name, .int .i64 n, .int .i64 eop, .string emon, .string ename, .int .i64 en, .slice ead ekids.length ecp, .int .i64 epos, .slice ad blocks.length cp, .int .i64 (hp : Int)] 108)).alloc (.cells #[.int .i64 kind, .string mon, .string name, .int .i64 n, .int .i64 eop, .string emon, .string ename, .int .i64 en, .slice ead ekids.length ecp, .int .i64 epos, .slice ad blocks.length cp, .int .i64 (hp : Int)] 108)).heap.size) := by simpa using hwh
        have hel2 : ∀ x ∈ l, x.By (but w.heap.size v') u4 := fun x hx => grow_by (B := fun Q w => x.By Q w) (fun _ _ _ h1 h2 => St.By.kq h1 h2) (fun _ _ _ h1 h2 => St.By.weak h1 h2) (St.By.kq (hel x hx) (((Kq.refl _ _).al _).al _)) hgrow hwh2
        have hnew : (St.mk kind mon name n (.mk eop emon ename en ead ecp ekids epos) ad cp blocks (hp : Int)).By (but w.heap.size v') u4 := by
          refine grow_by (B := fun Q w => (St.mk kind mon name n (.mk eop emon ename en ead ecp ekids epos) ad cp blocks (hp : Int)).By Q w) (fun _ _ _ h1 h2 => St.By.kq h1 h2) (fun _ _ _ h1 h2 => St.By.weak h1 h2) ?_ hgrow hwh2
          refine St.By.kq (St.By.weak (StBy.pos hBy (i64_nat hfit)) (fun k hk _ => but_iff.2 ⟨Nat.le_trans hzu (from_iff.1 hk), fun e1 => ?_⟩)) (((Kq.refl _ _).al _).al _)
          have h1 := (hown1.lt k e1).2
          have h2 := from_iff.1 hk
          omega
        have HX : Hid ((St.mk kind mon name n (.mk eop emon ename en ead ecp ekids epos) ad cp blocks (hp : Int)).clr = stAt res.1 hp) := by
          show _ = _
          rw [← hclr]; rfl
        clear hgrow hown hown1 hown2 hBy hwh hwh2 hel K2 hclr hread htok hO
        go_wp2_with (go_at_call 181; (with_reducible refine (h181 _ A).mono ?_); rintro r u5 ⟨rfl, b5⟩)
        go_roundg res.2.rest.length
        case measure => have := HG.out; have := HLR.out.2; omega
        case rel =>
          refine ⟨l ++ [.mk kind mon name n (.mk eop emon ename en ead ecp ekids epos) ad cp blocks (hp : Int)], fi - 1, res.2, rfl, rfl, ?_, ?_, A.below b5, K.tr b5, ?_, ?_, ?_, ?_⟩
          · rw [List.length_append, List.flatMap_append]
            exact owns_below hown' b5
          · intro x hx
            rcases List.mem_append.1 hx with hx | hx
            · exact St.By.kq (hel2 x hx) ((Kq.refl _ _).bel b5)
            · rw [List.mem_singleton.1 hx]; exact St.By.kq hnew ((Kq.refl _ _).bel b5)
          · show _ = _
            rw [HL2.out, List.map_append, List.map_cons, List.map_nil, HX.out]
          · have := HF2.out; have := HLR.out; omega
          · have := HF2.out; omega
          · exact ⟨HLR.out.1, by rw [List.length_append, List.length_singleton]; have := HLR.out.2; have := HLe.out.2; omega⟩
      · go_wp2_with (first
          | (go_at_call 62; (with_reducible refine (htok _ A).mono ?_); rintro r u1 ⟨rfl, b2⟩; have A := A.below b2; have K := K.tr b2; have hown := owns_below hown b2; have hO := hO.below b2; have hzu := K.size; have hown1 := hown; have hel : ∀ x ∈ l, x.By (but w.heap.size _) u1 := fun x hx => St.By.kq (hel x hx) ((Kq.refl _ _).bel b2))
          | (go_at_call 181; (with_reducible refine (h181 _ A).mono ?_); rintro r u5 ⟨rfl, b5⟩)
          | ((with_reducible refine (hread _ A hO).mono ?_); rintro r u2 ⟨kind, mon, name, n, eop, emon, ename, en, ead, ecp, ekids, epos, ad, cp, blocks, pos, rfl, hclr, hBy, A, k⟩; have K := K.trans k; have hown := owns_kp hown k hb; have hO := hO.kp k hb2; have hzv := K.size; have hel : ∀ x ∈ l, x.By (but w.heap.size _) u2 := fun x hx => St.By.kq (hel x hx) ((Kq.refl _ _).kp k (but_lt hb)))
          | (at_builtin; refine wpList_append_own2 rfl _ _ 60 rfl w.heap.size 108 i0 (.agg #[.int .i64 0, .string ⟨#[]⟩, .string ⟨#[]⟩, .int .i64 0, .int .i64 0, .string ⟨#[]⟩, .string ⟨#[]⟩, .int .i64 0, .slice none 0 0, .int .i64 0, .slice none 0 0, .int .i64 0]) 12 160 Tryz.underlying60 hi hz0 hz1 hz2 rfl (by decide) _ _ _ rfl ((hown.alloc _).alloc _) ⟨u2.heap.size + 1, 0, none⟩ 1 1 (#[.int .i64 kind, .string mon, .string name, .int .i64 n, .int .i64 eop, .string emon, .string ename, .int .i64 en, .slice ead ekids.length ecp, .int .i64 epos, .slice ad blocks.length cp, .int .i64 (hp : Int)]).toList rfl rfl (news_of (newB' _ _ _ _ (by simp))) ?c1 (by decide) ?c2 ?c3 ?c4 ?_))
        case c1 => exact ⟨rfl, rfl, rfl, rfl, rfl, rfl, rfl, rfl, rfl, rfl, rfl, rfl⟩
        case c2 => unfold maxLen; omega
        case c3 => omega
        case c4 => simp; omega
        intro v' u4 hown' hgrow hwh
        have hown2 := (hown.alloc (.cells #[.int .i64 kind, .string mon, .string name, .int .i64 n, .int .i64 eop, .string emon, .string ename, .int .i64 en, .slice ead ekids.length ecp, .int .i64 epos, .slice ad blocks.length cp, .int .i64 (hp : Int)] 108)).alloc (.cells #[.int .i64 kind, .string mon, .string name, .int .i64 n, .int .i64 eop, .string emon, .string ename, .int .i64 en, .slice ead ekids.length ecp, .int .i64 epos, .slice ad blocks.length cp, .int .i64 (hp : Int)] 108)
        have A := ((A.al (.cells #[.int .i64 kind, .string mon, .string name, .int .i64 n, .int .i64 eop, .string emon, .string ename, .int .i64 en, .slice ead ekids.length ecp, .int .i64 epos, .slice ad blocks.length cp, .int .i64 (hp : Int)] 108)).al (.cells #[.int .i64 kind, .string mon, .string name, .int .i64 n, .int .i64 eop, .string emon, .string ename, .int .i64 en, .slice ead ekids.length ecp, .int .i64 epos, .slice ad blocks.length cp, .int .i64 (hp : Int)] 108)).grown hown2 hgrow hb hgl
        have K2 := (K.al (.cells #[.int .i64 kind, .string mon, .string name, .int .i64 n, .int .i64 eop, .string emon, .string ename, .int .i64 en, .slice ead ekids.length ecp, .int .i64 epos, .slice ad blocks.length cp, .int .i64 (hp : Int)] 108)).al (.cells #[.int .i64 kind, .string mon, .string name, .int .i64 n, .int .i64 eop, .string emon, .string ename, .int .i64 en, .slice ead ekids.length ecp, .int .i64 epos, .slice ad blocks.length cp, .int .i64 (hp : Int)] 108)
        have K := grown_kp K2 hown2 hgrow (Nat.le_refl _)
        have hwh2 : v'.ownBlock = u3.ownBlock ∨ v'.ownBlock = some (((u2.alloc (.cells #[.int .i64 kind, .string mon, .string name, .int .i64 n, .int .i64 eop, .string emon, .string ename, .int .i64 en, .slice ead ekids.length ecp, .int .i64 epos, .slice ad blocks.length cp, .int .i64 (hp : Int)] 108)).alloc (.cells #[.int .i64 kind, .string mon, .string name, .int .i64 n, .int .i64 eop, .string emon, .string ename, .int .i64 en, .slice ead ekids.length ecp, .int .i64 epos, .slice ad blocks.length cp, .int .i64 (hp : Int)] 108)).heap.size) := by simpa using hwh
        have hel2 : ∀ x ∈ l, x.By (but w.heap.size v') u4 := fun x hx => grow_by (B := fun Q w => x.By Q w) (fun _ _ _ h1 h2 => St.By.kq h1 h2) (fun _ _ _ h1 h2 => St.By.weak h1 h2) (St.By.kq (hel x hx) (((Kq.refl _ _).al _).al _)) hgrow hwh2
        have hnew : (St.mk kind mon name n (.mk eop emon ename en ead ecp ekids epos) ad cp blocks (hp : Int)).By (but w.heap.size v') u4 := by
          refine grow_by (B := fun Q w => (St.mk kind mon name n (.mk eop emon ename en ead ecp ekids epos) ad cp blocks (hp : Int)).By Q w) (fun _ _ _ h1 h2 => St.By.kq h1 h2) (fun _ _ _ h1 h2 => St.By.weak h1 h2) ?_ hgrow hwh2
          refine St.By.kq (St.By.weak (StBy.pos hBy (i64_nat hfit)) (fun k hk _ => but_iff.2 ⟨Nat.le_trans hzu (from_iff.1 hk), fun e1 => ?_⟩)) (((Kq.refl _ _).al _).al _)
          have h1 := (hown1.lt k e1).2
          have h2 := from_iff.1 hk
          omega
        have HX : Hid ((St.mk kind mon name n (.mk eop emon ename en ead ecp ekids epos) ad cp blocks (hp : Int)).clr = stAt res.1 hp) := by
          show _ = _
          rw [← hclr]; rfl
        clear hgrow hown hown1 hown2 hBy hwh hwh2 hel K2 hclr hread htok hO
        go_wp2_with (go_at_call 181; (with_reducible refine (h181 _ A).mono ?_); rintro r u5 ⟨rfl, b5⟩)
        go_roundg res.2.rest.length
        case measure => have := HG.out; have := HLR.out.2; omega
        case rel =>
          refine ⟨l ++ [.mk kind mon name n (.mk eop emon ename en ead ecp ekids epos) ad cp blocks (hp : Int)], fi - 1, res.2, rfl, rfl, ?_, ?_, A.below b5, K.tr b5, ?_, ?_, ?_, ?_⟩
          · rw [List.length_append, List.flatMap_append]
            exact owns_below hown' b5
          · intro x hx
            rcases List.mem_append.1 hx with hx | hx
            · exact St.By.kq (hel2 x hx) ((Kq.refl _ _).bel b5)
            · rw [List.mem_singleton.1 hx]; exact St.By.kq hnew ((Kq.refl _ _).bel b5)
          · show _ = _
            rw [HL2.out, List.map_append, List.map_cons, List.map_nil, HX.out]
          · have := HF2.out; have := HLR.out; omega
          · have := HF2.out; omega
          · exact ⟨HLR.out.1, by rw [List.length_append, List.length_singleton]; have := HLR.out.2; have := HLe.out.2; omega⟩
      · go_wp2_with (first
          | (go_at_call 62; (with_reducible refine (htok _ A).mono ?_); rintro r u1 ⟨rfl, b2⟩; have A := A.below b2; have K := K.tr b2; have hown := owns_below hown b2; have hO := hO.below b2; have hzu := K.size; have hown1 := hown; have hel : ∀ x ∈ l, x.By (but w.heap.size _) u1 := fun x hx => St.By.kq (hel x hx) ((Kq.refl _ _).bel b2))
          | (go_at_call 181; (with_reducible refine (h181 _ A).mono ?_); rintro r u5 ⟨rfl, b5⟩)
          | ((with_reducible refine (hread _ A hO).mono ?_); rintro r u2 ⟨kind, mon, name, n, eop, emon, ename, en, ead, ecp, ekids, epos, ad, cp, blocks, pos, rfl, hclr, hBy, A, k⟩; have K := K.trans k; have hown := owns_kp hown k hb; have hO := hO.kp k hb2; have hzv := K.size; have hel : ∀ x ∈ l, x.By (but w.heap.size _) u2 := fun x hx => St.By.kq (hel x hx) ((Kq.refl _ _).kp k (but_lt hb)))
          | (at_builtin; refine wpList_append_own2 rfl _ _ 60 rfl w.heap.size 108 i0 (.agg #[.int .i64 0, .string ⟨#[]⟩, .string ⟨#[]⟩, .int .i64 0, .int .i64 0, .string ⟨#[]⟩, .string ⟨#[]⟩, .int .i64 0, .slice none 0 0, .int .i64 0, .slice none 0 0, .int .i64 0]) 12 160 Tryz.underlying60 hi hz0 hz1 hz2 rfl (by decide) _ _ _ rfl ((hown.alloc _).alloc _) ⟨u2.heap.size + 1, 0, none⟩ 1 1 (#[.int .i64 kind, .string mon, .string name, .int .i64 n, .int .i64 eop, .string emon, .string ename, .int .i64 en, .slice ead ekids.length ecp, .int .i64 epos, .slice ad blocks.length cp, .int .i64 (hp : Int)]).toList rfl rfl (news_of (newB' _ _ _ _ (by simp))) ?c1 (by decide) ?c2 ?c3 ?c4 ?_))
        case c1 => exact ⟨rfl, rfl, rfl, rfl, rfl, rfl, rfl, rfl, rfl, rfl, rfl, rfl⟩
        case c2 => unfold maxLen; omega
        case c3 => omega
        case c4 => simp; omega
        intro v' u4 hown' hgrow hwh
        have hown2 := (hown.alloc (.cells #[.int .i64 kind, .string mon, .string name, .int .i64 n, .int .i64 eop, .string emon, .string ename, .int .i64 en, .slice ead ekids.length ecp, .int .i64 epos, .slice ad blocks.length cp, .int .i64 (hp : Int)] 108)).alloc (.cells #[.int .i64 kind, .string mon, .string name, .int .i64 n, .int .i64 eop, .string emon, .string ename, .int .i64 en, .slice ead ekids.length ecp, .int .i64 epos, .slice ad blocks.length cp, .int .i64 (hp : Int)] 108)
        have A := ((A.al (.cells #[.int .i64 kind, .string mon, .string name, .int .i64 n, .int .i64 eop, .string emon, .string ename, .int .i64 en, .slice ead ekids.length ecp, .int .i64 epos, .slice ad blocks.length cp, .int .i64 (hp : Int)] 108)).al (.cells #[.int .i64 kind, .string mon, .string name, .int .i64 n, .int .i64 eop, .string emon, .string ename, .int .i64 en, .slice ead ekids.length ecp, .int .i64 epos, .slice ad blocks.length cp, .int .i64 (hp : Int)] 108)).grown hown2 hgrow hb hgl
        have K2 := (K.al (.cells #[.int .i64 kind, .string mon, .string name, .int .i64 n, .int .i64 eop, .string emon, .string ename, .int .i64 en, .slice ead ekids.length ecp, .int .i64 epos, .slice ad blocks.length cp, .int .i64 (hp : Int)] 108)).al (.cells #[.int .i64 kind, .string mon, .string name, .int .i64 n, .int .i64 eop, .string emon, .string ename, .int .i64 en, .slice ead ekids.length ecp, .int .i64 epos, .slice ad blocks.length cp, .int .i64 (hp : Int)] 108)
        have K := grown_kp K2 hown2 hgrow (Nat.le_refl _)
        have hwh2 : v'.ownBlock = u3.ownBlock ∨ v'.ownBlock = some (((u2.alloc (.cells #[.int .i64 kind, .string mon, .string name, .int .i64 n, .int .i64 eop, .string emon, .string ename, .int .i64 en, .slice ead ekids.length ecp, .int .i64 epos, .slice ad blocks.length cp, .int .i64 (hp : Int)] 108)).alloc (.cells #[.int .i64 kind, .string mon, .string name, .int .i64 n, .int .i64 eop, .string emon, .string ename, .int .i64 en, .slice ead ekids.length ecp, .int .i64 epos, .slice ad blocks.length cp, .int .i64 (hp : Int)] 108)).heap.size) := by simpa using hwh
        have hel2 : ∀ x ∈ l, x.By (but w.heap.size v') u4 := fun x hx => grow_by (B := fun Q w => x.By Q w) (fun _ _ _ h1 h2 => St.By.kq h1 h2) (fun _ _ _ h1 h2 => St.By.weak h1 h2) (St.By.kq (hel x hx) (((Kq.refl _ _).al _).al _)) hgrow hwh2
        have hnew : (St.mk kind mon name n (.mk eop emon ename en ead ecp ekids epos) ad cp blocks (hp : Int)).By (but w.heap.size v') u4 := by
          refine grow_by (B := fun Q w => (St.mk kind mon name n (.mk eop emon ename en ead ecp ekids epos) ad cp blocks (hp : Int)).By Q w) (fun _ _ _ h1 h2 => St.By.kq h1 h2) (fun _ _ _ h1 h2 => St.By.weak h1 h2) ?_ hgrow hwh2
          refine St.By.kq (St.By.weak (StBy.pos hBy (i64_nat hfit)) (fun k hk _ => but_iff.2 ⟨Nat.le_trans hzu (from_iff.1 hk), fun e1 => ?_⟩)) (((Kq.refl _ _).al _).al _)
          have h1 := (hown1.lt k e1).2
          have h2 := from_iff.1 hk
          omega
        have HX : Hid ((St.mk kind mon name n (.mk eop emon ename en ead ecp ekids epos) ad cp blocks (hp : Int)).clr = stAt res.1 hp) := by
          show _ = _
          rw [← hclr]; rfl
        clear hgrow hown hown1 hown2 hBy hwh hwh2 hel K2 hclr hread htok hO
        go_wp2_with (go_at_call 181; (with_reducible refine (h181 _ A).mono ?_); rintro r u5 ⟨rfl, b5⟩)
        go_roundg res.2.rest.length
        case measure => have := HG.out; have := HLR.out.2; omega
        case rel =>
          refine ⟨l ++ [.mk kind mon name n (.mk eop emon ename en ead ecp ekids epos) ad cp blocks (hp : Int)], fi - 1, res.2, rfl, rfl, ?_, ?_, A.below b5, K.tr b5, ?_, ?_, ?_, ?_⟩
          · rw [List.length_append, List.flatMap_append]
            exact owns_below hown' b5
          · intro x hx
            rcases List.mem_append.1 hx with hx | hx
            · exact St.By.kq (hel2 x hx) ((Kq.refl _ _).bel b5)
            · rw [List.mem_singleton.1 hx]; exact St.By.kq hnew ((Kq.refl _ _).bel b5)
          · show _ = _
            rw [HL2.out, List.map_append, List.map_cons, List.map_nil, HX.out]
          · have := HF2.out; have := HLR.out; omega
          · have := HF2.out; omega
          · exact ⟨HLR.out.1, by rw [List.length_append, List.length_singleton]; have := HLR.out.2; have := HLe.out.2; omega⟩
      · go_wp2_with (first
          | (go_at_call 62; (with_reducible refine (htok _ A).mono ?_); rintro r u1 ⟨rfl, b2⟩; have A := A.below b2; have K := K.tr b2; have hown := owns_below hown b2; have hO := hO.below b2; have hzu := K.size; have hown1 := hown; have hel : ∀ x ∈ l, x.By (but w.heap.size _) u1 := fun x hx => St.By.kq (hel x hx) ((Kq.refl _ _).bel b2))
          | (go_at_call 181; (with_reducible refine (h181 _ A).mono ?_); rintro r u5 ⟨rfl, b5⟩)
          | ((with_reducible refine (hread _ A hO).mono ?_); rintro r u2 ⟨kind, mon, name, n, eop, emon, ename, en, ead, ecp, ekids, epos, ad, cp, blocks, pos, rfl, hclr, hBy, A, k⟩; have K := K.trans k; have hown := owns_kp hown k hb; have hO := hO.kp k hb2; have hzv := K.size; have hel : ∀ x ∈ l, x.By (but w.heap.size _) u2 := fun x hx => St.By.kq (hel x hx) ((Kq.refl _ _).kp k (but_lt hb)))
          | (at_builtin; refine wpList_append_own2 rfl _ _ 60 rfl w.heap.size 108 i0 (.agg #[.int .i64 0, .string ⟨#[]⟩, .string ⟨#[]⟩, .int .i64 0, .int .i64 0, .string ⟨#[]⟩, .string ⟨#[]⟩, .int .i64 0, .slice none 0 0, .int .i64 0, .slice none 0 0, .int .i64 0]) 12 160 Tryz.underlying60 hi hz0 hz1 hz2 rfl (by decide) _ _ _ rfl ((hown.alloc _).alloc _) ⟨u2.heap.size + 1, 0, none⟩ 1 1 (#[.int .i64 kind, .string mon, .string name, .int .i64 n, .int .i64 eop, .string emon, .string ename, .int .i64 en, .slice ead ekids.length ecp, .int .i64 epos, .slice ad blocks.length cp, .int .i64 (hp : Int)]).toList rfl rfl (news_of (newB' _ _ _ _ (by simp))) ?c1 (by decide) ?c2 ?c3 ?c4 ?_))
        case c1 => exact ⟨rfl, rfl, rfl, rfl, rfl, rfl, rfl, rfl, rfl, rfl, rfl, rfl⟩
        case c2 => unfold maxLen; omega
        case c3 => omega
        case c4 => simp; omega
        intro v' u4 hown' hgrow hwh
        have hown2 := (hown.alloc (.cells #[.int .i64 kind, .string mon, .string name, .int .i64 n, .int .i64 eop, .string emon, .string ename, .int .i64 en, .slice ead ekids.length ecp, .int .i64 epos, .slice ad blocks.length cp, .int .i64 (hp : Int)] 108)).alloc (.cells #[.int .i64 kind, .string mon, .string name, .int .i64 n, .int .i64 eop, .string emon, .string ename, .int .i64 en, .slice ead ekids.length ecp, .int .i64 epos, .slice ad blocks.length cp, .int .i64 (hp : Int)] 108)
        have A := ((A.al (.cells #[.int .i64 kind, .string mon, .string name, .int .i64 n, .int .i64 eop, .string emon, .string ename, .int .i64 en, .slice ead ekids.length ecp, .int .i64 epos, .slice ad blocks.length cp, .int .i64 (hp : Int)] 108)).al (.cells #[.int .i64 kind, .string mon, .string name, .int .i64 n, .int .i64 eop, .string emon, .string ename, .int .i64 en, .slice ead ekids.length ecp, .int .i64 epos, .slice ad blocks.length cp, .int .i64 (hp : Int)] 108)).grown hown2 hgrow hb hgl
        have K2 := (K.al (.cells #[.int .i64 kind, .string mon, .string name, .int .i64 n, .int .i64 eop, .string emon, .string ename, .int .i64 en, .slice ead ekids.length ecp, .int .i64 epos, .slice ad blocks.length cp, .int .i64 (hp : Int)] 108)).al (.cells #[.int .i64 kind, .string mon, .string name, .int .i64 n, .int .i64 eop, .string emon, .string ename, .int .i64 en, .slice ead ekids.length ecp, .int .i64 epos, .slice ad blocks.length cp, .int .i64 (hp : Int)] 108)
        have K := grown_kp K2 hown2 hgrow (Nat.le_refl _)
        have hwh2 : v'.ownBlock = u3.ownBlock ∨ v'.ownBlock = some (((u2.alloc (.cells #[.int .i64 kind, .string mon, .string name, .int .i64 n, .int .i64 eop, .string emon, .string ename, .int .i64 en, .slice ead ekids.length ecp, .int .i64 epos, .slice ad blocks.length cp, .int .i64 (hp : Int)] 108)).alloc (.cells #[.int .i64 kind, .string mon, .string name, .int .i64 n, .int .i64 eop, .string emon, .string ename, .int .i64 en, .slice ead ekids.length ecp, .int .i64 epos, .slice ad blocks.length cp, .int .i64 (hp : Int)] 108)).heap.size) := by simpa using hwh
        have hel2 : ∀ x ∈ l, x.By (but w.heap.size v') u4 := fun x hx => grow_by (B := fun Q w => x.By Q w) (fun _ _ _ h1 h2 => St.By.kq h1 h2) (fun _ _ _ h1 h2 => St.By.weak h1 h2) (St.By.kq (hel x hx) (((Kq.refl _ _).al _).al _)) hgrow hwh2
        have hnew : (St.mk kind mon name n (.mk eop emon ename en ead ecp ekids epos) ad cp blocks (hp : Int)).By (but w.heap.size v') u4 := by
          refine grow_by (B := fun Q w => (St.mk kind mon name n (.mk eop emon ename en ead ecp ekids epos) ad cp blocks (hp : Int)).By Q w) (fun _ _ _ h1 h2 => St.By.kq h1 h2) (fun _ _ _ h1 h2 => St.By.weak h1 h2) ?_ hgrow hwh2
          refine St.By.kq (St.By.weak (StBy.pos hBy (i64_nat hfit)) (fun k hk _ => but_iff.2 ⟨Nat.le_trans hzu (from_iff.1 hk), fun e1 => ?_⟩)) (((Kq.refl _ _).al _).al _)
          have h1 := (hown1.lt k e1).2
          have h2 := from_iff.1 hk
          omega
        have HX : Hid ((St.mk kind mon name n (.mk eop emon ename en ead ecp ekids epos) ad cp blocks (hp : Int)).clr = stAt res.1 hp) := by
          show _ = _
          rw [← hclr]; rfl
        clear hgrow hown hown1 hown2 hBy hwh hwh2 hel K2 hclr hread htok hO
        go_wp2_with (go_at_call 181; (with_reducible refine (h181 _ A).mono ?_); rintro r u5 ⟨rfl, b5⟩)
        go_roundg res.2.rest.length
        case measure => have := HG.out; have := HLR.out.2; omega
        case rel =>
          refine ⟨l ++ [.mk kind mon name n (.mk eop emon ename en ead ecp ekids epos) ad cp blocks (hp : Int)], fi - 1, res.2, rfl, rfl, ?_, ?_, A.below b5, K.tr b5, ?_, ?_, ?_, ?_⟩
          · rw [List.length_append, List.flatMap_append]
            exact owns_below hown' b5
          · intro x hx
            rcases List.mem_append.1 hx with hx | hx
            · exact St.By.kq (hel2 x hx) ((Kq.refl _ _).bel b5)
            · rw [List.mem_singleton.1 hx]; exact St.By.kq hnew ((Kq.refl _ _).bel b5)
          · show _ = _
            rw [HL2.out, List.map_append, List.map_cons, List.map_nil, HX.out]
          · have := HF2.out; have := HLR.out; omega
          · have := HF2.out; omega
          · exact ⟨HLR.out.1, by rw [List.length_append, List.length_singleton]; have := HLR.out.2; have := HLe.out.2; omega⟩
      · go_wp2_with (first
          | (go_at_call 62; (with_reducible refine (htok _ A).mono ?_); rintro r u1 ⟨rfl, b2⟩; have A := A.below b2; have K := K.tr b2; have hown := owns_below hown b2; have hO := hO.below b2; have hzu := K.size; have hown1 := hown; have hel : ∀ x ∈ l, x.By (but w.heap.size _) u1 := fun x hx => St.By.kq (hel x hx) ((Kq.refl _ _).bel b2))
          | (go_at_call 181; (with_reducible refine (h181 _ A).mono ?_); rintro r u5 ⟨rfl, b5⟩)
          | ((with_reducible refine (hread _ A hO).mono ?_); rintro r u2 ⟨kind, mon, name, n, eop, emon, ename, en, ead, ecp, ekids, epos, ad, cp, blocks, pos, rfl, hclr, hBy, A, k⟩; have K := K.trans k; have hown := owns_kp hown k hb; have hO := hO.kp k hb2; have hzv := K.size; have hel : ∀ x ∈ l, x.By (but w.heap.size _) u2 := fun x hx => St.By.kq (hel x hx) ((Kq.refl _ _).kp k (but_lt hb)))
          | (at_builtin; refine wpList_append_own2 rfl _ _ 60 rfl w.heap.size 108 i0 (.agg #[.int .i64 0, .string ⟨#[]⟩, .string ⟨#[]⟩, .int .i64 0, .int .i64 0, .string ⟨#[]⟩, .string ⟨#[]⟩, .int .i64 0, .slice none 0 0, .int .i64 0, .slice none 0 0, .int .i64 0]) 12 160 Tryz.underlying60 hi hz0 hz1 hz2 rfl (by decide) _ _ _ rfl ((hown.alloc _).alloc _) ⟨u2.heap.size + 1, 0, none⟩ 1 1 (#[.int .i64 kind, .string mon, .string name, .int .i64 n, .int .i64 eop, .string emon, .string ename, .int .i64 en, .slice ead ekids.length ecp, .int .i64 epos, .slice ad blocks.length cp, .int .i64 (hp : Int)]).toList rfl rfl (news_of (newB' _ _ _ _ (by simp))) ?c1 (by decide) ?c2 ?c3 ?c4 ?_))
        case c1 => exact ⟨rfl, rfl, rfl, rfl, rfl, rfl, rfl, rfl, rfl, rfl, rfl, rfl⟩
        case c2 => unfold maxLen; omega
        case c3 => omega
        case c4 => simp; omega
        intro v' u4 hown' hgrow hwh
        have hown2 := (hown.alloc (.cells #[.int .i64 kind, .string mon, .string name, .int .i64 n, .int .i64 eop, .string emon, .string ename, .int .i64 en, .slice ead ekids.length ecp, .int .i64 epos, .slice ad blocks.length cp, .int .i64 (hp : Int)] 108)).alloc (.cells #[.int .i64 kind, .string mon, .string name, .int .i64 n, .int .i64 eop, .string emon, .string ename, .int .i64 en, .slice ead ekids.length ecp, .int .i64 epos, .slice ad blocks.length cp, .int .i64 (hp : Int)] 108)
        have A := ((A.al (.cells #[.int .i64 kind, .string mon, .string name, .int .i64 n, .int .i64 eop, .string emon, .string ename, .int .i64 en, .slice ead ekids.length ecp, .int .i64 epos, .slice ad blocks.length cp, .int .i64 (hp : Int)] 108)).al (.cells #[.int .i64 kind, .string mon, .string name, .int .i64 n, .int .i64 eop, .string emon, .string ename, .int .i64 en, .slice ead ekids.length ecp, .int .i64 epos, .slice ad blocks.length cp, .int .i64 (hp : Int)] 108)).grown hown2 hgrow hb hgl
        have K2 := (K.al (.cells #[.int .i64 kind, .string mon, .string name, .int .i64 n, .int .i64 eop, .string emon, .string ename, .int .i64 en, .slice ead ekids.length ecp, .int .i64 epos, .slice ad blocks.length cp, .int .i64 (hp : Int)] 108)).al (.cells #[.int .i64 kind, .string mon, .string name, .int .i64 n, .int .i64 eop, .string emon, .string ename, .int .i64 en, .slice ead ekids.length ecp, .int .i64 epos, .slice ad blocks.length cp, .int .i64 (hp : Int)] 108)
        have K := grown_kp K2 hown2 hgrow (Nat.le_refl _)
        have hwh2 : v'.ownBlock = u3.ownBlock ∨ v'.ownBlock = some (((u2.alloc (.cells #[.int .i64 kind, .string mon, .string name, .int .i64 n, .int .i64 eop, .string emon, .string ename, .int .i64 en, .slice ead ekids.length ecp, .int .i64 epos, .slice ad blocks.length cp, .int .i64 (hp : Int)] 108)).alloc (.cells #[.int .i64 kind, .string mon, .string name, .int .i64 n, .int .i64 eop, .string emon, .string ename, .int .i64 en, .slice ead ekids.length ecp, .int .i64 epos, .slice ad blocks.length cp, .int .i64 (hp : Int)] 108)).heap.size) := by simpa using hwh
        have hel2 : ∀ x ∈ l, x.By (but w.heap.size v') u4 := fun x hx => grow_by (B := fun Q w => x.By Q w) (fun _ _ _ h1 h2 => St.By.kq h1 h2) (fun _ _ _ h1 h2 => St.By.weak h1 h2) (St.By.kq (hel x hx) (((Kq.refl _ _).al _).al _)) hgrow hwh2
        have hnew : (St.mk kind mon name n (.mk eop emon ename en ead ecp ekids epos) ad cp blocks (hp : Int)).By (but w.heap.size v') u4 := by
          refine grow_by (B := fun Q w => (St.mk kind mon name n (.mk eop emon ename en ead ecp ekids epos) ad cp blocks (hp : Int)).By Q w) (fun _ _ _ h1 h2 => St.By.kq h1 h2) (fun _ _ _ h1 h2 => St.By.weak h1 h2) ?_ hgrow hwh2
          refine St.By.kq (St.By.weak (StBy.pos hBy (i64_nat hfit)) (fun k hk _ => but_iff.2 ⟨Nat.le_trans hzu (from_iff.1 hk), fun e1 => ?_⟩)) (((Kq.refl _ _).al _).al _)
          have h1 := (hown1.lt k e1).2
          have h2 := from_iff.1 hk
          omega
        have HX : Hid ((St.mk kind mon name n (.mk eop emon ename en ead ecp ekids epos) ad cp blocks (hp : Int)).clr = stAt res.1 hp) := by
          show _ = _
          rw [← hclr]; rfl
        clear hgrow hown hown1 hown2 hBy hwh hwh2 hel K2 hclr hread htok hO
        go_wp2_with (go_at_call 181; (with_reducible refine (h181 _ A).mono ?_); rintro r u5 ⟨rfl, b5⟩)
        go_roundg res.2.rest.length
        case measure => have := HG.out; have := HLR.out.2; omega
        case rel =>
          refine ⟨l ++ [.mk kind mon name n (.mk eop emon ename en ead ecp ekids epos) ad cp blocks (hp : Int)], fi - 1, res.2, rfl, rfl, ?_, ?_, A.below b5, K.tr b5, ?_, ?_, ?_, ?_⟩
          · rw [List.length_append, List.flatMap_append]
            exact owns_below hown' b5
          · intro x hx
            rcases List.mem_append.1 hx with hx | hx
            · exact St.By.kq (hel2 x hx) ((Kq.refl _ _).bel b5)
            · rw [List.mem_singleton.1 hx]; exact St.By.kq hnew ((Kq.refl _ _).bel b5)
          · show _ = _
            rw [HL2.out, List.map_append, List.map_cons, List.map_nil, HX.out]
          · have := HF2.out; have := HLR.out; omega
          · have := HF2.out; omega
          · exact ⟨HLR.out.1, by rw [List.length_append, List.length_singleton]; have := HLR.out.2; have := HLe.out.2; omega⟩
      · go_wp2_with (first
          | (go_at_call 62; (with_reducible refine (htok _ A).mono ?_); rintro r u1 ⟨rfl, b2⟩; have A := A.below b2; have K := K.tr b2; have hown := owns_below hown b2; have hO := hO.below b2; have hzu := K.size; have hown1 := hown; have hel : ∀ x ∈ l, x.By (but w.heap.size _) u1 := fun x hx => St.By.kq (hel x hx) ((Kq.refl _ _).bel b2))
          | (go_at_call 181; (with_reducible refine (h181 _ A).mono ?_); rintro r u5 ⟨rfl, b5⟩)
          | ((with_reducible refine (hread _ A hO).mono ?_); rintro r u2 ⟨kind, mon, name, n, eop, emon, ename, en, ead, ecp, ekids, epos, ad, cp, blocks, pos, rfl, hclr, hBy, A, k⟩; have K := K.trans k; have hown := owns_kp hown k hb; have hO := hO.kp k hb2; have hzv := K.size; have hel : ∀ x ∈ l, x.By (but w.heap.size _) u2 := fun x hx => St.By.kq (hel x hx) ((Kq.refl _ _).kp k (but_lt hb)))
          | (at_builtin; refine wpList_append_own2 rfl _ _ 60 rfl w.heap.size 108 i0 (.agg #[.int .i64 0, .string ⟨#[]⟩, .string ⟨#[]⟩, .int .i64 0, .int .i64 0, .string ⟨#[]⟩, .string ⟨#[]⟩, .int .i64 0, .slice none 0 0, .int .i64 0, .slice none 0 0, .int .i64 0]) 12 160 Tryz.underlying60 hi hz0 hz1 hz2 rfl (by decide) _ _ _ rfl ((hown.alloc _).alloc _) ⟨u2.heap.size + 1, 0, none⟩ 1 1 (#[.int .i64 kind, .string mon, .string name, .int .i64 n, .int .i64 eop, .string emon, .string ename, .int .i64 en, .slice ead ekids.length ecp, .int .i64 epos, .slice ad blocks.length cp, .int .i64 (hp : Int)]).toList rfl rfl (news_of (newB' _ _ _ _ (by simp))) ?c1 (by decide) ?c2 ?c3 ?c4 ?_))
        case c1 => exact ⟨rfl, rfl, rfl, rfl, rfl, rfl, rfl, rfl, rfl, rfl, rfl, rfl⟩
        case c2 => unfold maxLen; omega
        case c3 => omega
        case c4 => simp; omega
        intro v' u4 hown' hgrow hwh
        have hown2 := (hown.alloc (.cells #[.int .i64 kind, .string mon, .string name, .int .i64 n, .int .i64 eop, .string emon, .string ename, .int .i64 en, .slice ead ekids.length ecp, .int .i64 epos, .slice ad blocks.length cp, .int .i64 (hp : Int)] 108)).alloc (.cells #[.int .i64 kind, .string mon, .string name, .int .i64 n, .int .i64 eop, .string emon, .string ename, .int .i64 en, .slice ead ekids.length ecp, .int .i64 epos, .slice ad blocks.length cp, .int .i64 (hp : Int)] 108)
        have A := ((A.al (.cells #[.int .i64 kind, .string mon, .string name, .int .i64 n, .int .i64 eop, .string emon, .string ename, .int .i64 en, .slice ead ekids.length ecp, .int .i64 epos, .slice ad blocks.length cp, .int .i64 (hp : Int)] 108)).al (.cells #[.int .i64 kind, .string mon, .string name, .int .i64 n, .int .i64 eop, .string emon, .string ename, .int .i64 en, .slice ead ekids.length ecp, .int .i64 epos, .slice ad blocks.length cp, .int .i64 (hp : Int)] 108)).grown hown2 hgrow hb hgl
        have K2 := (K.al (.cells #[.int .i64 kind, .string mon, .string name, .int .i64 n, .int .i64 eop, .string emon, .string ename, .int .i64 en, .slice ead ekids.length ecp, .int .i64 epos, .slice ad blocks.length cp, .int .i64 (hp : Int)] 108)).al (.cells #[.int .i64 kind, .string mon, .string name, .int .i64 n, .int .i64 eop, .string emon, .string ename, .int .i64 en, .slice ead ekids.length ecp, .int .i64 epos, .slice ad blocks.length cp, .int .i64 (hp : Int)] 108)
        have K := grown_kp K2 hown2 hgrow (Nat.le_refl _)
        have hwh2 : v'.ownBlock = u3.ownBlock ∨ v'.ownBlock = some (((u2.alloc (.cells #[.int .i64 kind, .string mon, .string name, .int .i64 n, .int .i64 eop, .string emon, .string ename, .int .i64 en, .slice ead ekids.length ecp, .int .i64 epos, .slice ad blocks.length cp, .int .i64 (hp : Int)] 108)).alloc (.cells #[.int .i64 kind, .string mon, .string name, .int .i64 n, .int .i64 eop, .string emon, .string ename, .int .i64 en, .slice ead ekids.length ecp, .int .i64 epos, .slice ad blocks.length cp, .int .i64 (hp : Int)] 108)).heap.size) := by simpa using hwh
        have hel2 : ∀ x ∈ l, x.By (but w.heap.size v') u4 := fun x hx => grow_by (B := fun Q w => x.By Q w) (fun _ _ _ h1 h2 => St.By.kq h1 h2) (fun _ _ _ h1 h2 => St.By.weak h1 h2) (St.By.kq (hel x hx) (((Kq.refl _ _).al _).al _)) hgrow hwh2
        have hnew : (St.mk kind mon name n (.mk eop emon ename en ead ecp ekids epos) ad cp blocks (hp : Int)).By (but w.heap.size v') u4 := by
          refine grow_by (B := fun Q w => (St.mk kind mon name n (.mk eop emon ename en ead ecp ekids epos) ad cp blocks (hp : Int)).By Q w) (fun _ _ _ h1 h2 => St.By.kq h1 h2) (fun _ _ _ h1 h2 => St.By.weak h1 h2) ?_ hgrow hwh2
          refine St.By.kq (St.By.weak (StBy.pos hBy (i64_nat hfit)) (fun k hk _ => but_iff.2 ⟨Nat.le_trans hzu (from_iff.1 hk), fun e1 => ?_⟩)) (((Kq.refl _ _).al _).al _)
          have h1 := (hown1.lt k e1).2
          have h2 := from_iff.1 hk
          omega
        have HX : Hid ((St.mk kind mon name n (.mk eop emon ename en ead ecp ekids epos) ad cp blocks (hp : Int)).clr = stAt res.1 hp) := by
          show _ = _
          rw [← hclr]; rfl
        clear hgrow hown hown1 hown2 hBy hwh hwh2 hel K2 hclr hread htok hO
        go_wp2_with (go_at_call 181; (with_reducible refine (h181 _ A).mono ?_); rintro r u5 ⟨rfl, b5⟩)
        go_roundg res.2.rest.length
        case measure => have := HG.out; have := HLR.out.2; omega
        case rel =>
          refine ⟨l ++ [.mk kind mon name n (.mk eop emon ename en ead ecp ekids epos) ad cp blocks (hp : Int)], fi - 1, res.2, rfl, rfl, ?_, ?_, A.below b5, K.tr b5, ?_, ?_, ?_, ?_⟩
          · rw [List.length_append, List.flatMap_append]
            exact owns_below hown' b5
          · intro x hx
            rcases List.mem_append.1 hx with hx | hx
            · exact St.By.kq (hel2 x hx) ((Kq.refl _ _).bel b5)
            · rw [List.mem_singleton.1 hx]; exact St.By.kq hnew ((Kq.refl _ _).bel b5)
          · show _ = _
            rw [HL2.out, List.map_append, List.map_cons, List.map_nil, HX.out]
          · have := HF2.out; have := HLR.out; omega
          · have := HF2.out; omega
          · exact ⟨HLR.out.1, by rw [List.length_append, List.length_singleton]; have := HLR.out.2; have := HLe.out.2; omega⟩
      · go_wp2_with (first
          | (go_at_call 62; (with_reducible refine (htok _ A).mono ?_); rintro r u1 ⟨rfl, b2⟩; have A := A.below b2; have K := K.tr b2; have hown := owns_below hown b2; have hO := hO.below b2; have hzu := K.size; have hown1 := hown; have hel : ∀ x ∈ l, x.By (but w.heap.size _) u1 := fun x hx => St.By.kq (hel x hx) ((Kq.refl _ _).bel b2))
          | (go_at_call 181; (with_reducible refine (h181 _ A).mono ?_); rintro r u5 ⟨rfl, b5⟩)
          | ((with_reducible refine (hread _ A hO).mono ?_); rintro r u2 ⟨kind, mon, name, n, eop, emon, ename, en, ead, ecp, ekids, epos, ad, cp, blocks, pos, rfl, hclr, hBy, A, k⟩; have K := K.trans k; have hown := owns_kp hown k hb; have hO := hO.kp k hb2; have hzv := K.size; have hel : ∀ x ∈ l, x.By (but w.heap.size _) u2 := fun x hx => St.By.kq (hel x hx) ((Kq.refl _ _).kp k (but_lt hb)))
          | (at_builtin; refine wpList_append_own2 rfl _ _ 60 rfl w.heap.size 108 i0 (.agg #[.int .i64 0, .string ⟨#[]⟩, .string ⟨#[]⟩, .int .i64 0, .int .i64 0, .string ⟨#[]⟩, .string ⟨#[]⟩, .int .i64 0, .slice none 0 0, .int .i64 0, .slice none 0 0, .int .i64 0]) 12 160 Tryz.underlying60 hi hz0 hz1 hz2 rfl (by decide) _ _ _ rfl ((hown.alloc _).alloc _) ⟨u2.heap.size + 1, 0, none⟩ 1 1 (#[.int .i64 kind, .string mon, .string name, .int .i64 n, .int .i64 eop, .string emon, .string ename, .int .i64 en, .slice ead ekids.length ecp, .int .i64 epos, .slice ad blocks.length cp, .int .i64 (hp : Int)]).toList rfl rfl (news_of (newB' _ _ _ _ (by simp))) ?c1 (by decide) ?c2 ?c3 ?c4 ?_))
        case c1 => exact ⟨rfl, rfl, rfl, rfl, rfl, rfl, rfl, rfl, rfl, rfl, rfl, rfl⟩
        case c2 => unfold maxLen; omega
        case c3 => omega
        case c4 => simp; omega
        intro v' u4 hown' hgrow hwh
        have hown2 := (hown.alloc (.cells #[.int .i64 kind, .string mon, .string name, .int .i64 n, .int .i64 eop, .string emon, .string ename, .int .i64 en, .slice ead ekids.length ecp, .int .i64 epos, .slice ad blocks.length cp, .int .i64 (hp : Int)] 108)).alloc (.cells #[.int .i64 kind, .string mon, .string name, .int .i64 n, .int .i64 eop, .string emon, .string ename, .int .i64 en, .slice ead ekids.length ecp, .int .i64 epos, .slice ad blocks.length cp, .int .i64 (hp : Int)] 108)
        have A := ((A.al (.cells #[.int .i64 kind, .string mon, .string name, .int .i64 n, .int .i64 eop, .string emon, .string ename, .int .i64 en, .slice ead ekids.length ecp, .int .i64 epos, .slice ad blocks.length cp, .int .i64 (hp : Int)] 108)).al (.cells #[.int .i64 kind, .string mon, .string name, .int .i64 n, .int .i64 eop, .string emon, .string ename, .int .i64 en, .slice ead ekids.length ecp, .int .i64 epos, .slice ad blocks.length cp, .int .i64 (hp : Int)] 108)).grown hown2 hgrow hb hgl
        have K2 := (K.al (.cells #[.int .i64 kind, .string mon, .string name, .int .i64 n, .int .i64 eop, .string emon, .string ename, .int .i64 en, .slice ead ekids.length ecp, .int .i64 epos, .slice ad blocks.length cp, .int .i64 (hp : Int)] 108)).al (.cells #[.int .i64 kind, .string mon, .string name, .int .i64 n, .int .i64 eop, .string emon, .string ename, .int .i64 en, .slice ead ekids.length ecp, .int .i64 epos, .slice ad blocks.length cp, .int .i64 (hp : Int)] 108)
        have K := grown_kp K2 hown2 hgrow (Nat.le_refl _)
        have hwh2 : v'.ownBlock = u3.ownBlock ∨ v'.ownBlock = some (((u2.alloc (.cells #[.int .i64 kind, .string mon, .string name, .int .i64 n, .int .i64 eop, .string emon, .string ename, .int .i64 en, .slice ead ekids.length ecp, .int .i64 epos, .slice ad blocks.length cp, .int .i64 (hp : Int)] 108)).alloc (.cells #[.int .i64 kind, .string mon, .string name, .int .i64 n, .int .i64 eop, .string emon, .string ename, .int .i64 en, .slice ead ekids.length ecp, .int .i64 epos, .slice ad blocks.length cp, .int .i64 (hp : Int)] 108)).heap.size) := by simpa using hwh
        have hel2 : ∀ x ∈ l, x.By (but w.heap.size v') u4 := fun x hx => grow_by (B := fun Q w => x.By Q w) (fun _ _ _ h1 h2 => St.By.kq h1 h2) (fun _ _ _ h1 h2 => St.By.weak h1 h2) (St.By.kq (hel x hx) (((Kq.refl _ _).al _).al _)) hgrow hwh2
        have hnew : (St.mk kind mon name n (.mk eop emon ename en ead ecp ekids epos) ad cp blocks (hp : Int)).By (but w.heap.size v') u4 := by
          refine grow_by (B := fun Q w => (St.mk kind mon name n (.mk eop emon ename en ead ecp ekids epos) ad cp blocks (hp : Int)).By Q w) (fun _ _ _ h1 h2 => St.By.kq h1 h2) (fun _ _ _ h1 h2 => St.By.weak h1 h2) ?_ hgrow hwh2
          refine St.By.kq (St.By.weak (StBy.pos hBy (i64_nat hfit)) (fun k hk _ => but_iff.2 ⟨Nat.le_trans hzu (from_iff.1 hk), fun e1 => ?_⟩)) (((Kq.refl _ _).al _).al _)
          have h1 := (hown1.lt k e1).2
          have h2 := from_iff.1 hk
          omega
        have HX : Hid ((St.mk kind mon name n (.mk eop emon ename en ead ecp ekids epos) ad cp blocks (hp : Int)).clr = stAt res.1 hp) := by
          show _ = _
          rw [← hclr]; rfl
        clear hgrow hown hown1 hown2 hBy hwh hwh2 hel K2 hclr hread htok hO
        go_wp2_with (go_at_call 181; (with_reducible refine (h181 _ A).mono ?_); rintro r u5 ⟨rfl, b5⟩)
        go_roundg res.2.rest.length
        case measure => have := HG.out; have := HLR.out.2; omega
        case rel =>
          refine ⟨l ++ [.mk kind mon name n (.mk eop emon ename en ead ecp ekids epos) ad cp blocks (hp : Int)], fi - 1, res.2, rfl, rfl, ?_, ?_, A.below b5, K.tr b5, ?_, ?_, ?_, ?_⟩
          · rw [List.length_append, List.flatMap_append]
            exact owns_below hown' b5
          · intro x hx
            rcases List.mem_append.1 hx with hx | hx
            · exact St.By.kq (hel2 x hx) ((Kq.refl _ _).bel b5)
            · rw [List.mem_singleton.1 hx]; exact St.By.kq hnew ((Kq.refl _ _).bel b5)
          · show _ = _
            rw [HL2.out, List.map_append, List.map_cons, List.map_nil, HX.out]
          · have := HF2.out; have := HLR.out; omega
          · have := HF2.out; omega
          · exact ⟨HLR.out.1, by rw [List.length_append, List.length_singleton]; have := HLR.out.2; have := HLe.out.2; omega⟩
      · go_wp2_with (first
          | (go_at_call 62; (with_reducible refine (htok _ A).mono ?_); rintro r u1 ⟨rfl, b2⟩; have A := A.below b2; have K := K.tr b2; have hown := owns_below hown b2; have hO := hO.below b2; have hzu := K.size; have hown1 := hown; have hel : ∀ x ∈ l, x.By (but w.heap.size _) u1 := fun x hx => St.By.kq (hel x hx) ((Kq.refl _ _).bel b2))
          | (go_at_call 181; (with_reducible refine (h181 _ A).mono ?_); rintro r u5 ⟨rfl, b5⟩)
          | ((with_reducible refine (hread _ A hO).mono ?_); rintro r u2 ⟨kind, mon, name, n, eop, emon, ename, en, ead, ecp, ekids, epos, ad, cp, blocks, pos, rfl, hclr, hBy, A, k⟩; have K := K.trans k; have hown := owns_kp hown k hb; have hO := hO.kp k hb2; have hzv := K.size; have hel : ∀ x ∈ l, x.By (but w.heap.size _) u2 := fun x hx => St.By.kq (hel x hx) ((Kq.refl _ _).kp k (but_lt hb)))
          | (at_builtin; refine wpList_append_own2 rfl _ _ 60 rfl w.heap.size 108 i0 (.agg #[.int .i64 0, .string ⟨#[]⟩, .string ⟨#[]⟩, .int .i64 0, .int .i64 0, .string ⟨#[]⟩, .string ⟨#[]⟩, .int .i64 0, .slice none 0 0, .int .i64 0, .slice none 0 0, .int .i64 0]) 12 160 Tryz.underlying60 hi hz0 hz1 hz2 rfl (by decide) _ _ _ rfl ((hown.alloc _).alloc _) ⟨u2.heap.size + 1, 0, none⟩ 1 1 (#[.int .i64 kind, .string mon, .string name, .int .i64 n, .int .i64 eop, .string emon, .string ename, .int .i64 en, .slice ead ekids.length ecp, .int .i64 epos, .slice ad blocks.length cp, .int .i64 (hp : Int)]).toList rfl rfl (news_of (newB' _ _ _ _ (by simp))) ?c1 (by decide) ?c2 ?c3 ?c4 ?_))
        case c1 => exact ⟨rfl, rfl, rfl, rfl, rfl, rfl, rfl, rfl, rfl, rfl, rfl, rfl⟩
        case c2 => unfold maxLen; omega
        case c3 => omega
        case c4 => simp; omega
        intro v' u4 hown' hgrow hwh
        have hown2 := (hown.alloc (.cells #[.int .i64 kind, .string mon, .string name, .int .i64 n, .int .i64 eop, .string emon, .string ename, .int .i64 en, .slice ead ekids.length ecp, .int .i64 epos, .slice ad blocks.length cp, .int .i64 (hp : Int)] 108)).alloc (.cells #[.int .i64 kind, .string mon, .string name, .int .i64 n, .int .i64 eop, .string emon, .string ename, .int .i64 en, .slice ead ekids.length ecp, .int .i64 epos, .slice ad blocks.length cp, .int .i64 (hp : Int)] 108)
        have A := ((A.al (.cells #[.int .i64 kind, .string mon, .string name, .int .i64 n, .int .i64 eop, .string emon, .string ename, .int .i64 en, .slice ead ekids.length ecp, .int .i64 epos, .slice ad blocks.length cp, .int .i64 (hp : Int)] 108)).al (.cells #[.int .i64 kind, .string mon, .string name, .int .i64 n, .int .i64 eop, .string emon, .string ename, .int .i64 en, .slice ead ekids.length ecp, .int .i64 epos, .slice ad blocks.length cp, .int .i64 (hp : Int)] 108)).grown hown2 hgrow hb hgl
        have K2 := (K.al (.cells #[.int .i64 kind, .string mon, .string name, .int .i64 n, .int .i64 eop, .string emon, .string ename, .int .i64 en, .slice ead ekids.length ecp, .int .i64 epos, .slice ad blocks.length cp, .int .i64 (hp : Int)] 108)).al (.cells #[.int .i64 kind, .string mon, .string name, .int .i64 n, .int .i64 eop, .string emon, .string ename, .int .i64 en, .slice ead ekids.length ecp, .int .i64 epos, .slice ad blocks.length cp, .int .i64 (hp : Int)] 108)
        have K := grown_kp K2 hown2 hgrow (Nat.le_refl _)
        have hwh2 : v'.ownBlock = u3.ownBlock ∨ v'.ownBlock = some (((u2.alloc (.cells #[.int .i64 kind, .string mon, .string name, .int .i64 n, .int .i64 eop, .string emon, .string ename, .int .i64 en, .slice ead ekids.length ecp, .int .i64 epos, .slice ad blocks.length cp, .int .i64 (hp : Int)] 108)).alloc (.cells #[.int .i64 kind, .string mon, .string name, .int .i64 n, .int .i64 eop, .string emon, .string ename, .int .i64 en, .slice ead ekids.length ecp, .int .i64 epos, .slice ad blocks.length cp, .int .i64 (hp : Int)] 108)).heap.size) := by simpa using hwh
        have hel2 : ∀ x ∈ l, x.By (but w.heap.size v') u4 := fun x hx => grow_by (B := fun Q w => x.By Q w) (fun _ _ _ h1 h2 => St.By.kq h1 h2) (fun _ _ _ h1 h2 => St.By.weak h1 h2) (St.By.kq (hel x hx) (((Kq.refl _ _).al _).al _)) hgrow hwh2
        have hnew : (St.mk kind mon name n (.mk eop emon ename en ead ecp ekids epos) ad cp blocks (hp : Int)).By (but w.heap.size v') u4 := by
          refine grow_by (B := fun Q w => (St.mk kind mon name n (.mk eop emon ename en ead ecp ekids epos) ad cp blocks (hp : Int)).By Q w) (fun _ _ _ h1 h2 => St.By.kq h1 h2) (fun _ _ _ h1 h2 => St.By.weak h1 h2) ?_ hgrow hwh2
          refine St.By.kq (St.By.weak (StBy.pos hBy (i64_nat hfit)) (fun k hk _ => but_iff.2 ⟨Nat.le_trans hzu (from_iff.1 hk), fun e1 => ?_⟩)) (((Kq.refl _ _).al _).al _)
          have h1 := (hown1.lt k e1).2
          have h2 := from_iff.1 hk
          omega
        have HX : Hid ((St.mk kind mon name n (.mk eop emon ename en ead ecp ekids epos) ad cp blocks (hp : Int)).clr = stAt res.1 hp) := by
          show _ = _
          rw [← hclr]; rfl
        clear hgrow hown hown1 hown2 hBy hwh hwh2 hel K2 hclr hread htok hO
        go_wp2_with (go_at_call 181; (with_reducible refine (h181 _ A).mono ?_); rintro r u5 ⟨rfl, b5⟩)
        go_roundg res.2.rest.length
        case measure => have := HG.out; have := HLR.out.2; omega
        case rel =>
          refine ⟨l ++ [.mk kind mon name n (.mk eop emon ename en ead ecp ekids epos) ad cp blocks (hp : Int)], fi - 1, res.2, rfl, rfl, ?_, ?_, A.below b5, K.tr b5, ?_, ?_, ?_, ?_⟩
          · rw [List.length_append, List.flatMap_append]
            exact owns_below hown' b5
          · intro x hx
            rcases List.mem_append.1 hx with hx | hx
            · exact St.By.kq (hel2 x hx) ((Kq.refl _ _).bel b5)
            · rw [List.mem_singleton.1 hx]; exact St.By.kq hnew ((Kq.refl _ _).bel b5)
          · show _ = _
            rw [HL2.out, List.map_append, List.map_cons, List.map_nil, HX.out]
          · have := HF2.out; have := HLR.out; omega
          · have := HF2.out; omega
          · exact ⟨HLR.out.1, by rw [List.length_append, List.length_singleton]; have := HLR.out.2; have := HLe.out.2; omega⟩
      · go_wp2_with (first
          | (go_at_call 62; (with_reducible refine (htok _ A).mono ?_); rintro r u1 ⟨rfl, b2⟩; have A := A.below b2; have K := K.tr b2; have hown := owns_below hown b2; have hO := hO.below b2; have hzu := K.size; have hown1 := hown; have hel : ∀ x ∈ l, x.By (but w.heap.size _) u1 := fun x hx => St.By.kq (hel x hx) ((Kq.refl _ _).bel b2))
          | (go_at_call 181; (with_reducible refine (h181 _ A).mono ?_); rintro r u5 ⟨rfl, b5⟩)
          | ((with_reducible refine (hread _ A hO).mono ?_); rintro r u2 ⟨kind, mon, name, n, eop, emon, ename, en, ead, ecp, ekids, epos, ad, cp, blocks, pos, rfl, hclr, hBy, A, k⟩; have K := K.trans k; have hown := owns_kp hown k hb; have hO := hO.kp k hb2; have hzv := K.size; have hel : ∀ x ∈ l, x.By (but w.heap.size _) u2 := fun x hx => St.By.kq (hel x hx) ((Kq.refl _ _).kp k (but_lt hb)))
          | (at_builtin; refine wpList_append_own2 rfl _ _ 60 rfl w.heap.size 108 i0 (.agg #[.int .i64 0, .string ⟨#[]⟩, .string ⟨#[]⟩, .int .i64 0, .int .i64 0, .string ⟨#[]⟩, .string ⟨#[]⟩, .int .i64 0, .slice none 0 0, .int .i64 0, .slice none 0 0, .int .i64 0]) 12 160 Tryz.underlying60 hi hz0 hz1 hz2 rfl (by decide) _ _ _ rfl ((hown.alloc _).alloc _) ⟨u2.heap.size + 1, 0, none⟩ 1 1 (#[.int .i64 kind, .string mon, .string name, .int .i64 n, .int .i64 eop, .string emon, .string ename, .int .i64 en, .slice ead ekids.length ecp, .int .i64 epos, .slice ad blocks.length cp, .int .i64 (hp : Int)]).toList rfl rfl (news_of (newB' _ _ _ _ (by simp))) ?c1 (by decide) ?c2 ?c3 ?c4 ?_))
        case c1 => exact ⟨rfl, rfl, rfl, rfl, rfl, rfl, rfl, rfl, rfl, rfl, rfl, rfl⟩
        case c2 => unfold maxLen; omega
        case c3 => omega
        case c4 => simp; omega
        intro v' u4 hown' hgrow hwh
        have hown2 := (hown.alloc (.cells #[.int .i64 kind, .string mon, .string name, .int .i64 n, .int .i64 eop, .string emon, .string ename, .int .i64 en, .slice ead ekids.length ecp, .int .i64 epos, .slice ad blocks.length cp, .int .i64 (hp : Int)] 108)).alloc (.cells #[.int .i64 kind, .string mon, .string name, .int .i64 n, .int .i64 eop, .string emon, .string ename, .int .i64 en, .slice ead ekids.length ecp, .int .i64 epos, .slice ad blocks.length cp, .int .i64 (hp : Int)] 108)
        have A := ((A.al (.cells #[.int .i64 kind, .string mon, .string name, .int .i64 n, .int .i64 eop, .string emon, .string ename, .int .i64 en, .slice ead ekids.length ecp, .int .i64 epos, .slice ad blocks.length cp, .int .i64 (hp : Int)] 108)).al (.cells #[.int .i64 kind, .string mon, .string name, .int .i64 n, .int .i64 eop, .string emon, .string ename, .int .i64 en, .slice ead ekids.length ecp, .int .i64 epos, .slice ad blocks.length cp, .int .i64 (hp : Int)] 108)).grown hown2 hgrow hb hgl
        have K2 := (K.al (.cells #[.int .i64 kind, .string mon, .string name, .int .i64 n, .int .i64 eop, .string emon, .string ename, .int .i64 en, .slice ead ekids.length ecp, .int .i64 epos, .slice ad blocks.length cp, .int .i64 (hp : Int)] 108)).al (.cells #[.int .i64 kind, .string mon, .string name, .int .i64 n, .int .i64 eop, .string emon, .string ename, .int .i64 en, .slice ead ekids.length ecp, .int .i64 epos, .slice ad blocks.length cp, .int .i64 (hp : Int)] 108)
        have K := grown_kp K2 hown2 hgrow (Nat.le_refl _)
        have hwh2 : v'.ownBlock = u3.ownBlock ∨ v'.ownBlock = some (((u2.alloc (.cells #[.int .i64 kind, .string mon, .string name, .int .i64 n, .int .i64 eop, .string emon, .string ename, .int .i64 en, .slice ead ekids.length ecp, .int .i64 epos, .slice ad blocks.length cp, .int .i64 (hp : Int)] 108)).alloc (.cells #[.int .i64 kind, .string mon, .string name, .int .i64 n, .int .i64 eop, .string emon, .string ename, .int .i64 en, .slice ead ekids.length ecp, .int .i64 epos, .slice ad blocks.length cp, .int .i64 (hp : Int)] 108)).heap.size) := by simpa using hwh
        have hel2 : ∀ x ∈ l, x.By (but w.heap.size v') u4 := fun x hx => grow_by (B := fun Q w => x.By Q w) (fun _ _ _ h1 h2 => St.By.kq h1 h2) (fun _ _ _ h1 h2 => St.By.weak h1 h2) (St.By.kq (hel x hx) (((Kq.refl _ _).al _).al _)) hgrow hwh2
        have hnew : (St.mk kind mon name n (.mk eop emon ename en ead ecp ekids epos) ad cp blocks (hp : Int)).By (but w.heap.size v') u4 := by
          refine grow_by (B := fun Q w => (St.mk kind mon name n (.mk eop emon ename en ead ecp ekids epos) ad cp blocks (hp : Int)).By Q w) (fun _ _ _ h1 h2 => St.By.kq h1 h2) (fun _ _ _ h1 h2 => St.By.weak h1 h2) ?_ hgrow hwh2
          refine St.By.kq (St.By.weak (StBy.pos hBy (i64_nat hfit)) (fun k hk _ => but_iff.2 ⟨Nat.le_trans hzu (from_iff.1 hk), fun e1 => ?_⟩)) (((Kq.refl _ _).al _).al _)
          have h1 := (hown1.lt k e1).2
          have h2 := from_iff.1 hk
          omega
        have HX : Hid ((St.mk kind mon name n (.mk eop emon ename en ead ecp ekids epos) ad cp blocks (hp : Int)).clr = stAt res.1 hp) := by
          show _ = _
          rw [← hclr]; rfl
        clear hgrow hown hown1 hown2 hBy hwh hwh2 hel K2 hclr hread htok hO
        go_wp2_with (go_at_call 181; (with_reducible refine (h181 _ A).mono ?_); rintro r u5 ⟨rfl, b5⟩)
        go_roundg res.2.rest.length
        case measure => have := HG.out; have := HLR.out.2; omega
        case rel =>
          refine ⟨l ++ [.mk kind mon name n (.mk eop emon ename en ead ecp ekids epos) ad cp blocks (hp : Int)], fi - 1, res.2, rfl, rfl, ?_, ?_, A.below b5, K.tr b5, ?_, ?_, ?_, ?_⟩
          · rw [List.length_append, List.flatMap_append]
            exact owns_below hown' b5
          · intro x hx
            rcases List.mem_append.1 hx with hx | hx
            · exact St.By.kq (hel2 x hx) ((Kq.refl _ _).bel b5)
            · rw [List.mem_singleton.1 hx]; exact St.By.kq hnew ((Kq.refl _ _).bel b5)
          · show _ = _
            rw [HL2.out, List.map_append, List.map_cons, List.map_nil, HX.out]
          · have := HF2.out; have := HLR.out; omega
          · have := HF2.out; omega
          · exact ⟨HLR.out.1, by rw [List.length_append, List.length_singleton]; have := HLR.out.2; have := HLe.out.2; omega⟩
      · go_wp2_with (first
          | (go_at_call 62; (with_reducible refine (htok _ A).mono ?_); rintro r u1 ⟨rfl, b2⟩; have A := A.below b2; have K := K.tr b2; have hown := owns_below hown b2; have hO := hO.below b2; have hzu := K.size; have hown1 := hown; have hel : ∀ x ∈ l, x.By (but w.heap.size _) u1 := fun x hx => St.By.kq (hel x hx) ((Kq.refl _ _).bel b2))
          | (go_at_call 181; (with_reducible refine (h181 _ A).mono ?_); rintro r u5 ⟨rfl, b5⟩)
          | ((with_reducible refine (hread _ A hO).mono ?_); rintro r u2 ⟨kind, mon, name, n, eop, emon, ename, en, ead, ecp, ekids, epos, ad, cp, blocks, pos, rfl, hclr, hBy, A, k⟩; have K := K.trans k; have hown := owns_kp hown k hb; have hO := hO.kp k hb2; have hzv := K.size; have hel : ∀ x ∈ l, x.By (but w.heap.size _) u2 := fun x hx => St.By.kq (hel x hx) ((Kq.refl _ _).kp k (but_lt hb)))
          | (at_builtin; refine wpList_append_own2 rfl _ _ 60 rfl w.heap.size 108 i0 (.agg #[.int .i64 0, .string ⟨#[]⟩, .string ⟨#[]⟩, .int .i64 0, .int .i64 0, .string ⟨#[]⟩, .string ⟨#[]⟩, .int .i64 0, .slice none 0 0, .int .i64 0, .slice none 0 0, .int .i64 0]) 12 160 Tryz.underlying60 hi hz0 hz1 hz2 rfl (by decide) _ _ _ rfl ((hown.alloc _).alloc _) ⟨u2.heap.size + 1, 0, none⟩ 1 1 (#[.int .i64 kind, .string mon, .string name, .int .i64 n, .int .i64 eop, .string emon, .string ename, .int .i64 en, .slice ead ekids.length ecp, .int .i64 epos, .slice ad blocks.length cp, .int .i64 (hp : Int)]).toList rfl rfl (news_of (newB' _ _ _ _ (by simp))) ?c1 (by decide) ?c2 ?c3 ?c4 ?_))
        case c1 => exact ⟨rfl, rfl, rfl, rfl, rfl, rfl, rfl, rfl, rfl, rfl, rfl, rfl⟩
        case c2 => unfold maxLen; omega
        case c3 => omega
        case c4 => simp; omega
        intro v' u4 hown' hgrow hwh
        have hown2 := (hown.alloc (.cells #[.int .i64 kind, .string mon, .string name, .int .i64 n, .int .i64 eop, .string emon, .string ename, .int .i64 en, .slice ead ekids.length ecp, .int .i64 epos, .slice ad blocks.length cp, .int .i64 (hp : Int)] 108)).alloc (.cells #[.int .i64 kind, .string mon, .string name, .int .i64 n, .int .i64 eop, .string emon, .string ename, .int .i64 en, .slice ead ekids.length ecp, .int .i64 epos, .slice ad blocks.length cp, .int .i64 (hp : Int)] 108)
        have A := ((A.al (.cells #[.int .i64 kind, .string mon, .string name, .int .i64 n, .int .i64 eop, .string emon, .string ename, .int .i64 en, .slice ead ekids.length ecp, .int .i64 epos, .slice ad blocks.length cp, .int .i64 (hp : Int)] 108)).al (.cells #[.int .i64 kind, .string mon, .string name, .int .i64 n, .int .i64 eop, .string emon, .string ename, .int .i64 en, .slice ead ekids.length ecp, .int .i64 epos, .slice ad blocks.length cp, .int .i64 (hp : Int)] 108)).grown hown2 hgrow hb hgl
        have K2 := (K.al (.cells #[.int .i64 kind, .string mon, .string name, .int .i64 n, .int .i64 eop, .string emon, .string ename, .int .i64 en, .slice ead ekids.length ecp, .int .i64 epos, .slice ad blocks.length cp, .int .i64 (hp : Int)] 108)).al (.cells #[.int .i64 kind, .string mon, .string name, .int .i64 n, .int .i64 eop, .string emon, .string ename, .int .i64 en, .slice ead ekids.length ecp, .int .i64 epos, .slice ad blocks.length cp, .int .i64 (hp : Int)] 108)
        have K := grown_kp K2 hown2 hgrow (Nat.le_refl _)
        have hwh2 : v'.ownBlock = u3.ownBlock ∨ v'.ownBlock = some (((u2.alloc (.cells #[.int .i64 kind, .string mon, .string name, .int .i64 n, .int .i64 eop, .string emon, .string ename, .int .i64 en, .slice ead ekids.length ecp, .int .i64 epos, .slice ad blocks.length cp, .int .i64 (hp : Int)] 108)).alloc (.cells #[.int .i64 kind, .string mon, .string name, .int .i64 n, .int .i64 eop, .string emon, .string ename, .int .i64 en, .slice ead ekids.length ecp, .int .i64 epos, .slice ad blocks.length cp, .int .i64 (hp : Int)] 108)).heap.size) := by simpa using hwh
        have hel2 : ∀ x ∈ l, x.By (but w.heap.size v') u4 := fun x hx => grow_by (B := fun Q w => x.By Q w) (fun _ _ _ h1 h2 => St.By.kq h1 h2) (fun _ _ _ h1 h2 => St.By.weak h1 h2) (St.By.kq (hel x hx) (((Kq.refl _ _).al _).al _)) hgrow hwh2
        have hnew : (St.mk kind mon name n (.mk eop emon ename en ead ecp ekids epos) ad cp blocks (hp : Int)).By (but w.heap.size v') u4 := by
          refine grow_by (B := fun Q w => (St.mk kind mon name n (.mk eop emon ename en ead ecp ekids epos) ad cp blocks (hp : Int)).By Q w) (fun _ _ _ h1 h2 => St.By.kq h1 h2) (fun _ _ _ h1 h2 => St.By.weak h1 h2) ?_ hgrow hwh2
          refine St.By.kq (St.By.weak (StBy.pos hBy (i64_nat hfit)) (fun k hk _ => but_iff.2 ⟨Nat.le_trans hzu (from_iff.1 hk), fun e1 => ?_⟩)) (((Kq.refl _ _).al _).al _)
          have h1 := (hown1.lt k e1).2
          have h2 := from_iff.1 hk
          omega
        have HX : Hid ((St.mk kind mon name n (.mk eop emon ename en ead ecp ekids epos) ad cp blocks (hp : Int)).clr = stAt res.1 hp) := by
          show _ = _
          rw [← hclr]; rfl
        clear hgrow hown hown1 hown2 hBy hwh hwh2 hel K2 hclr hread htok hO
        go_wp2_with (go_at_call 181; (with_reducible refine (h181 _ A).mono ?_); rintro r u5 ⟨rfl, b5⟩)
        go_roundg res.2.rest.length
        case measure => have := HG.out; have := HLR.out.2; omega
        case rel =>
          refine ⟨l ++ [.mk kind mon name n (.mk eop emon ename en ead ecp ekids epos) ad cp blocks (hp : Int)], fi - 1, res.2, rfl, rfl, ?_, ?_, A.below b5, K.tr b5, ?_, ?_, ?_, ?_⟩
          · rw [List.length_append, List.flatMap_append]
            exact owns_below hown' b5
          · intro x hx
            rcases List.mem_append.1 hx with hx | hx
            · exact St.By.kq (hel2 x hx) ((Kq.refl _ _).bel b5)
            · rw [List.mem_singleton.1 hx]; exact St.By.kq hnew ((Kq.refl _ _).bel b5)
          · show _ = _
            rw [HL2.out, List.map_append, List.map_cons, List.map_nil, HX.out]
          · have := HF2.out; have := HLR.out; omega
          · have := HF2.out; omega
          · exact ⟨HLR.out.1, by rw [List.length_append, List.length_singleton]; have := HLR.out.2; have := HLe.out.2; omega⟩
      · go_wp2_with (first
          | (go_at_call 62; (with_reducible refine (htok _ A).mono ?_); rintro r u1 ⟨rfl, b2⟩; have A := A.below b2; have K := K.tr b2; have hown := owns_below hown b2; have hO := hO.below b2; have hzu := K.size; have hown1 := hown; have hel : ∀ x ∈ l, x.By (but w.heap.size _) u1 := fun x hx => St.By.kq (hel x hx) ((Kq.refl _ _).bel b2))
          | (go_at_call 181; (with_reducible refine (h181 _ A).mono ?_); rintro r u5 ⟨rfl, b5⟩)
          | ((with_reducible refine (hread _ A hO).mono ?_); rintro r u2 ⟨kind, mon, name, n, eop, emon, ename, en, ead, ecp, ekids, epos, ad, cp, blocks, pos, rfl, hclr, hBy, A, k⟩; have K := K.trans k; have hown := owns_kp hown k hb; have hO := hO.kp k hb2; have hzv := K.size; have hel : ∀ x ∈ l, x.By (but w.heap.size _) u2 := fun x hx => St.By.kq (hel x hx) ((Kq.refl _ _).kp k (but_lt hb)))
          | (at_builtin; refine wpList_append_own2 rfl _ _ 60 rfl w.heap.size 108 i0 (.agg #[.int .i64 0, .string ⟨#[]⟩, .string ⟨#[]⟩, .int .i64 0, .int .i64 0, .string ⟨#[]⟩, .string ⟨#[]⟩, .int .i64 0, .slice none 0 0, .int .i64 0, .slice none 0 0, .int .i64 0]) 12 160 Tryz.underlying60 hi hz0 hz1 hz2 rfl (by decide) _ _ _ rfl ((hown.alloc _).alloc _) ⟨u2.heap.size + 1, 0, none⟩ 1 1 (#[.int .i64 kind, .string mon, .string name, .int .i64 n, .int .i64 eop, .string emon, .string ename, .int .i64 en, .slice ead ekids.length ecp, .int .i64 epos, .slice ad blocks.length cp, .int .i64 (hp : Int)]).toList rfl rfl (news_of (newB' _ _ _ _ (by simp))) ?c1 (by decide) ?c2 ?c3 ?c4 ?_))
        case c1 => exact ⟨rfl, rfl, rfl, rfl, rfl, rfl, rfl, rfl, rfl, rfl, rfl, rfl⟩
        case c2 => unfold maxLen; omega
        case c3 => omega
        case c4 => simp; omega
        intro v' u4 hown' hgrow hwh
        have hown2 := (hown.alloc (.cells #[.int .i64 kind, .string mon, .string name, .int .i64 n, .int .i64 eop, .string emon, .string ename, .int .i64 en, .slice ead ekids.length ecp, .int .i64 epos, .slice ad blocks.length cp, .int .i64 (hp : Int)] 108)).alloc (.cells #[.int .i64 kind, .string mon, .string name, .int .i64 n, .int .i64 eop, .string emon, .string ename, .int .i64 en, .slice ead ekids.length ecp, .int .i64 epos, .slice ad blocks.length cp, .int .i64 (hp : Int)] 108)
        have A := ((A.al (.cells #[.int .i64 kind, .string mon, .string name, .int .i64 n, .int .i64 eop, .string emon, .string ename, .int .i64 en, .slice ead ekids.length ecp, .int .i64 epos, .slice ad blocks.length cp, .int .i64 (hp : Int)] 108)).al (.cells #[.int .i64 kind, .string mon, .string name, .int .i64 n, .int .i64 eop, .string emon, .string ename, .int .i64 en, .slice ead ekids.length ecp, .int .i64 epos, .slice ad blocks.length cp, .int .i64 (hp : Int)] 108)).grown hown2 hgrow hb hgl
        have K2 := (K.al (.cells #[.int .i64 kind, .string mon, .string name, .int .i64 n, .int .i64 eop, .string emon, .string ename, .int .i64 en, .slice ead ekids.length ecp, .int .i64 epos, .slice ad blocks.length cp, .int .i64 (hp : Int)] 108)).al (.cells #[.int .i64 kind, .string mon, .string name, .int .i64 n, .int .i64 eop, .string emon, .string ename, .int .i64 en, .slice ead ekids.length ecp, .int .i64 epos, .slice ad blocks.length cp, .int .i64 (hp : Int)] 108)
        have K := grown_kp K2 hown2 hgrow (Nat.le_refl _)
        have hwh2 : v'.ownBlock = u3.ownBlock ∨ v'.ownBlock = some (((u2.alloc (.cells #[.int .i64 kind, .string mon, .string name, .int .i64 n, .int .i64 eop, .string emon, .string ename, .int .i64 en, .slice ead ekids.length ecp, .int .i64 epos, .slice ad blocks.length cp, .int .i64 (hp : Int)] 108)).alloc (.cells #[.int .i64 kind, .string mon, .string name, .int .i64 n, .int .i64 eop, .string emon, .string ename, .int .i64 en, .slice ead ekids.length ecp, .int .i64 epos, .slice ad blocks.length cp, .int .i64 (hp : Int)] 108)).heap.size) := by simpa using hwh
        have hel2 : ∀ x ∈ l, x.By (but w.heap.size v') u4 := fun x hx => grow_by (B := fun Q w => x.By Q w) (fun _ _ _ h1 h2 => St.By.kq h1 h2) (fun _ _ _ h1 h2 => St.By.weak h1 h2) (St.By.kq (hel x hx) (((Kq.refl _ _).al _).al _)) hgrow hwh2
        have hnew : (St.mk kind mon name n (.mk eop emon ename en ead ecp ekids epos) ad cp blocks (hp : Int)).By (but w.heap.size v') u4 := by
          refine grow_by (B := fun Q w => (St.mk kind mon name n (.mk eop emon ename en ead ecp ekids epos) ad cp blocks (hp : Int)).By Q w) (fun _ _ _ h1 h2 => St.By.kq h1 h2) (fun _ _ _ h1 h2 => St.By.weak h1 h2) ?_ hgrow hwh2
          refine St.By.kq (St.By.weak (StBy.pos hBy (i64_nat hfit)) (fun k hk _ => but_iff.2 ⟨Nat.le_trans hzu (from_iff.1 hk), fun e1 => ?_⟩)) (((Kq.refl _ _).al _).al _)
          have h1 := (hown1.lt k e1).2
          have h2 := from_iff.1 hk
          omega
        have HX : Hid ((St.mk kind mon name n (.mk eop emon ename en ead ecp ekids epos) ad cp blocks (hp : Int)).clr = stAt res.1 hp) := by
          show _ = _
          rw [← hclr]; rfl
        clear hgrow hown hown1 hown2 hBy hwh hwh2 hel K2 hclr hread htok hO
        go_wp2_with (go_at_call 181; (with_reducible refine (h181 _ A).mono ?_); rintro r u5 ⟨rfl, b5⟩)
        go_roundg res.2.rest.length
        case measure => have := HG.out; have := HLR.out.2; omega
        case rel =>
          refine ⟨l ++ [.mk kind mon name n (.mk eop emon ename en ead ecp ekids epos) ad cp blocks (hp : Int)], fi - 1, res.2, rfl, rfl, ?_, ?_, A.below b5, K.tr b5, ?_, ?_, ?_, ?_⟩
          · rw [List.length_append, List.flatMap_append]
            exact owns_below hown' b5
          · intro x hx
            rcases List.mem_append.1 hx with hx | hx
            · exact St.By.kq (hel2 x hx) ((Kq.refl _ _).bel b5)
            · rw [List.mem_singleton.1 hx]; exact St.By.kq hnew ((Kq.refl _ _).bel b5)
          · show _ = _
            rw [HL2.out, List.map_append, List.map_cons, List.map_nil, HX.out]
          · have := HF2.out; have := HLR.out; omega
          · have := HF2.out; omega
          · exact ⟨HLR.out.1, by rw [List.length_append, List.length_singleton]; have := HLR.out.2; have := HLe.out.2; omega⟩
end Go.Proofs.YtaekbgljbgmchaaGreatDoor
