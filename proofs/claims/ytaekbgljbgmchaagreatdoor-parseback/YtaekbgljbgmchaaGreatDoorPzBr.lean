/-
  branch of package parse.
-/
import Derived.Test.YtaekbgljbgmchaaGreatDoorPzZ
import Derived.Deep.AppendLies
import Derived.Deep.RegionLaw
namespace Go.Proofs.YtaekbgljbgmchaaGreatDoor
open Go.RowKit
open Lx (Out)
open Pz
/-- Blocks from n on, below m. -/
def mid (n m k : Nat) : Bool := decide (n ≤ k) && decide (k < m)
theorem mid_iff {n m k : Nat} : mid n m k = true ↔ n ≤ k ∧ k < m := by simp [mid]
theorem mid_ge {n m k : Nat} (h : m ≤ k) : mid n m k = false := by simp [mid]; omega
theorem mid_lt {n m k : Nat} (h : k < n) : mid n m k = false := by simp [mid]; omega
theorem Kq.grown {Q : Nat → Bool} {v : Value} {u w w' : World} {base e size m : Nat} {xs : List Value} (h : Kq Q u w) (ho : w.ownsRow base e size v m xs) (hg : w.grownBy w' v.ownBlock) (hq : ∀ k, Q k = true → k < base) : Kq Q u w' :=
  h.trans ⟨hg.size, fun k hk hl => hg.block k hl (fun e1 => by have := (ho.lt k e1.symm).1; have := hq k hk; omega)⟩
theorem LiBl.next {base : Nat} {v : Value} {l : List Bl} {u3 u4 : World} {gg gcap : Nat} {ad : Option Addr} {cp : Nat} {body : List St} {n3 : Nat} (Li : LiBl base v l u3) (hown2 : u4.ownsRow base 60 1 (.slice (some ⟨gg, 0, none⟩) (l.length + 1) gcap) (l.length + 1) (l.flatMap Bl.cells ++ [.slice ad body.length cp]))
    (hg : (u3.alloc (.cells #[.slice ad body.length cp] 60)).grownBy u4 v.ownBlock) (hat : v.ownBlock = some gg ∨ gg = u3.heap.size + 1) (hBy : (Bl.mk ad cp body).By (from_ n3) u3) (hn : base ≤ n3) (hv : ∀ k, v.ownBlock = some k → k < n3) : LiBl base (.slice (some ⟨gg, 0, none⟩) (l.length + 1) gcap) (l ++ [.mk ad cp body]) u4 := by
  have hw : (Value.slice (some ⟨gg, 0, none⟩) (l.length + 1) gcap).ownBlock = v.ownBlock ∨ (Value.slice (some ⟨gg, 0, none⟩) (l.length + 1) gcap).ownBlock = some ((u3.alloc (.cells #[.slice ad body.length cp] 60)).heap.size) := by
    rcases hat with hat | hat
    · exact .inl hat.symm
    · exact .inr (by rw [hat]; simp [Value.ownBlock])
  refine ⟨by rw [List.length_append, List.flatMap_append]; exact hown2, fun x hx => ?_⟩
  rcases List.mem_append.1 hx with hx | hx
  · exact grow_by (B := fun Q w => x.By Q w) (fun _ _ _ h1 h2 => Bl.By.kq h1 h2) (fun _ _ _ h1 h2 => Bl.By.weak h1 h2) (Bl.By.kq (Li.2 x hx) ((Kq.refl _ _).al _)) hg hw
  · rw [List.mem_singleton.1 hx]
    refine grow_by (B := fun Q w => (Bl.mk ad cp body).By Q w) (fun _ _ _ h1 h2 => Bl.By.kq h1 h2) (fun _ _ _ h1 h2 => Bl.By.weak h1 h2) ?_ hg hw
    refine Bl.By.kq (Bl.By.weak hBy (fun k hk _ => but_iff.2 ⟨Nat.le_trans hn (from_iff.1 hk), fun e1 => ?_⟩)) ((Kq.refl _ _).al _)
    have h1 := hv k e1
    have h2 := from_iff.1 hk
    omega
theorem StBy.own4 {Q : Nat → Bool} {base : Nat} {w : World} {kind : Int} {mon name : ByteArray} {n : Int} {e : Ex} {pos : Int} {ad : Option Addr} {cp : Nat} {l : List Bl} (h : LiBl base (.slice ad l.length cp) l w) (hq : ∀ k, base ≤ k → Q k = true) (hnum : I64 kind ∧ I64 n ∧ I64 pos ∧ Len mon ∧ Len name) (he : e.By Q w) :
    (St.mk kind mon name n e ad cp l pos).By Q w := by
  have h2 := StBy.own2 (kind := kind) (mon := mon) (name := name) (n := n) (e := .mk 0 ⟨#[]⟩ ⟨#[]⟩ 0 none 0 [] 0) (pos := pos) h hnum By.zero
  have h3 := St.By.weak h2 (fun k hk _ => hq k (from_iff.1 hk))
  exact St.Is.up ⟨hnum, he, h3.down.2.2.1, h3.down.2.2.2⟩
def hol (n m k : Nat) : Bool := decide (n ≤ k) && (k != m)
theorem hol_iff {n m k : Nat} : hol n m k = true ↔ n ≤ k ∧ k ≠ m := by simp [hol]
theorem StBy.own3 {m base : Nat} {w : World} {kind : Int} {mon name : ByteArray} {n : Int} {e : Ex} {pos : Int} {ad : Option Addr} {cp : Nat} {l : List Bl} (h : LiBl base (.slice ad l.length cp) l w) (hm : m ≤ base) (hnum : I64 kind ∧ I64 n ∧ I64 pos ∧ Len mon ∧ Len name) (he : e.By (from_ m) w) :
    (St.mk kind mon name n e ad cp l pos).By (from_ m) w := by
  have h2 := StBy.own2 (kind := kind) (mon := mon) (name := name) (n := n) (e := .mk 0 ⟨#[]⟩ ⟨#[]⟩ 0 none 0 [] 0) (pos := pos) h hnum By.zero
  have h3 := St.By.mono h2 hm
  exact St.Is.up ⟨hnum, he, h3.down.2.2.1, h3.down.2.2.2⟩
set_option maxRecDepth 100000 in
set_option maxHeartbeats 20000000 in
theorem branch_any (x : Ex × S) (y yy : Bl × S) (b g cap : Nat) (toks : List Out) (s : S) (w : World) (h : At b g cap toks s w)
    (hE : ∀ W, At b g cap toks (s.want k_if) W → Kp b w W → Calls Tryz.prog 30 #[.pointer (some ⟨b, 0, none⟩)] W (ExBack b g cap toks x W))
    (hB1 : ∀ W, At b g cap toks x.2 W → Kp b w W → Calls Tryz.prog 121 #[.pointer (some ⟨b, 0, none⟩)] W (BlBack b g cap toks y W))
    (hB2 : y.2.sees k_else = true → ∀ W, At b g cap toks y.2.pass W → Kp b w W → Calls Tryz.prog 121 #[.pointer (some ⟨b, 0, none⟩)] W (BlBack b g cap toks yy W)) :
    Calls Tryz.prog 200 #[.pointer (some ⟨b, 0, none⟩)] w (StBack b g cap toks (if y.2.sees k_else then (st 3 e0 e0 0 x.1 [y.1, yy.1] 0, yy.2) else (st 3 e0 e0 0 x.1 [y.1] 0, y.2)) w) := by
  have hb := h.lt
  have hgl := h.glt
  have A := h.al (.cells #[.int .i64 0, .string ⟨#[]⟩, .string ⟨#[]⟩, .int .i64 0, .int .i64 0, .string ⟨#[]⟩, .string ⟨#[]⟩, .int .i64 0, .slice none 0 0, .int .i64 0, .slice none 0 0, .int .i64 0] 108)
  have bR := newB w #[.int .i64 0, .string ⟨#[]⟩, .string ⟨#[]⟩, .int .i64 0, .int .i64 0, .string ⟨#[]⟩, .string ⟨#[]⟩, .int .i64 0, .slice none 0 0, .int .i64 0, .slice none 0 0, .int .i64 0] 108
  have hne : w.heap.size ≠ b := by omega
  have hng : w.heap.size ≠ g := by omega
  have K : Kp b w (w.alloc (.cells #[.int .i64 0, .string ⟨#[]⟩, .string ⟨#[]⟩, .int .i64 0, .int .i64 0, .string ⟨#[]⟩, .string ⟨#[]⟩, .int .i64 0, .slice none 0 0, .int .i64 0, .slice none 0 0, .int .i64 0] 108)) := (Kp.refl b w).al _
  obtain ⟨i0, hi, hz0, hz1, hz2⟩ := info_parts Tryz.info60
  obtain ⟨R, hR⟩ : ∃ R, (if y.2.sees k_else then (st 3 e0 e0 0 x.1 [y.1, yy.1] 0, yy.2) else (st 3 e0 e0 0 x.1 [y.1] 0, y.2)) = R := ⟨_, rfl⟩
  rw [hR]
  go_enter Tryz.func200, Tryz.ntmps200
  go_wp2_with (first
      | (go_at_call 156; (with_reducible refine (want_any ⟨#[105, 102]⟩ b g cap toks s _ A).mono ?_); rintro r w1 ⟨rfl, A, k⟩; have A : At b g cap toks (s.want k_if) w1 := A; have K := K.trans k; have bR := k.box bR hne; have hzE := ltB bR)
      | (go_at_call 30; (with_reducible refine (hE _ A K).mono ?_); rintro r w2 ⟨eop, emon, ename, en, ead, ecp, ekids, epos, rfl, heclr, heBy, A, k⟩; have hz12 := k.size; have K := K.trans k; have bR := k.box bR hne; have hlR := ltB bR; have A := A.al (.cells #[.int .i64 3, .string ⟨#[]⟩, .string ⟨#[]⟩, .int .i64 0, .int .i64 eop, .string emon, .string ename, .int .i64 en, .slice ead ekids.length ecp, .int .i64 epos, .slice none 0 0, .int .i64 0] 108); have K := K.al (.cells #[.int .i64 3, .string ⟨#[]⟩, .string ⟨#[]⟩, .int .i64 0, .int .i64 eop, .string emon, .string ename, .int .i64 en, .slice ead ekids.length ecp, .int .i64 epos, .slice none 0 0, .int .i64 0] 108); have bR := bel_box bR (bel_al _ (.cells #[.int .i64 3, .string ⟨#[]⟩, .string ⟨#[]⟩, .int .i64 0, .int .i64 eop, .string emon, .string ename, .int .i64 en, .slice ead ekids.length ecp, .int .i64 epos, .slice none 0 0, .int .i64 0] 108)); have bS := newB w2 #[.int .i64 3, .string ⟨#[]⟩, .string ⟨#[]⟩, .int .i64 0, .int .i64 eop, .string emon, .string ename, .int .i64 en, .slice ead ekids.length ecp, .int .i64 epos, .slice none 0 0, .int .i64 0] 108; have hnS : w2.heap.size ≠ b := (by omega); have hnS2 : w2.heap.size ≠ g := (by omega); have hnR : w.heap.size ≠ w2.heap.size := (by omega); have hSw : w.heap.size ≤ w2.heap.size := (by omega); obtain ⟨⟨y0, y1, y2, y3, y4, y5, y6, y7, y8, y9, y10, y11⟩, yf, yl⟩ := twelve bS))
  obtain ⟨W2, hW2⟩ : ∃ W2, w2.alloc (.cells #[.int .i64 3, .string ⟨#[]⟩, .string ⟨#[]⟩, .int .i64 0, .int .i64 eop, .string emon, .string ename, .int .i64 en, .slice ead ekids.length ecp, .int .i64 epos, .slice none 0 0, .int .i64 0] 108) = W2 := ⟨_, rfl⟩
  have hz2' : W2.heap.size = w2.heap.size + 1 := by rw [← hW2]; simp
  rw [hW2] at A K bR bS y0 y1 y2 y3 y4 y5 y6 y7 y8 y9 y10 y11 yf yl ⊢
  have HZ := hid hz2'
  have KW : Hid (Kq (mid w1.heap.size w2.heap.size) w2 W2.drew) := by show Kq _ _ _; rw [← hW2]; exact ((Kq.refl _ _).al _).drew
  clear hW2
  clear hz2'
  go_region_law (first
    | (refine step_append_lies _ (by rfl) _ _ _ (by rfl) (w2.heap.size + 1) 60 i0 (.slice none 0 0) 1 24 Tryz.underlying106 hi hz0 hz1 hz2 rfl (by decide) (.slice none 0 0) 0 [] (by rfl) (World.ownsRow_nil _ _ _ _) ⟨u3.heap.size, 0, none⟩ 1 1 [.slice ad body.length cp] (by rfl) (by rfl) (World.news_of_block (cs := #[.slice ad body.length cp]) (t := 60) (fr := (0, 0)) (newB u3 _ _)) (by simp [Value.oneCell']) (by decide) (by unfold maxLen; omega) (by omega) (by simp; omega) (u3.heap.size + 1) (by simp) ?_; intro gg gcap u4 hown2 hgrow hat hlt2; have bR := (show u4.heap[w.heap.size]? = _ from (hgrow.block _ (by simp; omega) (by simp [Value.ownBlock])).trans (bel_box bR (bel_al _ _))); have bS := (show u4.heap[w2.heap.size]? = _ from (hgrow.block _ (by simp; omega) (by simp [Value.ownBlock])).trans (bel_box bS (bel_al _ _))); obtain ⟨⟨y0, y1, y2, y3, y4, y5, y6, y7, y8, y9, y10, y11⟩, yf, yl⟩ := twelve bS; have HG := hid hgrow; clear hgrow; have HW2 := hid hown2; clear hown2; have HAT := hid hat; clear hat)
    | (rw [if_pos (show Region.wanted _ _ = true from rfl)]; go_wp2_with (go_at_call 121; refine (hB1 _ A.drew K.drew).mono ?_; rintro r u3 ⟨ad, cp, body, rfl, hclr, hBy, A, k⟩; have K := K.drew.trans k; have bR := k.box (show _ from bR) hne; have bS := k.box (show _ from bS) hnS; have hz3 := k.size; have hlS := ltB bS; have hlR3 := ltB bR; obtain ⟨⟨y0, y1, y2, y3, y4, y5, y6, y7, y8, y9, y10, y11⟩, yf, yl⟩ := twelve bS)))
  all_goals
    have hzW := HZ.out
    have hown0 : (u3.alloc (.cells #[.slice ad body.length cp] 60)).ownsRow (w2.heap.size + 1) 60 1 (.slice none 0 0) 0 [] := World.ownsRow_nil _ _ _ _
    have Li1 : LiBl (w2.heap.size + 1) (.slice (some ⟨gg, 0, none⟩) 1 gcap) [.mk ad cp body] u4 := LiBl.next (l := []) (n3 := W2.heap.size) (LiBl.nil _ _) HW2.out HG.out HAT.out hBy (by omega) (by simp [Value.ownBlock])
    have Q1 : Kq (mid w1.heap.size w2.heap.size) w2 u4 := ((((Kq.refl _ _).trans (KW.out)).kp k (mid_lt (by omega))).al _).grown hown0 HG.out (fun k hk => by have := (mid_iff.1 hk).2; omega)
    have A4 := ((A.al (.cells #[.slice ad body.length cp] 60)).grown hown0 HG.out (by omega) (by omega)).put (p := ⟨w2.heap.size, 10, none⟩) hnS hnS2 (.slice (some ⟨gg, 0, none⟩) 1 gcap)
    have K4 := (grown_kp (K.al (.cells #[.slice ad body.length cp] 60)) hown0 HG.out (by omega)).set (p := ⟨w2.heap.size, 10, none⟩) (.inr hSw) (.slice (some ⟨gg, 0, none⟩) 1 gcap)
    have Li2 := Li1.set (p := ⟨w2.heap.size, 10, none⟩) (by show w2.heap.size < w2.heap.size + 1; omega) (.slice (some ⟨gg, 0, none⟩) 1 gcap)
    have Q2 := Q1.set (p := ⟨w2.heap.size, 10, none⟩) (.inl (mid_ge (Nat.le_refl _))) (.slice (some ⟨gg, 0, none⟩) 1 gcap)
    have bR4 := set_box (j := w2.heap.size) (i := 10) bR hnR (.slice (some ⟨gg, 0, none⟩) 1 gcap)
    have bS4 := setBx (i := 10) (c2 := #[.int .i64 3, .string ⟨#[]⟩, .string ⟨#[]⟩, .int .i64 0, .int .i64 eop, .string emon, .string ename, .int .i64 en, .slice ead ekids.length ecp, .int .i64 epos, .slice (some ⟨gg, 0, none⟩) 1 gcap, .int .i64 0]) bS (.slice (some ⟨gg, 0, none⟩) 1 gcap) rfl
    clear hown0 HG HW2 HAT Li1 Q1 A K bR bS hBy y0 y1 y2 y3 y4 y5 y6 y7 y8 y9 y10 y11 yf yl hlt2
    cases q : y.2.sees ⟨#[101, 108, 115, 101]⟩
    · have HR : Hid (R = (st 3 e0 e0 0 x.1 [y.1] 0, y.2)) := by show _ = _; rw [← hR, if_neg (by rw [show y.2.sees k_else = false from q]; decide)]
      go_wp2_with (go_at_call 69; (with_reducible refine (sees_any _ b g cap toks _ _ A4).mono ?_); rintro r u5 ⟨rfl, b5⟩; have A := A4.below b5; have K := K4.tr b5; have bR := bel_box bR4 b5; have bS := bel_box bS4 b5; have Li3 := Li2.bel b5; have Q3 := Q2.bel b5; obtain ⟨⟨x0, x1, x2, x3, x4, x5, x6, x7, x8, x9, x10, x11⟩, xf, xl⟩ := twelve bR; obtain ⟨⟨y0, y1, y2, y3, y4, y5, y6, y7, y8, y9, y10, y11⟩, yf, yl⟩ := twelve bS)
      rw [HR.out]
      refine bodyPost_ret (v := .agg #[.int .i64 3, .string ⟨#[]⟩, .string ⟨#[]⟩, .int .i64 0, .int .i64 eop, .string emon, .string ename, .int .i64 en, .slice ead ekids.length ecp, .int .i64 epos, .slice (some ⟨gg, 0, none⟩) 1 gcap, .int .i64 0]) ?_ rfl ⟨3, ⟨#[]⟩, ⟨#[]⟩, 0, eop, emon, ename, en, ead, ecp, ekids, epos, some ⟨gg, 0, none⟩, gcap, [.mk ad cp body], 0, rfl, ?_, ?_, ?_, ?_⟩
      · simp [results, Tryz.results200, go_sem, x0, x1, x2, x3, x4, x5, x6, x7, x8, x9, x10, x11]
      · rw [St.clr, heclr, Bl.clrL, Bl.clrL, hclr]; rfl
      · have he5 : (Ex.mk eop emon ename en ead ecp ekids epos).By (from_ w1.heap.size) u5 := Ex.By.weak (Ex.By.kq (Ex.By.weak heBy (fun k hk hl => mid_iff.2 ⟨from_iff.1 hk, hl⟩)) Q3) (fun k hk _ => from_iff.2 (mid_iff.1 hk).1)
        have hst := StBy.own3 (m := w1.heap.size) (kind := 3) (mon := ⟨#[]⟩) (name := ⟨#[]⟩) (n := 0) (pos := 0) (l := [.mk ad cp body]) Li3 (by omega) ⟨i64_small (by decide) (by decide), i64_small (by decide) (by decide), i64_small (by decide) (by decide), len_e0, len_e0⟩ he5
        refine (St.By.kq hst ?_).mono (Nat.le_of_lt hzE)
        have hpR := from_not hzE
        repeat (first | with_reducible refine Kq.set ?_ (.inl hpR) _ | with_reducible refine Kq.al ?_ _)
        with_reducible exact Kq.refl _ _
      · repeat (first | with_reducible refine Pz.At.put ?_ hne hng _ | with_reducible refine Pz.At.put ?_ hnS hnS2 _ | with_reducible refine Pz.At.al ?_ _)
        exact A
      · repeat (first | with_reducible refine Kp.set ?_ (.inr (Nat.le_refl _)) _ | with_reducible refine Kp.set ?_ (.inr hSw) _ | with_reducible refine Kp.al ?_ _)
        with_reducible exact K
    · have HR : Hid (R = (st 3 e0 e0 0 x.1 [y.1, yy.1] 0, yy.2)) := by show _ = _; rw [← hR, if_pos (show y.2.sees k_else = true from q)]
      have hB2q := hB2 q
      have hgg : gg < u4.heap.size ∧ w2.heap.size + 1 ≤ gg := ⟨by have := (Li2.1.lt gg rfl).2; simpa using this, (Li2.1.lt gg rfl).1⟩
      clear hB2 hR
      go_wp2_with (first
        | (go_at_call 69; (with_reducible refine (sees_any _ b g cap toks _ _ A4).mono ?_); rintro r u5 ⟨rfl, b5⟩; have A := A4.below b5; have K := K4.tr b5; have bR := bel_box bR4 b5; have bS := bel_box bS4 b5; have Li3 := Li2.bel b5; have Q3 := Q2.bel b5; have hz5 := b5.size)
        | (go_at_call 110; (with_reducible refine (pass_any b g cap toks _ _ A).mono ?_); rintro r u6 ⟨rfl, A, k6⟩; have K := K.trans k6; have bR := k6.box bR hne; have bS := k6.box bS hnS; have Li6 := Li3.kp k6 (by omega); have Q6 := Q3.kp k6 (mid_lt (by omega)); have hz6 := k6.size; obtain ⟨⟨y0, y1, y2, y3, y4, y5, y6, y7, y8, y9, y10, y11⟩, yf, yl⟩ := twelve bS; have hlS6 := ltB bS; have hbS : b < w2.heap.size + 1 := (by omega); have Li6d := Li6.kp ((Kp.refl b u6).drew) hbS))
      go_region_law (first
        | (refine step_append_lies _ (by rfl) _ _ _ (by rfl) (w2.heap.size + 1) 60 i0 (.slice none 0 0) 1 24 Tryz.underlying106 hi hz0 hz1 hz2 rfl (by decide) (.slice (some ⟨gg, 0, none⟩) 1 gcap) 1 [.slice ad body.length cp] (by rfl) (Li.1.alloc _) ⟨u7.heap.size, 0, none⟩ 1 1 [.slice ad2 body2.length cp2] (by rfl) (by rfl) (World.news_of_block (cs := #[.slice ad2 body2.length cp2]) (t := 60) (fr := (0, 0)) (newB u7 _ _)) (by simp [Value.oneCell']) (by decide) (by unfold maxLen; omega) (by omega) (by simp; omega) (u7.heap.size + 1) (by simp) ?_; intro gg2 gcap2 u8 hown2 hgrow hat hlt2; have bR := (show u8.heap[w.heap.size]? = _ from (hgrow.block _ (by simp; omega) (by simp only [Value.ownBlock]; intro e1; injection e1 with e1; omega)).trans (bel_box bR (bel_al _ _))); have bS := (show u8.heap[w2.heap.size]? = _ from (hgrow.block _ (by simp; omega) (by simp only [Value.ownBlock]; intro e1; injection e1 with e1; omega)).trans (bel_box bS (bel_al _ _))); obtain ⟨⟨y0, y1, y2, y3, y4, y5, y6, y7, y8, y9, y10, y11⟩, yf, yl⟩ := twelve bS; have HG := hid hgrow; clear hgrow; have HW2 := hid hown2; clear hown2; have HAT := hid hat; clear hat)
        | (rw [if_pos (show Region.wanted _ _ = true from rfl)]; go_wp2_with (go_at_call 121; refine (hB2q _ A.drew K.drew).mono ?_; rintro r u7 ⟨ad2, cp2, body2, rfl, hclr2, hBy2, A, k⟩; have K := K.drew.trans k; have bR := k.box (show _ from bR) hne; have bS := k.box (show _ from bS) hnS; have Li := Li6d.kp k hbS; have hz7 := k.size; have hlS := ltB bS; have hlR3 := ltB bR; obtain ⟨⟨y0, y1, y2, y3, y4, y5, y6, y7, y8, y9, y10, y11⟩, yf, yl⟩ := twelve bS)))
      all_goals
        have hown1 := Li.1.alloc (.cells #[.slice ad2 body2.length cp2] 60)
        have Li8 : LiBl (w2.heap.size + 1) (.slice (some ⟨gg2, 0, none⟩) 2 gcap2) [.mk ad cp body, .mk ad2 cp2 body2] u8 := LiBl.next (l := [.mk ad cp body]) (n3 := u6.heap.size) Li HW2.out HG.out HAT.out hBy2 (by omega) (fun k hk => by simp only [Value.ownBlock, Option.some.injEq] at hk; have := hgg.1; simp at hz5; omega)
        have Q8 : Kq (mid w1.heap.size w2.heap.size) w2 u8 := (((Q6.drew).kp k (mid_lt (by omega))).al _).grown hown1 HG.out (fun k hk => by have := (mid_iff.1 hk).2; omega)
        have A8 := (A.al (.cells #[.slice ad2 body2.length cp2] 60)).grown hown1 HG.out (by omega) (by omega)
        have K8 := grown_kp (K.al (.cells #[.slice ad2 body2.length cp2] 60)) hown1 HG.out (by omega)
        obtain ⟨⟨x0, x1, x2, x3, x4, x5, x6, x7, x8, x9, x10, x11⟩, xf, xl⟩ := twelve bR
        clear hown1 HG HW2 HAT A K
        go_wp2
        rw [HR.out]
        refine bodyPost_ret (v := .agg #[.int .i64 3, .string ⟨#[]⟩, .string ⟨#[]⟩, .int .i64 0, .int .i64 eop, .string emon, .string ename, .int .i64 en, .slice ead ekids.length ecp, .int .i64 epos, .slice (some ⟨gg2, 0, none⟩) 2 gcap2, .int .i64 0]) ?_ rfl ⟨3, ⟨#[]⟩, ⟨#[]⟩, 0, eop, emon, ename, en, ead, ecp, ekids, epos, some ⟨gg2, 0, none⟩, gcap2, [.mk ad cp body, .mk ad2 cp2 body2], 0, rfl, ?_, ?_, ?_, ?_⟩
        · simp [results, Tryz.results200, go_sem, x0, x1, x2, x3, x4, x5, x6, x7, x8, x9, x10, x11]
        · rw [St.clr, heclr, Bl.clrL, Bl.clrL, Bl.clrL, hclr, hclr2]; rfl
        · have hpS : hol w1.heap.size w2.heap.size w2.heap.size = false := by simp [hol]
          have hpR : hol w1.heap.size w2.heap.size w.heap.size = false := by simp [hol]; omega
          have he5 : (Ex.mk eop emon ename en ead ecp ekids epos).By (hol w1.heap.size w2.heap.size) u8 := Ex.By.weak (Ex.By.kq (Ex.By.weak heBy (fun k hk hl => mid_iff.2 ⟨from_iff.1 hk, hl⟩)) Q8) (fun k hk _ => hol_iff.2 ⟨(mid_iff.1 hk).1, by have := (mid_iff.1 hk).2; omega⟩)
          have hst := StBy.own4 (Q := hol w1.heap.size w2.heap.size) (kind := 3) (mon := ⟨#[]⟩) (name := ⟨#[]⟩) (n := 0) (pos := 0) (l := [.mk ad cp body, .mk ad2 cp2 body2]) Li8 (fun k hk => hol_iff.2 ⟨by omega, by omega⟩) ⟨i64_small (by decide) (by decide), i64_small (by decide) (by decide), i64_small (by decide) (by decide), len_e0, len_e0⟩ he5
          refine St.By.weak (St.By.kq hst ?_) (fun k hk _ => from_iff.2 (by have := (hol_iff.1 hk).1; omega))
          repeat (first | with_reducible refine Kq.set ?_ (.inl hpR) _ | with_reducible refine Kq.set ?_ (.inl hpS) _ | with_reducible refine Kq.al ?_ _)
          with_reducible exact Kq.refl _ _
        · repeat (first | with_reducible refine Pz.At.put ?_ hne hng _ | with_reducible refine Pz.At.put ?_ hnS hnS2 _ | with_reducible refine Pz.At.al ?_ _)
          exact A8
        · repeat (first | with_reducible refine Kp.set ?_ (.inr (Nat.le_refl _)) _ | with_reducible refine Kp.set ?_ (.inr hSw) _ | with_reducible refine Kp.al ?_ _)
          with_reducible exact K8
end Go.Proofs.YtaekbgljbgmchaaGreatDoor
