/-
  The statement TreeParts: its walk.
-/
import Derived.Test.YtjgomkkmmhkpdaaDoorPtR
namespace Go.Proofs.YtjgomkkmmhkpdaaDoor
open Go.RowKit
theorem tx_of {w w' : World} {v : Value} {l : List (ByteArray × ByteArray)} (hl : l.length ≤ 1000000) (h : w'.ownsRow w.heap.size 9 1 v l.length (l.map fun p => .string (vname p))) : TxAt w' v (l.map vname) := by
  have h0 := h
  obtain ⟨_, ⟨rfl, h2⟩ | ⟨g, cap, cur, rfl, hB, hh, hc, hm, hcs, hx⟩⟩ := h
  · have : l = [] := List.eq_nil_of_length_eq_zero h2
    subst this
    exact ⟨none, 0, rfl, Nat.le_refl _, by unfold maxLen; omega, by simp, .inl rfl⟩
  · refine ⟨some ⟨g, 0, none⟩, cap, by simp, by simpa using hc, hm, by simpa using hl, .inr ⟨g, 0, rfl, (Array.getElem?_eq_some_iff.1 hh).1, fun j hj => ?_⟩⟩
    have hj' : j < l.length := by simpa using hj
    have := h0.cellAt j (by omega)
    rw [Nat.zero_add, this]
    simp [hj']
set_option maxRecDepth 100000 in
set_option maxHeartbeats 8000000 in
theorem treeParts_walk (a b : Ex) (w : World) (hS : Shapes w) (ha : a.Is w.heap.size w) (hb : b.Is w.heap.size w) :
    Calls Tryd.prog 7 #[a.val, b.val] w fun e w' => e = .returned (.bool true) ∧ Below w.heap.size w w' := by
  have hs2 := hS.size
  have hrc := rest_count a 400
  have hrd := rest_count b 400
  obtain ⟨ra, hra⟩ : ∃ ra, restE a 400 = ra := ⟨_, rfl⟩
  obtain ⟨rb, hrb⟩ : ∃ rb, restE b 400 = rb := ⟨_, rfl⟩
  have h12a : ∀ W, Below w.heap.size w W → Calls Tryd.prog 12 #[a.val, .int .i64 400] W fun r w' => r = .returned (.int .i64 ra) ∧ Below W.heap.size W w' := fun W hW => by
    have := restExpr_any w.heap.size a 400 W (by omega) (by omega) hW.size (ha.below hW)
    rw [hra] at this; exact this
  have h12b : ∀ W, Below w.heap.size w W → Calls Tryd.prog 12 #[b.val, .int .i64 400] W fun r w' => r = .returned (.int .i64 rb) ∧ Below W.heap.size W w' := fun W hW => by
    have := restExpr_any w.heap.size b 400 W (by omega) (by omega) hW.size (hb.below hW)
    rw [hrb] at this; exact this
  rw [hra] at hrc
  rw [hrb] at hrd
  clear hra hrb
  have h9 : ∀ W, Below w.heap.size w W → Calls Tryd.prog 9 #[] W fun r w' => r = .returned (.bool true) ∧ Below W.heap.size W w' := fun W hW => live_any W (hS.below hW hs2)
  have h13a : ∀ W, Below w.heap.size w W → Calls Tryd.prog 13 #[a.val] W fun r w' => r = .returned (.int .i64 (if a.ok then 0 else 20)) ∧ Below W.heap.size W w' := fun W hW => checkExpr_any a w.heap.size W hW.size (ha.below hW) (hS.below hW hs2)
  have h13b : ∀ W, Below w.heap.size w W → Calls Tryd.prog 13 #[b.val] W fun r w' => r = .returned (.int .i64 (if b.ok then 0 else 20)) ∧ Below W.heap.size W w' := fun W hW => checkExpr_any b w.heap.size W hW.size (hb.below hW) (hS.below hW hs2)
  obtain ⟨oa, hoa⟩ : ∃ oa : Int, (if a.ok then (0 : Int) else 20) = oa := ⟨_, rfl⟩
  obtain ⟨ob, hob⟩ : ∃ ob : Int, (if b.ok then (0 : Int) else 20) = ob := ⟨_, rfl⟩
  have hoo : 0 ≤ oa ∧ oa ≤ 20 ∧ 0 ≤ ob ∧ ob ≤ 20 := by
    rw [← hoa, ← hob]
    cases a.ok <;> cases b.ok <;> decide
  rw [hoa] at h13a
  rw [hob] at h13b
  have HOA := hid hoa
  have HOB := hid hob
  clear hoa hob
  rcases hae : a with ⟨op, mon, name, n, ad, cap, kids, pos⟩
  rcases hbe : b with ⟨op', mon', name', n', ad', cap', kids', pos'⟩
  have HAE := hid hae
  have HBE := hid hbe
  rw [hae] at h12a h13a
  rw [hbe] at h12b h13b
  clear hae hbe
  simp only [Ex.val, Ex.cells] at h12a h12b h13a h13b ⊢
  have hBW : Below w.heap.size w ((w.alloc (.cells #[.int .i64 op, .string mon, .string name, .int .i64 n, .slice ad kids.length cap, .int .i64 pos] 33)).alloc (.cells #[.int .i64 op', .string mon', .string name', .int .i64 n', .slice ad' kids'.length cap', .int .i64 pos'] 33)) := ((Below.refl _ w).al le_rfl' _).al le_rfl' _
  have hcA := six_keep (W := w.alloc (.cells #[.int .i64 op, .string mon, .string name, .int .i64 n, .slice ad kids.length cap, .int .i64 pos] 33)) (six_new (W := w) (t := 33) (c0 := .int .i64 op) (c1 := .string mon) (c2 := .string name) (c3 := .int .i64 n) (c4 := .slice ad kids.length cap) (c5 := .int .i64 pos) rfl) ((Below.refl _ _).al le_rfl' (.cells #[.int .i64 op', .string mon', .string name', .int .i64 n', .slice ad' kids'.length cap', .int .i64 pos'] 33))
  have hcB := six_new (W := w.alloc (.cells #[.int .i64 op, .string mon, .string name, .int .i64 n, .slice ad kids.length cap, .int .i64 pos] 33)) (t := 33) (c0 := .int .i64 op') (c1 := .string mon') (c2 := .string name') (c3 := .int .i64 n') (c4 := .slice ad' kids'.length cap') (c5 := .int .i64 pos') (p := w.heap.size + 1) (by simp)
  cases hpa : decide (ra < 0)
  · cases hpb : decide (rb < 0)
    · cases hs : ((oa + ob) != 0)
      · go_enter Tryd.func7, Tryd.ntmps7
        go_wp2_with fail
        refine reg1C _ _ _ _ _ _ _ _ _ _ _ _ _ _ _ w.heap.size (w.heap.size + 1) ra rb oa ob false _ hcA hcB (fun W hW => h12a W (hBW.tr le_rfl' hW)) (fun W hW => h12b W (hBW.tr le_rfl' hW)) (fun W hW => h13a W (hBW.tr le_rfl' hW)) (fun W hW => h13b W (hBW.tr le_rfl' hW)) hpa hpb hoo hs ?_
        intro w1 B1
        obtain ⟨e0, e1, e2, e3, e4, e5⟩ := six_keep hcA B1
        obtain ⟨f0, f1, f2, f3, f4, f5⟩ := six_keep hcB B1
        have hok : a.ok = true ∧ b.ok = true := by
          have h1 := HOA.out; have h2 := HOB.out
          have h3 : oa + ob = 0 := by simpa using hs
          cases h4 : a.ok <;> cases h5 : b.ok <;> simp [h4, h5] at h1 h2 <;> first | exact ⟨rfl, rfl⟩ | omega
        have HOK := hid hok
        clear hok
        have hra0 : 0 ≤ ra := by simpa using hpa
        have hrb0 : 0 ≤ rb := by simpa using hpb
        have hna := hrc hra0
        have hnb := hrd hrb0
        clear hrc hrd
        go_wp2_with fail
        have hBW3 := (B1.al le_rfl' (.cells #[.int .i64 op, .string mon, .string name, .int .i64 n, .slice ad kids.length cap, .int .i64 pos, .int .i64 op', .string mon', .string name', .int .i64 n', .slice ad' kids'.length cap', .int .i64 pos'] 33)).al le_rfl' (.cells #[.int .i64 16, .string ⟨#[]⟩, .string ⟨#[]⟩, .int .i64 0, .slice (some ⟨w1.heap.size, 0, none⟩) 2 2, .int .i64 0] 33)
        obtain ⟨W3, hW3⟩ : ∃ W3, (w1.alloc (.cells #[.int .i64 op, .string mon, .string name, .int .i64 n, .slice ad kids.length cap, .int .i64 pos, .int .i64 op', .string mon', .string name', .int .i64 n', .slice ad' kids'.length cap', .int .i64 pos'] 33)).alloc (.cells #[.int .i64 16, .string ⟨#[]⟩, .string ⟨#[]⟩, .int .i64 0, .slice (some ⟨w1.heap.size, 0, none⟩) 2 2, .int .i64 0] 33) = W3 := ⟨_, rfl⟩
        have hkb : W3.heap[w1.heap.size]? = some (.cells (a.cells ++ b.cells).toArray 33 (0, 0)) := by
          rw [← hW3, HAE.out, HBE.out, Below.heap_alloc _ _ _ (by simp)]; exact heapAt _ rfl
        have hcg := six_new (W := w1.alloc (.cells #[.int .i64 op, .string mon, .string name, .int .i64 n, .slice ad kids.length cap, .int .i64 pos, .int .i64 op', .string mon', .string name', .int .i64 n', .slice ad' kids'.length cap', .int .i64 pos'] 33)) (t := 33) (c0 := .int .i64 16) (c1 := .string ⟨#[]⟩) (c2 := .string ⟨#[]⟩) (c3 := .int .i64 0) (c4 := .slice (some ⟨w1.heap.size, 0, none⟩) 2 2) (c5 := .int .i64 0) (p := w1.heap.size + 1) (by simp)
        rw [hW3] at hBW3 hcg ⊢
        clear hW3
        have hBw3 := hBW.tr le_rfl' hBW3
        have hlt3 := (Array.getElem?_eq_some_iff.1 hkb).1
        have hcI : ∀ W, Below W3.heap.size W3 W → (joinE w1.heap.size a b).Is W.heap.size W := fun W hW => by
          have hz := hW.size
          have hbw := hBw3.tr le_rfl' hW
          have hzw := hbw.size
          exact Ex.Is.up ⟨⟨by unfold I64; omega, by unfold I64; omega, by unfold I64; omega, Nat.zero_le _, Nat.zero_le _⟩, slAt_of_block (l := [a, b]) (cap := 2) exCells_len ((hW.block _ hlt3).trans hkb) (by simp) (by omega) (by simp) (by omega), fun x hx => by
            rcases List.mem_cons.1 hx with rfl | hx
            · exact (ha.below hbw).mono hzw
            · rw [List.mem_singleton.1 hx]; exact (hb.below hbw).mono hzw⟩
        have hcl : (joinE w1.heap.size a b).subs.length = 1 + (a.subs.length + b.subs.length) := by rw [joinE_subs]; simp; omega
        have R : ∀ (e : Ex) (W : World), e.Is W.heap.size W → e.subs.length ≤ 1000 → Calls Tryd.prog 18 #[e.val] W fun r w' => ∃ v, r = .returned v ∧ TxAt w' v ((varsOf e.subs).map vname) ∧ Below W.heap.size W w' := fun e W he hc => by
          refine (reads_any e W.heap.size W (Nat.le_refl _) he (by omega)).mono ?_
          rintro r w' ⟨v, rfl, hown, hbb⟩
          exact ⟨v, rfl, tx_of (by have := varsOf_len e.subs; omega) hown, hbb⟩
        have R1 := fun W (hW : Below W3.heap.size W3 W) => R a W ((ha.below (hBw3.tr le_rfl' hW)).mono ((hBw3.tr le_rfl' hW).size)) (by omega)
        have R2 := fun W (hW : Below W3.heap.size W3 W) => R b W ((hb.below (hBw3.tr le_rfl' hW)).mono ((hBw3.tr le_rfl' hW).size)) (by omega)
        have R3 := fun W (hW : Below W3.heap.size W3 W) => R (joinE w1.heap.size a b) W (hcI W hW) (by omega)
        clear R
        have hva : a.val = .agg #[.int .i64 op, .string mon, .string name, .int .i64 n, .slice ad kids.length cap, .int .i64 pos] := by rw [HAE.out]; rfl
        have hvb : b.val = .agg #[.int .i64 op', .string mon', .string name', .int .i64 n', .slice ad' kids'.length cap', .int .i64 pos'] := by rw [HBE.out]; rfl
        have hvc : (joinE w1.heap.size a b).val = .agg #[.int .i64 16, .string ⟨#[]⟩, .string ⟨#[]⟩, .int .i64 0, .slice (some ⟨w1.heap.size, 0, none⟩) 2 2, .int .i64 0] := rfl
        have P13 : ∀ W, Below W3.heap.size W3 W → Calls Tryd.prog 13 #[(joinE w1.heap.size a b).val] W fun r w' => r = .returned (.int .i64 0) ∧ Below W.heap.size W w' := fun W hW => by
          have h := checkExpr_any (joinE w1.heap.size a b) W.heap.size W (Nat.le_refl _) (hcI W hW) (hS.below (hBw3.tr le_rfl' hW) hs2)
          rw [joinE_ok _ a b HOK.out.1 HOK.out.2] at h
          exact h
        have P27a : ∀ W, Below W3.heap.size W3 W → Calls Tryd.prog 27 #[a.val] W fun r w' => r = .returned (.int .i64 ((a.subs.length : Nat) : Int)) ∧ Below W.heap.size W w' := fun W hW => parts_any W.heap.size a W (Nat.le_refl _) ((ha.below (hBw3.tr le_rfl' hW)).mono ((hBw3.tr le_rfl' hW).size)) (ok_none HOK.out.1) (by omega)
        have P27b : ∀ W, Below W3.heap.size W3 W → Calls Tryd.prog 27 #[b.val] W fun r w' => r = .returned (.int .i64 ((b.subs.length : Nat) : Int)) ∧ Below W.heap.size W w' := fun W hW => parts_any W.heap.size b W (Nat.le_refl _) ((hb.below (hBw3.tr le_rfl' hW)).mono ((hBw3.tr le_rfl' hW).size)) (ok_none HOK.out.2) (by omega)
        have P27c : ∀ W, Below W3.heap.size W3 W → Calls Tryd.prog 27 #[(joinE w1.heap.size a b).val] W fun r w' => r = .returned (.int .i64 ((a.subs.length : Int) + (b.subs.length : Int) + 1)) ∧ Below W.heap.size W w' := fun W hW => by
          have h := parts_any W.heap.size (joinE w1.heap.size a b) W (Nat.le_refl _) (hcI W hW) (ok_none (joinE_ok _ a b HOK.out.1 HOK.out.2)) (by omega)
          rw [hcl] at h
          have e : (((1 + (a.subs.length + b.subs.length) : Nat)) : Int) = (a.subs.length : Int) + (b.subs.length : Int) + 1 := by omega
          rw [e] at h
          exact h
        rw [hva] at P27a
        rw [hvb] at P27b
        rw [hvc] at P13 P27c
        rw [hva] at R1
        rw [hvb] at R2
        rw [hvc] at R3
        refine reg4 _ _ _ _ _ _ _ _ _ _ _ _ _ _ _ _ _ _ _ _ _ _ _ _ _ _ _ _ _ _ _ _ _ _ _ _ _ _ _ _ _ _ w.heap.size (w.heap.size + 1) (w1.heap.size + 1) _ _ _ W3 (six_keep hcA hBW3) (six_keep hcB hBW3) hcg R1 R2 R3 ?_
        intro v1 v2 v3 w2 x1 x2 x3 B2
        have hpr := vfold_pre b.subs (varsOf a.subs)
        have htw := vfold_two b.subs (varsOf a.subs) [] (fun p hp => by cases hp)
        rw [← joinE_vars w1.heap.size a b] at hpr htw
        obtain ⟨la, hla⟩ : ∃ la, varsOf a.subs = la := ⟨_, rfl⟩
        obtain ⟨lb, hlb⟩ : ∃ lb, varsOf b.subs = lb := ⟨_, rfl⟩
        obtain ⟨lc, hlc⟩ : ∃ lc, varsOf (joinE w1.heap.size a b).subs = lc := ⟨_, rfl⟩
        rw [hla] at x1 hpr htw
        rw [hlb] at x2
        rw [show b.subs.foldl vstep [] = lb from hlb] at htw
        rw [hlc] at x3 hpr htw
        have hap : ∀ (i k : Nat) (hk : k < i) (hi : i < lc.length), ((vname lc[i]).toList == (vname (lc[k]'(by omega))).toList) = false := by
          subst hlc
          exact fun i k hk hi => join_apart HOK.out.1 HOK.out.2 i k hk hi
        have HAP := hid hap
        obtain ⟨na, hna'⟩ : ∃ na, a.subs.length = na := ⟨_, rfl⟩
        obtain ⟨nb, hnb'⟩ : ∃ nb, b.subs.length = nb := ⟨_, rfl⟩
        rw [hna'] at P27a P27c hna
        rw [hnb'] at P27b P27c hnb
        have Q13 := hid P13; have Q27a := hid P27a; have Q27b := hid P27b; have Q27c := hid P27c; have Q9 := hid h9
        clear hap hla hlb hlc R1 R2 R3 hcI h12a h12b h13a h13b hva hvb hvc P13 P27a P27b P27c h9 hna' hnb' hcl
        have X1 := hid x1
        have X3 := hid x3
        obtain ⟨ad1, cp1, rfl, p1, p2, p3, -⟩ := x1
        obtain ⟨ad2, cp2, rfl, q1, q2, q3, -⟩ := x2
        obtain ⟨ad3, cp3, rfl, u1, u2, u3, u4⟩ := x3
        have hT : ∀ cp, la.length ≤ cp → cp ≤ maxLen → Calls Tryd.prog 17 #[.slice ad3 la.length cp, .slice ad1 la.length cp1] w2 fun e w' => e = .returned (.bool true) ∧ Below w2.heap.size w2 w' := by
          intro cp h1 h2
          have X1' := X1.out
          rw [List.length_map] at X1'
          refine texts_same (la.map vname) _ _ w2 ⟨ad3, cp, by simp, by simpa using h1, h2, by simpa using p3, ?_⟩ X1'
          rcases u4 with h | ⟨g, off, h3, h4, h5⟩
          · have hn : lc = [] := by simpa using h
            rw [hn] at hpr
            left
            rw [List.prefix_nil.1 hpr]; rfl
          · refine .inr ⟨g, off, h3, h4, fun j hj => ?_⟩
            have hj' : j < la.length := by simpa using hj
            have hjc : j < lc.length := by have := hpr.length_le; omega
            rw [h5 j (by simpa using hjc)]
            simp [hpr.getElem hj']
        have hlL := hpr.length_le
        simp only [List.length_map, List.length_nil, Nat.add_zero] at p1 p3 q1 q3 u1 u3 htw ⊢
        have HU4 := hid u4
        clear u4 hpr
        have HM1 := hid p2; have HM2 := hid q2; have HM3 := hid u2
        obtain ⟨L, hL⟩ : ∃ L, la.length = L := ⟨_, rfl⟩
        obtain ⟨M, hM⟩ : ∃ M, lb.length = M := ⟨_, rfl⟩
        obtain ⟨K, hK⟩ : ∃ K, lc.length = K := ⟨_, rfl⟩
        rw [hL] at p1 p3 htw hlL hT ⊢
        rw [hM] at q1 q3 htw ⊢
        rw [hK] at u1 u3 htw hlL ⊢
        have HL := hid hL; have HM := hid hM; have HK := hid hK
        clear hL hM hK p2 q2 u2
        have i1 : (K : Int) ≤ (L : Int) + (M : Int) := by omega
        have i2 : (L : Int) ≤ (K : Int) := by omega
        have hT3 := hT cp3 (by omega) HM3.out
        clear hT
        have i3 : cp3 ≤ 9223372036854775807 := by have := HM3.out; unfold maxLen at this; omega
        cases ad3 with
        | none =>
          have hl0 : lc = [] := by
            rcases HU4.out with h | ⟨g, off, h3, _⟩
            · simpa using h
            · cases h3
          obtain rfl : K = 0 := by have := HK.out; rw [hl0] at this; simpa using this.symm
          obtain rfl : L = 0 := by omega
          go_wp2_with (go_at_call 17; refine hT3.mono ?_; rintro r w3 ⟨rfl, hb3⟩)
          clear hT3
          go_loopw [9] (fun i wr => ∃ x : Nat, x ≤ 0 ∧ i = .int .i64 x ∧ Below w3.heap.size w3 wr) (fun i _ => 0 - (intOf i).toNat)
          case atStart => exact ⟨0, by omega, rfl, Below.refl _ _⟩
          case round =>
            obtain ⟨x, hx, rfl, hbx⟩ := hrel
            obtain rfl : x = 0 := by omega
            go_wp2_with fail
            have BX := (B2.tr le_rfl' hb3).tr le_rfl' hbx
            refine reg15 _ _ _ _ _ _ _ _ _ _ _ _ _ _ _ _ _ _ _ _ _ _ _ _ _ _ _ _ _ _ _ _ _ _ _ _ _ _ _ _ _ _ _ _ _ _ _ _ _ _ _ _ _ _ _ _ _ _ _ _ _ _ _ _ _ _ _ _ _ _ _ _ _ _ _ _ _ _ _ _ _ _ _ _ _ _ _ _ _ _ _ _ _ w.heap.size (w.heap.size + 1) na nb (by omega) (by omega) _ (six_keep hcA (hBW3.tr le_rfl' BX)) (six_keep hcB (hBW3.tr le_rfl' BX)) (fun W hW => Q27a.out W (BX.tr le_rfl' hW)) (fun W hW => Q27b.out W (BX.tr le_rfl' hW)) ?_
            intro w5 B5
            have BY := BX.tr le_rfl' B5
            obtain ⟨m0, m1, m2, m3, m4, m5⟩ := six_keep hcg BY
            have hnn : 0 ≤ (na : Int) + (nb : Int) ∧ (na : Int) + (nb : Int) ≤ 2000 := by omega
            go_wp2_with (first
              | (go_at_call 13; refine (Q13.out _ BY).mono ?_; rintro r w6 ⟨rfl, hb6⟩; have BZ := BY.tr le_rfl' hb6; obtain ⟨m0, m1, m2, m3, m4, m5⟩ := six_keep hcg BZ)
              | (go_at_call 27; refine (Q27c.out _ BZ).mono ?_; rintro r w7 ⟨rfl, hb7⟩; have BV := BZ.tr le_rfl' hb7)
              | (go_at_call 9; refine (Q9.out _ (hBw3.tr le_rfl' BV)).mono ?_; rintro r w8 ⟨rfl, hb8⟩))
            go_ret
            exact ⟨rfl, (hBw3.tr le_rfl' BV).tr le_rfl' hb8⟩
        | some A3 =>
          go_wp2_with (go_at_call 17; refine hT3.mono ?_; rintro r w3 ⟨rfl, hb3⟩)
          clear hT3
          go_loopw [9] (fun i wr => ∃ x : Nat, x ≤ K ∧ i = .int .i64 x ∧ Below w3.heap.size w3 wr) (fun i _ => K - (intOf i).toNat)
          case atStart => exact ⟨0, by omega, rfl, Below.refl _ _⟩
          case round =>
            obtain ⟨x, hx, rfl, hbx⟩ := hrel
            by_cases hxl : x < K
            · rcases HU4.out with h | ⟨g, off, h3, h4, h5⟩
              · exfalso
                have := HK.out
                have h' : lc = [] := by simpa using h
                rw [h'] at this; simp at this; omega
              obtain rfl : A3 = ⟨g, off, none⟩ := by simpa using h3
              have cells : ∀ (y : Nat) (hy : y < lc.length) (W : World), Below w3.heap.size w3 W → W.cell? ⟨g, off + y, none⟩ = some (.string (vname lc[y])) := fun y hy W hW => by
                have e := h5 y (by simpa using hy)
                simp only [List.getElem_map] at e
                exact ((hb3.tr le_rfl' hW).cell (p := ⟨g, _, none⟩) h4).trans e
              have HC := hid cells
              clear cells h5 h3
              go_wp2
              go_loopw [10] (fun k wr => ∃ y : Nat, y ≤ x ∧ k = .int .i64 y ∧ Below w3.heap.size w3 wr) (fun k _ => x - (intOf k).toNat)
              case atStart => exact ⟨0, by omega, rfl, hbx⟩
              case round =>
                obtain ⟨y, hy, rfl, hby⟩ := hrel
                by_cases hyl : y < x
                · have hxc : x < lc.length := by have := HK.out; omega
                  have c1 := HC.out x hxc wr hby
                  have c2 := HC.out y (by omega) wr hby
                  have hne := HAP.out x y hyl hxc
                  have k1 : (x : Int) < (K : Int) := by omega
                  have k2 : (y : Int) < (K : Int) := by omega
                  have k3 : (y : Int) < (x : Int) := by omega
                  go_wp2_with fail
                  go_quiet (fail)
                  go_wp2
                  go_roundw
                  case rel => exact ⟨y + 1, by omega, by go_num, below_drewN hby _⟩
                  case measure => simp [intOf]; omega
                · go_wp2
                  go_roundw
                  case rel => exact ⟨x + 1, by omega, by go_num, hby⟩
                  case measure => simp [intOf]; omega
            · go_wp2_with fail
              have BX := (B2.tr le_rfl' hb3).tr le_rfl' hbx
              refine reg15 _ _ _ _ _ _ _ _ _ _ _ _ _ _ _ _ _ _ _ _ _ _ _ _ _ _ _ _ _ _ _ _ _ _ _ _ _ _ _ _ _ _ _ _ _ _ _ _ _ _ _ _ _ _ _ _ _ _ _ _ _ _ _ _ _ _ _ _ _ _ _ _ _ _ _ _ _ _ _ _ _ _ _ _ _ _ _ _ _ _ _ _ _ w.heap.size (w.heap.size + 1) na nb (by omega) (by omega) _ (six_keep hcA (hBW3.tr le_rfl' BX)) (six_keep hcB (hBW3.tr le_rfl' BX)) (fun W hW => Q27a.out W (BX.tr le_rfl' hW)) (fun W hW => Q27b.out W (BX.tr le_rfl' hW)) ?_
              intro w5 B5
              have BY := BX.tr le_rfl' B5
              obtain ⟨m0, m1, m2, m3, m4, m5⟩ := six_keep hcg BY
              have hnn : 0 ≤ (na : Int) + (nb : Int) ∧ (na : Int) + (nb : Int) ≤ 2000 := by omega
              go_wp2_with (first
                | (go_at_call 13; refine (Q13.out _ BY).mono ?_; rintro r w6 ⟨rfl, hb6⟩; have BZ := BY.tr le_rfl' hb6; obtain ⟨m0, m1, m2, m3, m4, m5⟩ := six_keep hcg BZ)
                | (go_at_call 27; refine (Q27c.out _ BZ).mono ?_; rintro r w7 ⟨rfl, hb7⟩; have BV := BZ.tr le_rfl' hb7)
                | (go_at_call 9; refine (Q9.out _ (hBw3.tr le_rfl' BV)).mono ?_; rintro r w8 ⟨rfl, hb8⟩))
              go_ret
              exact ⟨rfl, (hBw3.tr le_rfl' BV).tr le_rfl' hb8⟩
      · go_enter Tryd.func7, Tryd.ntmps7
        go_wp2_with fail
        refine reg1C _ _ _ _ _ _ _ _ _ _ _ _ _ _ _ w.heap.size (w.heap.size + 1) ra rb oa ob true _ hcA hcB (fun W hW => h12a W (hBW.tr le_rfl' hW)) (fun W hW => h12b W (hBW.tr le_rfl' hW)) (fun W hW => h13a W (hBW.tr le_rfl' hW)) (fun W hW => h13b W (hBW.tr le_rfl' hW)) hpa hpb hoo hs ?_
        intro w1 B1
        go_wp2_with (go_at_call 9; refine (h9 _ (hBW.tr le_rfl' B1)).mono ?_; rintro r w2 ⟨rfl, hb2⟩)
        go_ret
        exact ⟨rfl, (hBW.tr le_rfl' B1).tr le_rfl' hb2⟩
    · go_enter Tryd.func7, Tryd.ntmps7
      go_wp2_with fail
      refine reg1B _ _ _ _ _ _ _ _ _ _ _ _ _ _ _ w.heap.size (w.heap.size + 1) ra rb _ hcA hcB (fun W hW => h12a W (hBW.tr le_rfl' hW)) (fun W hW => h12b W (hBW.tr le_rfl' hW)) hpa hpb ?_
      intro w1 B1
      go_wp2_with (go_at_call 9; refine (h9 _ (hBW.tr le_rfl' B1)).mono ?_; rintro r w2 ⟨rfl, hb2⟩)
      go_ret
      exact ⟨rfl, (hBW.tr le_rfl' B1).tr le_rfl' hb2⟩
  · go_enter Tryd.func7, Tryd.ntmps7
    go_wp2_with fail
    refine reg1A _ _ _ _ _ _ _ _ _ _ _ _ _ _ _ w.heap.size (w.heap.size + 1) ra _ hcA hcB (fun W hW => h12a W (hBW.tr le_rfl' hW)) hpa ?_
    intro w1 B1
    go_wp2_with (go_at_call 9; refine (h9 _ (hBW.tr le_rfl' B1)).mono ?_; rintro r w2 ⟨rfl, hb2⟩)
    go_ret
    exact ⟨rfl, (hBW.tr le_rfl' B1).tr le_rfl' hb2⟩
end Go.Proofs.YtjgomkkmmhkpdaaDoor
