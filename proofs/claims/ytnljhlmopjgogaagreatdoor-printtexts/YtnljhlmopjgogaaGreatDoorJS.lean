/-
  stmt of the document's print: kinds that have no blocks.
-/
import Derived.Test.YtnljhlmopjgogaaGreatDoorJR
import Derived.Test.YtnljhlmopjgogaaGreatDoorPnC
import Derived.Deep.RegionHeld3
import Derived.Deep.Cut
namespace Go.Proofs.YtnljhlmopjgogaaGreatDoor
open Go.RowKit Px
namespace Px
theorem docB_app (o : Nat) (mid : List UInt8) (l r : List (List UInt8)) (i : Nat) : docB o mid (l ++ r) i = docB o mid l i ++ docB o mid r (i + l.length) := by
  induction l generalizing i with
  | nil => simp [docB]
  | cons b l ih => simp only [List.cons_append, docB, ih, List.append_assoc, List.length_cons]; rw [show i + 1 + l.length = i + (l.length + 1) by omega]
theorem docB_snoc (o : Nat) (mid : List UInt8) (l : List (List UInt8)) (k : Nat) (h : k < l.length) : docB o mid (l.take (k + 1)) 0 = docB o mid (l.take k) 0 ++ ((if k = 0 then [] else lin o mid) ++ l[k]) := by
  rw [List.take_succ_eq_append_getElem h, docB_app, List.length_take]
  simp [docB, Nat.min_eq_left (Nat.le_of_lt h)]
theorem docB_one (o : Nat) (mid : List UInt8) (b : List UInt8) : docB o mid [b] 0 = b := by simp [docB]
theorem docB_any (o : Nat) (word head : List UInt8) (bs : List (List UInt8)) (h : 1 ≤ bs.length) : ind o ++ (head ++ (blksT o word bs 0 ++ [10])) = lin o (head ++ [32, 123]) ++ (docB o (125 :: 32 :: (word ++ [32, 123])) bs 0 ++ lin o [125]) := by
  cases bs with
  | nil => simp at h
  | cons b bs => exact docB_all o word head b bs
theorem docB_sole (o : Nat) (head mid : List UInt8) (bs : List (List UInt8)) (h : bs.length = 1) : ind o ++ (head ++ (blksT o [] bs 0 ++ [10])) = lin o (head ++ [32, 123]) ++ (docB o mid bs 0 ++ lin o [125]) := by
  match bs, h with
  | [b], _ => rw [docB_all o [] head b [], docB_one, docB_one]
end Px
def St.kind : St → Int
  | .mk k _ _ _ _ _ _ _ _ => k
/-- The document's stmt tells the text of s. -/
def StTxt (s : St) : Prop := ∀ (n₀ o : Nat) (w : World), n₀ ≤ w.heap.size → s.Is n₀ w → o + s.tot ≤ 1000 →
  Calls Tryz.prog 43 #[s.val, .int .i64 (o : Int)] w fun r w' => r = .returned (.string ⟨(s.txt o).toArray⟩) ∧ Below w.heap.size w w'
/-- The document's stmts tells the text of x. -/
def BlTxt (x : Bl) : Prop := x.okb → ∀ (n₀ o : Nat) (w : World), n₀ ≤ w.heap.size → x.Is n₀ w → o + x.sz ≤ 1000 →
  Calls Tryz.prog 23 #[x.slice, .int .i64 (o : Int)] w fun r w' => r = .returned (.string ⟨(x.txt o).toArray⟩) ∧ Below w.heap.size w w'
theorem ba_size {s : ByteArray} {l : List UInt8} (h : s.data.toList = l) : s.size = l.length := by rw [← h]; simp
end Go.Proofs.YtnljhlmopjgogaaGreatDoor
namespace Go.Proofs.YtnljhlmopjgogaaGreatDoor
open Go.RowKit Px
set_option maxRecDepth 100000 in
set_option maxHeartbeats 2000000 in
theorem stR_simple (s : St) (hok : s.ok1 = true) (hoks : ∀ x ∈ s.blocks, x.okb) (hx : ∀ x ∈ s.blocks, BlTxt x) (hkk : s.kind = 1 ∨ s.kind = 2 ∨ s.kind = 8 ∨ s.kind = 9 ∨ s.kind = 10 ∨ s.kind = 11) : StTxt s := by
  intro n₀ o w hn hI ho
  rcases s with ⟨kind, mon, name, n, ⟨eop, emon, ename, en, ead, ecap, ekids, epos⟩, ad, cap, blocks, pos⟩
  simp only [St.kind] at hkk
  obtain ⟨⟨hk1, hk2⟩, hfm, hfn, hfu, hfe, hlo, hhi⟩ := St.ok_parts hok
  have hmon : mon.size ≤ 32 := by have := fits_len hfm; simpa using this
  have hname : name.size ≤ 32 := by have := fits_len hfn; simpa using this
  have hnum : I64 n := hI.down.1.2.1
  have hIe := hI.down.2.1
  have hIb := hI.down.2.2
  have hcap := hIb.1.1
  have hcap2 := hIb.1.2.1
  unfold maxLen at hcap2
  have hb8 : blocks.length ≤ 8 := by have := stMost_le kind.toNat; omega
  rw [St.tot_mk] at ho
  have htot := hid ho
  have ho1 : o + 1 + (blocks.map Bl.sz).sum ≤ 1000 := by omega
  have HT := hid (St.txt_mk kind mon name n (Ex.mk eop emon ename en ead ecap ekids epos) ad cap blocks pos o)
  have bS : (w.alloc (.cells #[.int .i64 kind, .string mon, .string name, .int .i64 n, .int .i64 eop, .string emon, .string ename, .int .i64 en, .slice ead ekids.length ecap, .int .i64 epos, .slice ad blocks.length cap, .int .i64 pos] 55)).heap[w.heap.size]? = some (.cells #[.int .i64 kind, .string mon, .string name, .int .i64 n, .int .i64 eop, .string emon, .string ename, .int .i64 en, .slice ead ekids.length ecap, .int .i64 epos, .slice ad blocks.length cap, .int .i64 pos] 55 (0, 0)) := heap_alloc_new w _
  have hB0 : Below w.heap.size w (w.alloc (.cells #[.int .i64 kind, .string mon, .string name, .int .i64 n, .int .i64 eop, .string emon, .string ename, .int .i64 en, .slice ead ekids.length ecap, .int .i64 epos, .slice ad blocks.length cap, .int .i64 pos] 55)) := (Below.refl _ w).al le_rfl' _
  have hL : Hid (∀ (s : ByteArray) (W : World), s.size ≤ 1000000000 → Calls Tryz.prog 21 #[.int .i64 (o : Int), .string s] W fun r w' => r = .returned (.string ⟨(lin o s.data.toList).toArray⟩) ∧ w' = W) := fun s W h => line_ref o s W (by omega) (by omega)
  obtain ⟨ET, hET⟩ : ∃ s : ByteArray, s = ⟨((Ex.mk eop emon ename en ead ecap ekids epos).txt 1).toArray⟩ := ⟨_, rfl⟩
  have HET : Hid (ET.data.toList = (Ex.mk eop emon ename en ead ecap ekids epos).txt 1) := by show _ = _; rw [hET]
  have hexp : (Ex.mk eop emon ename en ead ecap ekids epos).ok = true → ET.size ≤ 200000 ∧ ∀ W, Below w.heap.size w W → Calls Tryz.prog 72 #[.agg #[.int .i64 eop, .string emon, .string ename, .int .i64 en, .slice ead ekids.length ecap, .int .i64 epos], .int .i64 1] W fun r w' => r = .returned (.string ET) ∧ Below W.heap.size W w' := fun hk => by
    have hsb : (Ex.mk eop emon ename en ead ecap ekids epos).subs.length ≤ 1000 := by
      have h1 := htot.out
      rw [ok_none hk] at h1
      simp only [Bool.false_eq_true, if_false] at h1
      omega
    refine ⟨?_, fun W h => ?_⟩
    · have h3 := bare_len _ n₀ w hIe hk
      have h4 := atL_len 1 (Ex.mk eop emon ename en ead ecap ekids epos).opOf (Ex.mk eop emon ename en ead ecap ekids epos).bare
      rw [ba_size HET.out]
      unfold Ex.txt; omega
    · have := refExpr_any _ hk n₀ W 1 (by have := h.size; omega) (hIe.below (h.mono hn)) (by omega)
      rw [hET]
      exact this
  simp only [St.val, St.cells, Ex.cells, List.cons_append, List.nil_append]
  obtain ⟨R, hR⟩ : ∃ R : ByteArray, (⟨((St.mk kind mon name n (Ex.mk eop emon ename en ead ecap ekids epos) ad cap blocks pos).txt o).toArray⟩ : ByteArray) = R := ⟨_, rfl⟩
  rw [hR]
  have HRR := hid hR
  clear hET ho hR
  go_enter Tryz.func43, Tryz.ntmps43
  go_upto_region 2 with fail
  obtain ⟨W0, hW0⟩ : ∃ W0, w.alloc (.cells #[.int .i64 kind, .string mon, .string name, .int .i64 n, .int .i64 eop, .string emon, .string ename, .int .i64 en, .slice ead ekids.length ecap, .int .i64 epos, .slice ad blocks.length cap, .int .i64 pos] 55) = W0 := ⟨_, rfl⟩
  rw [hW0] at bS hB0 ⊢
  have hlt0 : w.heap.size < W0.heap.size := (Array.getElem?_eq_some_iff.1 bS).1
  have HBX : Hid (∀ W, Below W0.heap.size W0 W → W.heap[w.heap.size]? = some (.cells #[.int .i64 kind, .string mon, .string name, .int .i64 n, .int .i64 eop, .string emon, .string ename, .int .i64 en, .slice ead ekids.length ecap, .int .i64 epos, .slice ad blocks.length cap, .int .i64 pos] 55 (0, 0))) := fun W hW => (hW.block _ hlt0).trans bS
  have d0 : W0.cell? ⟨w.heap.size, 0, none⟩ = some (.int .i64 kind) := cell_of' bS 0
  have d1 : W0.cell? ⟨w.heap.size, 1, none⟩ = some (.string mon) := cell_of' bS 1
  have d2 : W0.cell? ⟨w.heap.size, 2, none⟩ = some (.string name) := cell_of' bS 2
  have d3 : W0.cell? ⟨w.heap.size, 3, none⟩ = some (.int .i64 n) := cell_of' bS 3
  have d4 : W0.cell? ⟨w.heap.size, 4, none⟩ = some (.int .i64 eop) := cell_of' bS 4
  have d5 : W0.cell? ⟨w.heap.size, 5, none⟩ = some (.string emon) := cell_of' bS 5
  have d6 : W0.cell? ⟨w.heap.size, 6, none⟩ = some (.string ename) := cell_of' bS 6
  have d7 : W0.cell? ⟨w.heap.size, 7, none⟩ = some (.int .i64 en) := cell_of' bS 7
  have d8 : W0.cell? ⟨w.heap.size, 8, none⟩ = some (.slice ead ekids.length ecap) := cell_of' bS 8
  have d9 : W0.cell? ⟨w.heap.size, 9, none⟩ = some (.int .i64 epos) := cell_of' bS 9
  have d10 : W0.cell? ⟨w.heap.size, 10, none⟩ = some (.slice ad blocks.length cap) := cell_of' bS 10
  clear hW0 hfm hfn hI
  rcases hkk with rfl | rfl | rfl | rfl | rfl | rfl
  · have HTX : Hid ((St.mk 1 mon name n (Ex.mk eop emon ename en ead ecap ekids epos) ad cap blocks pos).txt o = lin o ((⟨#[115, 107, 105, 112, 59]⟩ : ByteArray)).data.toList) := by show _ = _; rw [HT.out]; simp [stOf, lin]
    have hl : ∀ W, Calls Tryz.prog 21 #[.int .i64 (o : Int), .string ((⟨#[115, 107, 105, 112, 59]⟩ : ByteArray))] W fun r w' => r = .returned (.string R) ∧ w' = W := fun W => by
      have := hL.out ((⟨#[115, 107, 105, 112, 59]⟩ : ByteArray)) W (by (try simp only [ByteArray.size_append']); show 5 ≤ 1000000000; omega)
      rw [← HTX.out, HRR.out] at this
      exact this
    clear HT hL HTX HRR
    clear hexp d4 d5 d6 d7 d8 d9 d10
    go_wp2_with (go_at_call 21; (with_reducible refine (hl _).mono ?_); rintro r w' ⟨rfl, hw'⟩; have hw2 := hw'.symm; subst hw2)
    go_ret
    exact ⟨rfl, hB0⟩
  · obtain ⟨hez, hxx⟩ := hexp (ex_of_fits hfe (by decide))
    clear hexp
    have HTX : Hid ((St.mk 2 mon name n (Ex.mk eop emon ename en ead ecap ekids epos) ad cap blocks pos).txt o = lin o (mon ++ ⟨#[46]⟩ ++ name ++ ⟨#[32, 61, 32]⟩ ++ ET ++ ⟨#[59]⟩).data.toList) := by show _ = _; rw [HT.out]; simp [stOf, lin, ByteArray.data_append, HET.out]
    have hl : ∀ W, Calls Tryz.prog 21 #[.int .i64 (o : Int), .string (mon ++ ⟨#[46]⟩ ++ name ++ ⟨#[32, 61, 32]⟩ ++ ET ++ ⟨#[59]⟩)] W fun r w' => r = .returned (.string R) ∧ w' = W := fun W => by
      have := hL.out (mon ++ ⟨#[46]⟩ ++ name ++ ⟨#[32, 61, 32]⟩ ++ ET ++ ⟨#[59]⟩) W (by (try simp only [ByteArray.size_append']); show mon.size + 1 + name.size + 3 + ET.size + 1 ≤ 1000000000; omega)
      rw [← HTX.out, HRR.out] at this
      exact this
    have g0 : ¬ (9223372036854775807 < mon.size + 1) := by omega
    have g1 : ¬ (9223372036854775807 < mon.size + 1 + name.size) := by omega
    have g2 : ¬ (9223372036854775807 < mon.size + 1 + name.size + 3) := by omega
    have g3 : ¬ (9223372036854775807 < mon.size + 1 + name.size + 3 + ET.size) := by omega
    have g4 : ¬ (9223372036854775807 < mon.size + 1 + name.size + 3 + ET.size + 1) := by omega
    clear HT hL HTX HRR
    have B := below_drewE (Below.refl W0.heap.size W0)
    have HK : Hid (∀ W, Below W0.heap.size W0 W → W.cell? ⟨w.heap.size, 1, none⟩ = some (.string mon) ∧ W.cell? ⟨w.heap.size, 2, none⟩ = some (.string name) ∧ W.cell? ⟨w.heap.size, 4, none⟩ = some (.int .i64 eop) ∧ W.cell? ⟨w.heap.size, 5, none⟩ = some (.string emon) ∧ W.cell? ⟨w.heap.size, 6, none⟩ = some (.string ename) ∧ W.cell? ⟨w.heap.size, 7, none⟩ = some (.int .i64 en) ∧ W.cell? ⟨w.heap.size, 8, none⟩ = some (.slice ead ekids.length ecap) ∧ W.cell? ⟨w.heap.size, 9, none⟩ = some (.int .i64 epos)) := fun W h => by
      have g := HBX.out W h
      exact ⟨cell_of' g 1, cell_of' g 2, cell_of' g 4, cell_of' g 5, cell_of' g 6, cell_of' g 7, cell_of' g 8, cell_of' g 9⟩
    clear d1 d2 d3 d4 d5 d6 d7 d8 d9 d10
    go_wp2_with fail
    go_region_held3 (fun W => W.cell? ⟨w.heap.size, 1, none⟩ = some (.string mon) ∧ W.cell? ⟨w.heap.size, 2, none⟩ = some (.string name) ∧ W.cell? ⟨w.heap.size, 4, none⟩ = some (.int .i64 eop) ∧ W.cell? ⟨w.heap.size, 5, none⟩ = some (.string emon) ∧ W.cell? ⟨w.heap.size, 6, none⟩ = some (.string ename) ∧ W.cell? ⟨w.heap.size, 7, none⟩ = some (.int .i64 en) ∧ W.cell? ⟨w.heap.size, 8, none⟩ = some (.slice ead ekids.length ecap) ∧ W.cell? ⟨w.heap.size, 9, none⟩ = some (.int .i64 epos)) (exact HK.out _ B)
      (first
        | (go_at_call 72; refine (hxx _ (hB0.trans (B.mono (by omega)))).mono ?_; rintro r u1 ⟨rfl, bb⟩; have B := B.tr le_rfl' bb)
        | (go_at_call 21; (with_reducible refine (hl _).mono ?_); rintro r w' ⟨rfl, hw'⟩; have hw2 := hw'.symm; subst hw2))
    all_goals go_wp2
    all_goals go_ret
    all_goals exact ⟨rfl, hB0.trans (B.mono (by omega))⟩
  · have HTX : Hid ((St.mk 8 mon name n (Ex.mk eop emon ename en ead ecap ekids epos) ad cap blocks pos).txt o = lin o ((⟨#[99, 97, 108, 108, 32]⟩ : ByteArray) ++ mon ++ ⟨#[46]⟩ ++ name ++ ⟨#[59]⟩).data.toList) := by show _ = _; rw [HT.out]; simp [stOf, lin, ByteArray.data_append]
    have hl : ∀ W, Calls Tryz.prog 21 #[.int .i64 (o : Int), .string ((⟨#[99, 97, 108, 108, 32]⟩ : ByteArray) ++ mon ++ ⟨#[46]⟩ ++ name ++ ⟨#[59]⟩)] W fun r w' => r = .returned (.string R) ∧ w' = W := fun W => by
      have := hL.out ((⟨#[99, 97, 108, 108, 32]⟩ : ByteArray) ++ mon ++ ⟨#[46]⟩ ++ name ++ ⟨#[59]⟩) W (by (try simp only [ByteArray.size_append']); show 5 + mon.size + 1 + name.size + 1 ≤ 1000000000; omega)
      rw [← HTX.out, HRR.out] at this
      exact this
    have g0 : ¬ (9223372036854775807 < 5 + mon.size) := by omega
    have g1 : ¬ (9223372036854775807 < 5 + mon.size + 1) := by omega
    have g2 : ¬ (9223372036854775807 < 5 + mon.size + 1 + name.size) := by omega
    have g3 : ¬ (9223372036854775807 < 5 + mon.size + 1 + name.size + 1) := by omega
    clear HT hL HTX HRR
    clear hexp d4 d5 d6 d7 d8 d9 d10
    go_wp2_with (go_at_call 21; (with_reducible refine (hl _).mono ?_); rintro r w' ⟨rfl, hw'⟩; have hw2 := hw'.symm; subst hw2)
    go_ret
    exact ⟨rfl, hB0⟩
  · by_cases hpos : 0 < n
    · obtain ⟨DG, hDG⟩ : ∃ s : ByteArray, s = ⟨(Lib.itoa n).toArray⟩ := ⟨_, rfl⟩
      have HDG : Hid (DG.data.toList = Lib.itoa n) := by show _ = _; rw [hDG]
      have hdz : DG.size ≤ 20 := by have := itoa_len n hnum; rw [ba_size HDG.out]; exact this
      have hdg : ∀ W, Calls Tryz.prog 24 #[.int .i64 n] W fun r w' => r = .returned (.string DG) ∧ w' = W := fun W => by rw [hDG]; exact digits_any n W hnum
      clear hDG
      have hpd : decide (0 < n) = true := by simpa using hpos
      have hpg : n > 0 := hpos
      have HTX : Hid ((St.mk 9 mon name n (Ex.mk eop emon ename en ead ecap ekids epos) ad cap blocks pos).txt o = lin o ((⟨#[119, 97, 105, 116, 32]⟩ : ByteArray) ++ mon ++ ⟨#[32]⟩ ++ DG ++ ⟨#[59]⟩).data.toList) := by show _ = _; rw [HT.out]; simp [stOf, lin, ByteArray.data_append, HDG.out, hpos]
      have hl : ∀ W, Calls Tryz.prog 21 #[.int .i64 (o : Int), .string ((⟨#[119, 97, 105, 116, 32]⟩ : ByteArray) ++ mon ++ ⟨#[32]⟩ ++ DG ++ ⟨#[59]⟩)] W fun r w' => r = .returned (.string R) ∧ w' = W := fun W => by
        have := hL.out ((⟨#[119, 97, 105, 116, 32]⟩ : ByteArray) ++ mon ++ ⟨#[32]⟩ ++ DG ++ ⟨#[59]⟩) W (by (try simp only [ByteArray.size_append']); show 5 + mon.size + 1 + DG.size + 1 ≤ 1000000000; omega)
        rw [← HTX.out, HRR.out] at this
        exact this
      have g0 : ¬ (9223372036854775807 < 5 + mon.size) := by omega
      have g1 : ¬ (9223372036854775807 < 5 + mon.size + 1) := by omega
      have g2 : ¬ (9223372036854775807 < 5 + mon.size + 1 + DG.size) := by omega
      have g3 : ¬ (9223372036854775807 < 5 + mon.size + 1 + DG.size + 1) := by omega
      clear HT hL HTX HRR
      have B := below_drewE (Below.refl W0.heap.size W0)
      have HK : Hid (∀ W, Below W0.heap.size W0 W → W.cell? ⟨w.heap.size, 1, none⟩ = some (.string mon) ∧ W.cell? ⟨w.heap.size, 3, none⟩ = some (.int .i64 n)) := fun W h => by
        have g := HBX.out W h
        exact ⟨cell_of' g 1, cell_of' g 3⟩
      clear hexp d1 d2 d4 d5 d6 d7 d8 d9 d10
      go_wp2_with fail
      go_region_held3 (fun W => W.cell? ⟨w.heap.size, 1, none⟩ = some (.string mon) ∧ W.cell? ⟨w.heap.size, 3, none⟩ = some (.int .i64 n)) (exact HK.out _ B)
        (first
          | (go_at_call 24; (with_reducible refine (hdg _).mono ?_); rintro r w' ⟨rfl, hw'⟩; have hw2 := hw'.symm; subst hw2)
          | (go_at_call 21; (with_reducible refine (hl _).mono ?_); rintro r w' ⟨rfl, hw'⟩; have hw2 := hw'.symm; subst hw2))
      all_goals go_wp2
      all_goals go_ret
      all_goals exact ⟨rfl, hB0.trans (B.mono (by omega))⟩
    · have hpd : decide (0 < n) = false := by simpa using hpos
      have hpg : ¬ n > 0 := hpos
      have HTX : Hid ((St.mk 9 mon name n (Ex.mk eop emon ename en ead ecap ekids epos) ad cap blocks pos).txt o = lin o ((⟨#[119, 97, 105, 116, 32]⟩ : ByteArray) ++ mon ++ ⟨#[59]⟩).data.toList) := by show _ = _; rw [HT.out]; simp [stOf, lin, ByteArray.data_append, hpos]
      have hl : ∀ W, Calls Tryz.prog 21 #[.int .i64 (o : Int), .string ((⟨#[119, 97, 105, 116, 32]⟩ : ByteArray) ++ mon ++ ⟨#[59]⟩)] W fun r w' => r = .returned (.string R) ∧ w' = W := fun W => by
        have := hL.out ((⟨#[119, 97, 105, 116, 32]⟩ : ByteArray) ++ mon ++ ⟨#[59]⟩) W (by (try simp only [ByteArray.size_append']); show 5 + mon.size + 1 ≤ 1000000000; omega)
        rw [← HTX.out, HRR.out] at this
        exact this
      have g0 : ¬ (9223372036854775807 < 5 + mon.size) := by omega
      have g1 : ¬ (9223372036854775807 < 5 + mon.size + 1) := by omega
      clear HT hL HTX HRR
      clear hexp d4 d5 d6 d7 d8 d9 d10
      go_wp2_with (go_at_call 21; (with_reducible refine (hl _).mono ?_); rintro r w' ⟨rfl, hw'⟩; have hw2 := hw'.symm; subst hw2)
      go_ret
      exact ⟨rfl, hB0⟩
  · have HTX : Hid ((St.mk 10 mon name n (Ex.mk eop emon ename en ead ecap ekids epos) ad cap blocks pos).txt o = lin o ((⟨#[110, 111, 116, 105, 102, 121, 32]⟩ : ByteArray) ++ mon ++ ⟨#[59]⟩).data.toList) := by show _ = _; rw [HT.out]; simp [stOf, lin, ByteArray.data_append]
    have hl : ∀ W, Calls Tryz.prog 21 #[.int .i64 (o : Int), .string ((⟨#[110, 111, 116, 105, 102, 121, 32]⟩ : ByteArray) ++ mon ++ ⟨#[59]⟩)] W fun r w' => r = .returned (.string R) ∧ w' = W := fun W => by
      have := hL.out ((⟨#[110, 111, 116, 105, 102, 121, 32]⟩ : ByteArray) ++ mon ++ ⟨#[59]⟩) W (by (try simp only [ByteArray.size_append']); show 7 + mon.size + 1 ≤ 1000000000; omega)
      rw [← HTX.out, HRR.out] at this
      exact this
    have g0 : ¬ (9223372036854775807 < 7 + mon.size) := by omega
    have g1 : ¬ (9223372036854775807 < 7 + mon.size + 1) := by omega
    clear HT hL HTX HRR
    clear hexp d4 d5 d6 d7 d8 d9 d10
    go_wp2_with (go_at_call 21; (with_reducible refine (hl _).mono ?_); rintro r w' ⟨rfl, hw'⟩; have hw2 := hw'.symm; subst hw2)
    go_ret
    exact ⟨rfl, hB0⟩
  · have HTX : Hid ((St.mk 11 mon name n (Ex.mk eop emon ename en ead ecap ekids epos) ad cap blocks pos).txt o = lin o ((⟨#[110, 111, 116, 105, 102, 121, 97, 108, 108, 32]⟩ : ByteArray) ++ mon ++ ⟨#[59]⟩).data.toList) := by show _ = _; rw [HT.out]; simp [stOf, lin, ByteArray.data_append]
    have hl : ∀ W, Calls Tryz.prog 21 #[.int .i64 (o : Int), .string ((⟨#[110, 111, 116, 105, 102, 121, 97, 108, 108, 32]⟩ : ByteArray) ++ mon ++ ⟨#[59]⟩)] W fun r w' => r = .returned (.string R) ∧ w' = W := fun W => by
      have := hL.out ((⟨#[110, 111, 116, 105, 102, 121, 97, 108, 108, 32]⟩ : ByteArray) ++ mon ++ ⟨#[59]⟩) W (by (try simp only [ByteArray.size_append']); show 10 + mon.size + 1 ≤ 1000000000; omega)
      rw [← HTX.out, HRR.out] at this
      exact this
    have g0 : ¬ (9223372036854775807 < 10 + mon.size) := by omega
    have g1 : ¬ (9223372036854775807 < 10 + mon.size + 1) := by omega
    clear HT hL HTX HRR
    clear hexp d4 d5 d6 d7 d8 d9 d10
    go_wp2_with (go_at_call 21; (with_reducible refine (hl _).mono ?_); rintro r w' ⟨rfl, hw'⟩; have hw2 := hw'.symm; subst hw2)
    go_ret
    exact ⟨rfl, hB0⟩
end Go.Proofs.YtnljhlmopjgogaaGreatDoor
