/-
  stmt of package print lays a statement, if its blocks are laid.
-/
import Derived.Test.YtnljhlmopjgogaaGreatDoorStB
import Derived.Deep.Cut
namespace Go.Proofs.YtnljhlmopjgogaaGreatDoor
open Go.RowKit Px
/-- stmt lays s. -/
def StmtLays (s : St) : Prop := ∀ (n₀ b m o : Nat) (t : List UInt8) (w : World), n₀ ≤ b → s.Is n₀ w → Sh b m o t w → o + s.tot ≤ 1000 → t.length + 100000 * s.tot ≤ 999999999999 →
  Calls Tryz.prog 83 #[.pointer (some ⟨b, 0, none⟩), s.val] w fun r w' => r = .returned (.tuple #[]) ∧ Sh b m o (t ++ s.txt o) w' ∧ Kept b w w'
set_option maxRecDepth 100000 in
set_option maxHeartbeats 2000000 in
theorem stmt_of (s : St) (hok : s.ok1 = true) (hoks : ∀ x ∈ s.blocks, x.okb) (hx : ∀ x ∈ s.blocks, BlockLays x) : StmtLays s := by
  intro n₀ b m o t w hn hI hs ho hlen
  have hbl := hs.bl
  rcases s with ⟨kind, mon, name, n, ⟨eop, emon, ename, en, ead, ecap, ekids, epos⟩, ad, cap, blocks, pos⟩
  obtain ⟨⟨hk1, hk2⟩, hfm, hfn, hfu, hfe, hlo, hhi⟩ := St.ok_parts hok
  have hmon := fits_len hfm
  have hname := fits_len hfn
  have hnum : I64 n := hI.down.1.2.1
  have hIe := hI.down.2.1
  have hIb := hI.down.2.2
  have hcap := hIb.1.1
  have hcap2 := hIb.1.2.1
  unfold maxLen at hcap2
  have hb8 : blocks.length ≤ 8 := by have := stMost_le kind.toNat; omega
  rw [St.tot_mk] at ho hlen
  have htot : Hid (o + ((1 + if (Ex.mk eop emon ename en ead ecap ekids epos).none then 0 else (Ex.mk eop emon ename en ead ecap ekids epos).subs.length) + (blocks.map Bl.sz).sum) ≤ 1000 ∧ t.length + 100000 * ((1 + if (Ex.mk eop emon ename en ead ecap ekids epos).none then 0 else (Ex.mk eop emon ename en ead ecap ekids epos).subs.length) + (blocks.map Bl.sz).sum) ≤ 999999999999) := ⟨ho, hlen⟩
  have ho1 : o + 1 + (blocks.map Bl.sz).sum ≤ 1000 := by omega
  have hlen1 : t.length + 100000 + 100000 * (blocks.map Bl.sz).sum ≤ 999999999999 := by omega
  clear ho hlen
  have HT := hid (St.txt_mk kind mon name n (Ex.mk eop emon ename en ead ecap ekids epos) ad cap blocks pos o)
  have bS : (w.alloc (.cells #[.int .i64 kind, .string mon, .string name, .int .i64 n, .int .i64 eop, .string emon, .string ename, .int .i64 en, .slice ead ekids.length ecap, .int .i64 epos, .slice ad blocks.length cap, .int .i64 pos] 55)).heap[w.heap.size]? = some (.cells #[.int .i64 kind, .string mon, .string name, .int .i64 n, .int .i64 eop, .string emon, .string ename, .int .i64 en, .slice ead ekids.length ecap, .int .i64 epos, .slice ad blocks.length cap, .int .i64 pos] 55 (0, 0)) := heap_alloc_new w _
  have hK0 : Kept b w (w.alloc (.cells #[.int .i64 kind, .string mon, .string name, .int .i64 n, .int .i64 eop, .string emon, .string ename, .int .i64 en, .slice ead ekids.length ecap, .int .i64 epos, .slice ad blocks.length cap, .int .i64 pos] 55)) := (Kept.refl b w).al (by omega) _
  have hs0 := hs.al (.cells #[.int .i64 kind, .string mon, .string name, .int .i64 n, .int .i64 eop, .string emon, .string ename, .int .i64 en, .slice ead ekids.length ecap, .int .i64 epos, .slice ad blocks.length cap, .int .i64 pos] 55)
  have hne : w.heap.size ≠ b := by omega
  have hex : (Ex.mk eop emon ename en ead ecap ekids epos).ok = true → ∀ W t', Sh b m o t' W → Kept b w W → t'.length + (100 * (Ex.mk eop emon ename en ead ecap ekids epos).subs.length + 2) ≤ 1000000000000 → Calls Tryz.prog 29 #[.pointer (some ⟨b, 0, none⟩), .agg #[.int .i64 eop, .string emon, .string ename, .int .i64 en, .slice ead ekids.length ecap, .int .i64 epos], .int .i64 1] W fun r w' => r = .returned (.tuple #[]) ∧ Sh b m o (t' ++ (Ex.mk eop emon ename en ead ecap ekids epos).txt 1) w' ∧ Kept b W w' := fun hk W t' h1 h2 h3 =>
    expr_any _ hk n₀ b m o 1 t' W hn (hIe.below (h2.1.mono hn)) h1 h3
  have hblk : ∀ (word : ByteArray), word.data.toList.length ≤ 10 → ∀ t' W, 1 ≤ blocks.length → Sh b m o t' W → Kept b w W → t'.length + 100000 * (blocks.map Bl.sz).sum + 60000 ≤ 999999999999 → Calls Tryz.prog 37 #[.pointer (some ⟨b, 0, none⟩), .string word, .slice ad blocks.length cap] W fun r w' => r = .returned (.tuple #[]) ∧ Sh b m o (t' ++ (blksT o word.data.toList (bTx blocks o) 0 ++ [10])) w' ∧ Kept b W w' := fun word hw t' W hb1 h1 h2 h3 => by
    obtain ⟨g, off, rfl, hg, hrow⟩ := hIb.1.2.2.resolve_left (by intro h; rw [h] at hb1; simp at hb1)
    refine blocks_any blocks word hx hoks n₀ b m o g off cap t' W hn (fun x hx' => (hIb.2 x hx').below (h2.1.mono hn)) h1 (fun W' h' j hj => ?_) hb8 hcap hcap2 hw ho1 h3
    exact row1 (hrow.below ((h2.trans h').1.mono hn) hg) j hj rfl
  simp only [St.val, St.cells, Ex.cells, List.cons_append, List.nil_append]
  go_enter Tryz.func83, Tryz.ntmps83
  go_upto_region 1 with fail
  clear hok hoks hx hI hfm hfn hs
  obtain ⟨W0, hW0⟩ : ∃ W0, w.alloc (.cells #[.int .i64 kind, .string mon, .string name, .int .i64 n, .int .i64 eop, .string emon, .string ename, .int .i64 en, .slice ead ekids.length ecap, .int .i64 epos, .slice ad blocks.length cap, .int .i64 pos] 55) = W0 := ⟨_, rfl⟩
  rw [hW0] at bS hK0 hs0 ⊢
  have HBX : Hid (∀ W, Kept b W0 W → W.cell? ⟨w.heap.size, 4, none⟩ = some (.int .i64 eop) ∧ W.cell? ⟨w.heap.size, 5, none⟩ = some (.string emon) ∧ W.cell? ⟨w.heap.size, 6, none⟩ = some (.string ename) ∧ W.cell? ⟨w.heap.size, 7, none⟩ = some (.int .i64 en) ∧ W.cell? ⟨w.heap.size, 8, none⟩ = some (.slice ead ekids.length ecap) ∧ W.cell? ⟨w.heap.size, 9, none⟩ = some (.int .i64 epos) ∧ W.cell? ⟨w.heap.size, 10, none⟩ = some (.slice ad blocks.length cap)) := fun W hW => by
    have g := hW.box bS hne (by decide)
    exact ⟨cell_of' g 4, cell_of' g 5, cell_of' g 6, cell_of' g 7, cell_of' g 8, cell_of' g 9, cell_of' g 10⟩
  have d0 : W0.cell? ⟨w.heap.size, 0, none⟩ = some (.int .i64 kind) := cell_of' bS 0
  have d1 : W0.cell? ⟨w.heap.size, 1, none⟩ = some (.string mon) := cell_of' bS 1
  have d2 : W0.cell? ⟨w.heap.size, 2, none⟩ = some (.string name) := cell_of' bS 2
  have HN3 : Hid (∀ W, Kept b W0 W → W.cell? ⟨w.heap.size, 3, none⟩ = some (.int .i64 n)) := fun W hW => cell_of' (hW.box bS hne (by decide)) 3
  clear hW0
  by_cases q1 : kind = 1
  · subst q1
    have HT2 : Hid ((St.mk 1 mon name n (Ex.mk eop emon ename en ead ecap ekids epos) ad cap blocks pos).txt o = ind o ++ ([115, 107, 105, 112, 59]) ++ [10]) := by show _ = _; rw [HT.out]; simp [stOf, lin]
    have hline := line_new [⟨#[115, 107, 105, 112, 59]⟩] b m o t W0 hs0 (by simp) (by omega) (by simp only [cat, List.flatMap_cons, List.flatMap_nil, List.append_nil, List.length_cons, List.length_nil]; omega)
    simp only [List.map_cons, List.map_nil, List.length_cons, List.length_nil, Nat.zero_add, cat, List.flatMap_cons, List.flatMap_nil, List.append_nil] at hline
    clear HT hblk hex
    go_wp2_with (go_at_call 80; (with_reducible refine hline.mono ?_); rintro r w1 ⟨rfl, s1, k1⟩)
    go_end0
    exact ⟨rfl, by rw [HT2.out]; simpa using s1, hK0.trans k1⟩
  by_cases q2 : kind = 2
  · subst q2
    have hbeg := begin_new [mon, ⟨#[46]⟩, name, ⟨#[32, 61, 32]⟩] b m o t W0 hs0 (by simp) (by omega) (by simp only [cat, List.flatMap_cons, List.flatMap_nil, List.append_nil, List.length_append, List.length_cons, List.length_nil]; omega)
    simp only [List.map_cons, List.map_nil, List.length_cons, List.length_nil, Nat.zero_add, Nat.reduceAdd, cat, List.flatMap_cons, List.flatMap_nil, List.append_nil] at hbeg
    obtain ⟨t1, ht1⟩ : ∃ t1, t ++ (ind o ++ (mon.data.toList ++ [46] ++ name.data.toList ++ [32, 61, 32])) = t1 := ⟨_, rfl⟩
    have hl1 : t1.length ≤ t.length + 3000 := by rw [← ht1]; simp only [List.length_append, List.length_cons, List.length_nil, ind_len]; omega
    have hbeg2 : Calls Tryz.prog 36 #[.pointer (some ⟨b, 0, none⟩), .slice (some ⟨W0.heap.size, 0, none⟩) 4 4] (W0.alloc (.cells #[.string mon, .string ⟨#[46]⟩, .string name, .string ⟨#[32, 61, 32]⟩] 9)) fun e w' => e = .returned (.tuple #[]) ∧ Sh b m o t1 w' ∧ Kept b W0 w' := by
      refine hbeg.mono ?_
      rintro r w' ⟨h1, h2, h3⟩
      exact ⟨h1, by rw [← ht1]; simpa using h2, h3⟩
    have HT1 := hid ht1
    clear ht1 hbeg
    have hokE : (Ex.mk eop emon ename en ead ecap ekids epos).ok = true := ex_of_fits hfe (by rfl)
    obtain ⟨et, het⟩ : ∃ et, (Ex.mk eop emon ename en ead ecap ekids epos).txt 1 = et := ⟨_, rfl⟩
    have hetl : et.length ≤ 100 * (Ex.mk eop emon ename en ead ecap ekids epos).subs.length + 2 := by
      have h3 := bare_len _ n₀ w hIe hokE
      have h4 := atL_len 1 (Ex.mk eop emon ename en ead ecap ekids epos).opOf (Ex.mk eop emon ename en ead ecap ekids epos).bare
      rw [← het]; unfold Ex.txt; omega
    have hno := ok_none hokE
    rw [hno] at htot
    simp only [Bool.false_eq_true, if_false] at htot
    have hto := htot.out
    have hex2 : ∀ W, Sh b m o t1 W → Kept b w W → Calls Tryz.prog 29 #[.pointer (some ⟨b, 0, none⟩), .agg #[.int .i64 eop, .string emon, .string ename, .int .i64 en, .slice ead ekids.length ecap, .int .i64 epos], .int .i64 1] W fun r w' => r = .returned (.tuple #[]) ∧ Sh b m o (t1 ++ et) w' ∧ Kept b W w' := fun W h1 h2 => by
      rw [← het]
      exact hex hokE W t1 h1 h2 (by omega)
    have hend : ∀ W, Sh b m o (t1 ++ et) W → Calls Tryz.prog 60 #[.pointer (some ⟨b, 0, none⟩), .string ⟨#[59]⟩] W fun e w' => e = .returned (.tuple #[]) ∧ Sh b m o (t1 ++ et ++ [59, 10]) w' ∧ Kept b W w' := fun W h =>
      end_any ⟨#[59]⟩ b m o _ W h (by rw [List.length_append]; show _ + 1 + 1 ≤ _; omega)
    have HT2 : Hid ((St.mk 2 mon name n (Ex.mk eop emon ename en ead ecap ekids epos) ad cap blocks pos).txt o = ind o ++ (mon.data.toList ++ [46] ++ name.data.toList ++ [32, 61, 32]) ++ et ++ [59, 10]) := by
      show _ = _; rw [HT.out]; simp [stOf, het]
    clear het HT hblk hex htot hto
    go_wp2_with (first
      | (go_at_call 36; (with_reducible refine hbeg2.mono ?_); rintro r w1 ⟨rfl, s1, k1⟩; have K1 := hK0.trans k1; have bs1 := HBX.out _ k1; obtain ⟨e4, e5, e6, e7, e8, e9, e10⟩ := bs1)
      | (go_at_call 29; (with_reducible refine (hex2 _ s1 K1).mono ?_); rintro r w2 ⟨rfl, s2, k2⟩)
      | (go_at_call 60; (with_reducible refine (hend _ s2).mono ?_); rintro r w3 ⟨rfl, s3, k3⟩))
    go_end0
    refine ⟨rfl, ?_, (K1.trans k2).trans k3⟩
    rw [HT2.out]
    rw [← HT1.out] at s3
    simpa using s3
  by_cases q3 : kind = 3
  · subst q3
    have hbeg := begin_new [⟨#[105, 102, 32]⟩] b m o t W0 hs0 (by simp) (by omega) (by simp only [cat, List.flatMap_cons, List.flatMap_nil, List.append_nil, List.length_cons, List.length_nil]; omega)
    simp only [List.map_cons, List.map_nil, List.length_cons, List.length_nil, Nat.zero_add, cat, List.flatMap_cons, List.flatMap_nil, List.append_nil] at hbeg
    obtain ⟨t1, ht1⟩ : ∃ t1, t ++ (ind o ++ ([105, 102, 32])) = t1 := ⟨_, rfl⟩
    have hl1 : t1.length ≤ t.length + 3000 := by rw [← ht1]; simp only [List.length_append, List.length_cons, List.length_nil, ind_len]; omega
    have hbeg2 : Calls Tryz.prog 36 #[.pointer (some ⟨b, 0, none⟩), .slice (some ⟨W0.heap.size, 0, none⟩) 1 1] (W0.alloc (.cells #[.string ⟨#[105, 102, 32]⟩] 9)) fun e w' => e = .returned (.tuple #[]) ∧ Sh b m o t1 w' ∧ Kept b W0 w' := by
      refine hbeg.mono ?_
      rintro r w' ⟨h1, h2, h3⟩
      exact ⟨h1, by rw [← ht1]; simpa using h2, h3⟩
    have HT1 := hid ht1
    clear ht1 hbeg
    have hokE : (Ex.mk eop emon ename en ead ecap ekids epos).ok = true := ex_of_fits hfe (by rfl)
    obtain ⟨et, het⟩ : ∃ et, (Ex.mk eop emon ename en ead ecap ekids epos).txt 1 = et := ⟨_, rfl⟩
    have hetl : et.length ≤ 100 * (Ex.mk eop emon ename en ead ecap ekids epos).subs.length + 2 := by
      have h3 := bare_len _ n₀ w hIe hokE
      have h4 := atL_len 1 (Ex.mk eop emon ename en ead ecap ekids epos).opOf (Ex.mk eop emon ename en ead ecap ekids epos).bare
      rw [← het]; unfold Ex.txt; omega
    have hno := ok_none hokE
    rw [hno] at htot
    simp only [Bool.false_eq_true, if_false] at htot
    have hto := htot.out
    have hex2 : ∀ W, Sh b m o t1 W → Kept b w W → Calls Tryz.prog 29 #[.pointer (some ⟨b, 0, none⟩), .agg #[.int .i64 eop, .string emon, .string ename, .int .i64 en, .slice ead ekids.length ecap, .int .i64 epos], .int .i64 1] W fun r w' => r = .returned (.tuple #[]) ∧ Sh b m o (t1 ++ et) w' ∧ Kept b W w' := fun W h1 h2 => by
      rw [← het]
      exact hex hokE W t1 h1 h2 (by omega)
    have hb1 : 1 ≤ blocks.length := hlo
    have hblk2 : ∀ W, Sh b m o (t1 ++ et) W → Kept b w W → Calls Tryz.prog 37 #[.pointer (some ⟨b, 0, none⟩), .string ⟨#[101, 108, 115, 101]⟩, .slice ad blocks.length cap] W fun r w' => r = .returned (.tuple #[]) ∧ Sh b m o ((t1 ++ et) ++ (blksT o [101, 108, 115, 101] (bTx blocks o) 0 ++ [10])) w' ∧ Kept b W w' := fun W h1 h2 => hblk ⟨#[101, 108, 115, 101]⟩ (by decide) (t1 ++ et) W hb1 h1 h2 (by rw [List.length_append]; omega)
    have HT2 : Hid ((St.mk 3 mon name n (Ex.mk eop emon ename en ead ecap ekids epos) ad cap blocks pos).txt o = ind o ++ ([105, 102, 32]) ++ et ++ blksT o [101, 108, 115, 101] (bTx blocks o) 0 ++ [10]) := by
      show _ = _; rw [HT.out]; simp [stOf, bTx, het]
    clear het
    clear HT hblk hex htot hto
    go_wp2_with (first
      | (go_at_call 36; (with_reducible refine hbeg2.mono ?_); rintro r w1 ⟨rfl, s1, k1⟩; have K1 := hK0.trans k1; have bs1 := HBX.out _ k1; obtain ⟨e4, e5, e6, e7, e8, e9, e10⟩ := bs1)
      | (go_at_call 29; (with_reducible refine (hex2 _ s1 K1).mono ?_); rintro r w2 ⟨rfl, s2, k2⟩; have K2 := K1.trans k2; have bs2 := HBX.out _ (k1.trans k2); obtain ⟨-, -, -, -, -, -, f10⟩ := bs2)
      | (go_at_call 37; (with_reducible refine (hblk2 _ s2 K2).mono ?_); rintro r w3 ⟨rfl, s3, k3⟩))
    go_end0
    refine ⟨rfl, ?_, K2.trans k3⟩
    rw [HT2.out]
    rw [← HT1.out] at s3
    simpa using s3
  by_cases q4 : kind = 4
  · subst q4
    have hbeg := begin_new [⟨#[119, 104, 105, 108, 101, 32]⟩] b m o t W0 hs0 (by simp) (by omega) (by simp only [cat, List.flatMap_cons, List.flatMap_nil, List.append_nil, List.length_cons, List.length_nil]; omega)
    simp only [List.map_cons, List.map_nil, List.length_cons, List.length_nil, Nat.zero_add, cat, List.flatMap_cons, List.flatMap_nil, List.append_nil] at hbeg
    obtain ⟨t1, ht1⟩ : ∃ t1, t ++ (ind o ++ ([119, 104, 105, 108, 101, 32])) = t1 := ⟨_, rfl⟩
    have hl1 : t1.length ≤ t.length + 3000 := by rw [← ht1]; simp only [List.length_append, List.length_cons, List.length_nil, ind_len]; omega
    have hbeg2 : Calls Tryz.prog 36 #[.pointer (some ⟨b, 0, none⟩), .slice (some ⟨W0.heap.size, 0, none⟩) 1 1] (W0.alloc (.cells #[.string ⟨#[119, 104, 105, 108, 101, 32]⟩] 9)) fun e w' => e = .returned (.tuple #[]) ∧ Sh b m o t1 w' ∧ Kept b W0 w' := by
      refine hbeg.mono ?_
      rintro r w' ⟨h1, h2, h3⟩
      exact ⟨h1, by rw [← ht1]; simpa using h2, h3⟩
    have HT1 := hid ht1
    clear ht1 hbeg
    have hokE : (Ex.mk eop emon ename en ead ecap ekids epos).ok = true := ex_of_fits hfe (by rfl)
    obtain ⟨et, het⟩ : ∃ et, (Ex.mk eop emon ename en ead ecap ekids epos).txt 1 = et := ⟨_, rfl⟩
    have hetl : et.length ≤ 100 * (Ex.mk eop emon ename en ead ecap ekids epos).subs.length + 2 := by
      have h3 := bare_len _ n₀ w hIe hokE
      have h4 := atL_len 1 (Ex.mk eop emon ename en ead ecap ekids epos).opOf (Ex.mk eop emon ename en ead ecap ekids epos).bare
      rw [← het]; unfold Ex.txt; omega
    have hno := ok_none hokE
    rw [hno] at htot
    simp only [Bool.false_eq_true, if_false] at htot
    have hto := htot.out
    have hex2 : ∀ W, Sh b m o t1 W → Kept b w W → Calls Tryz.prog 29 #[.pointer (some ⟨b, 0, none⟩), .agg #[.int .i64 eop, .string emon, .string ename, .int .i64 en, .slice ead ekids.length ecap, .int .i64 epos], .int .i64 1] W fun r w' => r = .returned (.tuple #[]) ∧ Sh b m o (t1 ++ et) w' ∧ Kept b W w' := fun W h1 h2 => by
      rw [← het]
      exact hex hokE W t1 h1 h2 (by omega)
    have hb1 : 1 ≤ blocks.length := hlo
    have hblk2 : ∀ W, Sh b m o (t1 ++ et) W → Kept b w W → Calls Tryz.prog 37 #[.pointer (some ⟨b, 0, none⟩), .string ⟨#[]⟩, .slice ad blocks.length cap] W fun r w' => r = .returned (.tuple #[]) ∧ Sh b m o ((t1 ++ et) ++ (blksT o [] (bTx blocks o) 0 ++ [10])) w' ∧ Kept b W w' := fun W h1 h2 => hblk ⟨#[]⟩ (by decide) (t1 ++ et) W hb1 h1 h2 (by rw [List.length_append]; omega)
    have HT2 : Hid ((St.mk 4 mon name n (Ex.mk eop emon ename en ead ecap ekids epos) ad cap blocks pos).txt o = ind o ++ ([119, 104, 105, 108, 101, 32]) ++ et ++ blksT o [] (bTx blocks o) 0 ++ [10]) := by
      show _ = _; rw [HT.out]; simp [stOf, bTx, het]
    clear het
    clear HT hblk hex htot hto
    go_wp2_with (first
      | (go_at_call 36; (with_reducible refine hbeg2.mono ?_); rintro r w1 ⟨rfl, s1, k1⟩; have K1 := hK0.trans k1; have bs1 := HBX.out _ k1; obtain ⟨e4, e5, e6, e7, e8, e9, e10⟩ := bs1)
      | (go_at_call 29; (with_reducible refine (hex2 _ s1 K1).mono ?_); rintro r w2 ⟨rfl, s2, k2⟩; have K2 := K1.trans k2; have bs2 := HBX.out _ (k1.trans k2); obtain ⟨-, -, -, -, -, -, f10⟩ := bs2)
      | (go_at_call 37; (with_reducible refine (hblk2 _ s2 K2).mono ?_); rintro r w3 ⟨rfl, s3, k3⟩))
    go_end0
    refine ⟨rfl, ?_, K2.trans k3⟩
    rw [HT2.out]
    rw [← HT1.out] at s3
    simpa using s3
  by_cases q5 : kind = 5
  · subst q5
    have hbeg := begin_new [⟨#[108, 111, 111, 112]⟩] b m o t W0 hs0 (by simp) (by omega) (by simp only [cat, List.flatMap_cons, List.flatMap_nil, List.append_nil, List.length_cons, List.length_nil]; omega)
    simp only [List.map_cons, List.map_nil, List.length_cons, List.length_nil, Nat.zero_add, cat, List.flatMap_cons, List.flatMap_nil, List.append_nil] at hbeg
    obtain ⟨t1, ht1⟩ : ∃ t1, t ++ (ind o ++ ([108, 111, 111, 112])) = t1 := ⟨_, rfl⟩
    have hl1 : t1.length ≤ t.length + 3000 := by rw [← ht1]; simp only [List.length_append, List.length_cons, List.length_nil, ind_len]; omega
    have hbeg2 : Calls Tryz.prog 36 #[.pointer (some ⟨b, 0, none⟩), .slice (some ⟨W0.heap.size, 0, none⟩) 1 1] (W0.alloc (.cells #[.string ⟨#[108, 111, 111, 112]⟩] 9)) fun e w' => e = .returned (.tuple #[]) ∧ Sh b m o t1 w' ∧ Kept b W0 w' := by
      refine hbeg.mono ?_
      rintro r w' ⟨h1, h2, h3⟩
      exact ⟨h1, by rw [← ht1]; simpa using h2, h3⟩
    have HT1 := hid ht1
    clear ht1 hbeg
    have hb1 : 1 ≤ blocks.length := hlo
    have hblk2 : ∀ W, Sh b m o t1 W → Kept b w W → Calls Tryz.prog 37 #[.pointer (some ⟨b, 0, none⟩), .string ⟨#[]⟩, .slice ad blocks.length cap] W fun r w' => r = .returned (.tuple #[]) ∧ Sh b m o (t1 ++ (blksT o [] (bTx blocks o) 0 ++ [10])) w' ∧ Kept b W w' := fun W h1 h2 => hblk ⟨#[]⟩ (by decide) t1 W hb1 h1 h2 (by omega)
    have HT2 : Hid ((St.mk 5 mon name n (Ex.mk eop emon ename en ead ecap ekids epos) ad cap blocks pos).txt o = ind o ++ ([108, 111, 111, 112]) ++ blksT o [] (bTx blocks o) 0 ++ [10]) := by
      show _ = _; rw [HT.out]; simp [stOf, bTx]
    skip
    clear HT hblk hex htot
    go_wp2_with (first
      | (go_at_call 36; (with_reducible refine hbeg2.mono ?_); rintro r w1 ⟨rfl, s1, k1⟩; have K1 := hK0.trans k1; have bs1 := HBX.out _ k1; obtain ⟨e4, e5, e6, e7, e8, e9, e10⟩ := bs1)
      | (go_at_call 37; (with_reducible refine (hblk2 _ s1 K1).mono ?_); rintro r w3 ⟨rfl, s3, k3⟩))
    go_end0
    refine ⟨rfl, ?_, K1.trans k3⟩
    rw [HT2.out]
    rw [← HT1.out] at s3
    simpa using s3
  by_cases q6 : kind = 6
  · subst q6
    have hbeg := begin_new [⟨#[99, 104, 111, 111, 115, 101]⟩] b m o t W0 hs0 (by simp) (by omega) (by simp only [cat, List.flatMap_cons, List.flatMap_nil, List.append_nil, List.length_cons, List.length_nil]; omega)
    simp only [List.map_cons, List.map_nil, List.length_cons, List.length_nil, Nat.zero_add, cat, List.flatMap_cons, List.flatMap_nil, List.append_nil] at hbeg
    obtain ⟨t1, ht1⟩ : ∃ t1, t ++ (ind o ++ ([99, 104, 111, 111, 115, 101])) = t1 := ⟨_, rfl⟩
    have hl1 : t1.length ≤ t.length + 3000 := by rw [← ht1]; simp only [List.length_append, List.length_cons, List.length_nil, ind_len]; omega
    have hbeg2 : Calls Tryz.prog 36 #[.pointer (some ⟨b, 0, none⟩), .slice (some ⟨W0.heap.size, 0, none⟩) 1 1] (W0.alloc (.cells #[.string ⟨#[99, 104, 111, 111, 115, 101]⟩] 9)) fun e w' => e = .returned (.tuple #[]) ∧ Sh b m o t1 w' ∧ Kept b W0 w' := by
      refine hbeg.mono ?_
      rintro r w' ⟨h1, h2, h3⟩
      exact ⟨h1, by rw [← ht1]; simpa using h2, h3⟩
    have HT1 := hid ht1
    clear ht1 hbeg
    have hb1 : 1 ≤ blocks.length := hlo
    have hblk2 : ∀ W, Sh b m o t1 W → Kept b w W → Calls Tryz.prog 37 #[.pointer (some ⟨b, 0, none⟩), .string ⟨#[111, 114]⟩, .slice ad blocks.length cap] W fun r w' => r = .returned (.tuple #[]) ∧ Sh b m o (t1 ++ (blksT o [111, 114] (bTx blocks o) 0 ++ [10])) w' ∧ Kept b W w' := fun W h1 h2 => hblk ⟨#[111, 114]⟩ (by decide) t1 W hb1 h1 h2 (by omega)
    have HT2 : Hid ((St.mk 6 mon name n (Ex.mk eop emon ename en ead ecap ekids epos) ad cap blocks pos).txt o = ind o ++ ([99, 104, 111, 111, 115, 101]) ++ blksT o [111, 114] (bTx blocks o) 0 ++ [10]) := by
      show _ = _; rw [HT.out]; simp [stOf, bTx]
    skip
    clear HT hblk hex htot
    go_wp2_with (first
      | (go_at_call 36; (with_reducible refine hbeg2.mono ?_); rintro r w1 ⟨rfl, s1, k1⟩; have K1 := hK0.trans k1; have bs1 := HBX.out _ k1; obtain ⟨e4, e5, e6, e7, e8, e9, e10⟩ := bs1)
      | (go_at_call 37; (with_reducible refine (hblk2 _ s1 K1).mono ?_); rintro r w3 ⟨rfl, s3, k3⟩))
    go_end0
    refine ⟨rfl, ?_, K1.trans k3⟩
    rw [HT2.out]
    rw [← HT1.out] at s3
    simpa using s3
  by_cases q7 : kind = 7
  · subst q7
    have hbeg := begin_new [⟨#[115, 121, 110, 99, 32]⟩, mon] b m o t W0 hs0 (by simp) (by omega) (by simp only [cat, List.flatMap_cons, List.flatMap_nil, List.append_nil, List.length_append, List.length_cons, List.length_nil]; omega)
    simp only [List.map_cons, List.map_nil, List.length_cons, List.length_nil, Nat.zero_add, Nat.reduceAdd, cat, List.flatMap_cons, List.flatMap_nil, List.append_nil] at hbeg
    obtain ⟨t1, ht1⟩ : ∃ t1, t ++ (ind o ++ ([115, 121, 110, 99, 32] ++ mon.data.toList)) = t1 := ⟨_, rfl⟩
    have hl1 : t1.length ≤ t.length + 3000 := by rw [← ht1]; simp only [List.length_append, List.length_cons, List.length_nil, ind_len]; omega
    have hbeg2 : Calls Tryz.prog 36 #[.pointer (some ⟨b, 0, none⟩), .slice (some ⟨W0.heap.size, 0, none⟩) 2 2] (W0.alloc (.cells #[.string ⟨#[115, 121, 110, 99, 32]⟩, .string mon] 9)) fun e w' => e = .returned (.tuple #[]) ∧ Sh b m o t1 w' ∧ Kept b W0 w' := by
      refine hbeg.mono ?_
      rintro r w' ⟨h1, h2, h3⟩
      exact ⟨h1, by rw [← ht1]; simpa using h2, h3⟩
    have HT1 := hid ht1
    clear ht1 hbeg
    have hb1 : 1 ≤ blocks.length := hlo
    have hblk2 : ∀ W, Sh b m o t1 W → Kept b w W → Calls Tryz.prog 37 #[.pointer (some ⟨b, 0, none⟩), .string ⟨#[]⟩, .slice ad blocks.length cap] W fun r w' => r = .returned (.tuple #[]) ∧ Sh b m o (t1 ++ (blksT o [] (bTx blocks o) 0 ++ [10])) w' ∧ Kept b W w' := fun W h1 h2 => hblk ⟨#[]⟩ (by decide) t1 W hb1 h1 h2 (by omega)
    have HT2 : Hid ((St.mk 7 mon name n (Ex.mk eop emon ename en ead ecap ekids epos) ad cap blocks pos).txt o = ind o ++ ([115, 121, 110, 99, 32] ++ mon.data.toList) ++ blksT o [] (bTx blocks o) 0 ++ [10]) := by
      show _ = _; rw [HT.out]; simp [stOf, bTx]
    skip
    clear HT hblk hex htot
    go_wp2_with (first
      | (go_at_call 36; (with_reducible refine hbeg2.mono ?_); rintro r w1 ⟨rfl, s1, k1⟩; have K1 := hK0.trans k1; have bs1 := HBX.out _ k1; obtain ⟨e4, e5, e6, e7, e8, e9, e10⟩ := bs1)
      | (go_at_call 37; (with_reducible refine (hblk2 _ s1 K1).mono ?_); rintro r w3 ⟨rfl, s3, k3⟩))
    go_end0
    refine ⟨rfl, ?_, K1.trans k3⟩
    rw [HT2.out]
    rw [← HT1.out] at s3
    simpa using s3
  by_cases q8 : kind = 8
  · subst q8
    have HT2 : Hid ((St.mk 8 mon name n (Ex.mk eop emon ename en ead ecap ekids epos) ad cap blocks pos).txt o = ind o ++ ([99, 97, 108, 108, 32] ++ mon.data.toList ++ [46] ++ name.data.toList ++ [59]) ++ [10]) := by show _ = _; rw [HT.out]; simp [stOf, lin]
    have hline := line_new [⟨#[99, 97, 108, 108, 32]⟩, mon, ⟨#[46]⟩, name, ⟨#[59]⟩] b m o t W0 hs0 (by simp) (by omega) (by simp only [cat, List.flatMap_cons, List.flatMap_nil, List.append_nil, List.length_append, List.length_cons, List.length_nil]; omega)
    simp only [List.map_cons, List.map_nil, List.length_cons, List.length_nil, Nat.zero_add, Nat.reduceAdd, cat, List.flatMap_cons, List.flatMap_nil, List.append_nil] at hline
    clear HT hblk hex
    go_wp2_with (go_at_call 80; (with_reducible refine hline.mono ?_); rintro r w1 ⟨rfl, s1, k1⟩)
    go_end0
    exact ⟨rfl, by rw [HT2.out]; simpa using s1, hK0.trans k1⟩
  by_cases q9 : kind = 9
  · subst q9
    have hbeg := begin_new [⟨#[119, 97, 105, 116, 32]⟩, mon] b m o t W0 hs0 (by simp) (by omega) (by simp only [cat, List.flatMap_cons, List.flatMap_nil, List.append_nil, List.length_append, List.length_cons, List.length_nil]; omega)
    simp only [List.map_cons, List.map_nil, List.length_cons, List.length_nil, Nat.zero_add, Nat.reduceAdd, cat, List.flatMap_cons, List.flatMap_nil, List.append_nil] at hbeg
    obtain ⟨t1, ht1⟩ : ∃ t1, t ++ (ind o ++ ([119, 97, 105, 116, 32] ++ mon.data.toList)) = t1 := ⟨_, rfl⟩
    have hl1 : t1.length ≤ t.length + 3000 := by rw [← ht1]; simp only [List.length_append, List.length_cons, List.length_nil, ind_len]; omega
    have hbeg2 : Calls Tryz.prog 36 #[.pointer (some ⟨b, 0, none⟩), .slice (some ⟨W0.heap.size, 0, none⟩) 2 2] (W0.alloc (.cells #[.string ⟨#[119, 97, 105, 116, 32]⟩, .string mon] 9)) fun e w' => e = .returned (.tuple #[]) ∧ Sh b m o t1 w' ∧ Kept b W0 w' := by
      refine hbeg.mono ?_
      rintro r w' ⟨h1, h2, h3⟩
      exact ⟨h1, by rw [← ht1]; simpa using h2, h3⟩
    have HT1 := hid ht1
    clear ht1 hbeg
    by_cases hn0 : 0 < n
    · have hnumc : ∀ W, Sh b m o t1 W → Calls Tryz.prog 35 #[.int .i64 n] W fun e w' => e = .returned (.string ⟨(Lib.itoa n).toArray⟩) ∧ Below W.heap.size W w' := fun W h => number_any n W hnum h.tab
      have hil := itoa_len n hnum
      have hlay : ∀ W, Sh b m o t1 W → Calls Tryz.prog 48 #[.pointer (some ⟨b, 0, none⟩), .slice (some ⟨W.heap.size, 0, none⟩) 2 2] (W.alloc (.cells #[.string ⟨#[32]⟩, .string ⟨(Lib.itoa n).toArray⟩] 9)) fun e w' => e = .returned (.tuple #[]) ∧ Sh b m o (t1 ++ (32 :: Lib.itoa n)) w' ∧ Kept b W w' := fun W h => by
        have := lay_new [⟨#[32]⟩, ⟨(Lib.itoa n).toArray⟩] b m o t1 W h (by simp) (by simp [cat]; omega)
        simpa [cat] using this
      have hend : ∀ W, Sh b m o (t1 ++ (32 :: Lib.itoa n)) W → Calls Tryz.prog 60 #[.pointer (some ⟨b, 0, none⟩), .string ⟨#[59]⟩] W fun e w' => e = .returned (.tuple #[]) ∧ Sh b m o (t1 ++ (32 :: Lib.itoa n) ++ [59, 10]) w' ∧ Kept b W w' := fun W h =>
        end_any ⟨#[59]⟩ b m o _ W h (by rw [List.length_append, List.length_cons]; show _ + 1 + 1 ≤ _; omega)
      have HT2 : Hid ((St.mk 9 mon name n (Ex.mk eop emon ename en ead ecap ekids epos) ad cap blocks pos).txt o = ind o ++ ([119, 97, 105, 116, 32] ++ mon.data.toList) ++ (32 :: Lib.itoa n) ++ [59, 10]) := by
        show _ = _; rw [HT.out]; simp [stOf, hn0]
      clear HT hblk hex htot
      go_wp2_with (first
        | (go_at_call 36; (with_reducible refine hbeg2.mono ?_); rintro r w1 ⟨rfl, s1, k1⟩; have K1 := hK0.trans k1; have e3 := HN3.out _ k1)
        | (go_at_call 35; (with_reducible refine (hnumc _ s1).mono ?_); rintro r w2 ⟨rfl, b2⟩; have s2 := s1.below b2; have K2 := K1.of (by omega) b2)
        | (go_at_call 48; (with_reducible refine (hlay _ s2).mono ?_); rintro r w3 ⟨rfl, s3, k3⟩)
        | (go_at_call 60; (with_reducible refine (hend _ s3).mono ?_); rintro r w4 ⟨rfl, s4, k4⟩))
      go_end0
      refine ⟨rfl, ?_, (K2.trans k3).trans k4⟩
      rw [HT2.out]
      rw [← HT1.out] at s4
      simpa using s4
    · have hn0d : decide (0 < n) = false := by simp; omega
      have hend : ∀ W, Sh b m o t1 W → Calls Tryz.prog 60 #[.pointer (some ⟨b, 0, none⟩), .string ⟨#[59]⟩] W fun e w' => e = .returned (.tuple #[]) ∧ Sh b m o (t1 ++ [59, 10]) w' ∧ Kept b W w' := fun W h =>
        end_any ⟨#[59]⟩ b m o _ W h (by show _ + 1 + 1 ≤ _; omega)
      have HT2 : Hid ((St.mk 9 mon name n (Ex.mk eop emon ename en ead ecap ekids epos) ad cap blocks pos).txt o = ind o ++ ([119, 97, 105, 116, 32] ++ mon.data.toList) ++ [59, 10]) := by
        show _ = _; rw [HT.out]; simp [stOf, hn0]
      clear HT hblk hex htot
      go_wp2_with (first
        | (go_at_call 36; (with_reducible refine hbeg2.mono ?_); rintro r w1 ⟨rfl, s1, k1⟩; have K1 := hK0.trans k1; have e3 := HN3.out _ k1)
        | (go_at_call 60; (with_reducible refine (hend _ s1).mono ?_); rintro r w4 ⟨rfl, s4, k4⟩))
      go_end0
      refine ⟨rfl, ?_, K1.trans k4⟩
      rw [HT2.out]
      rw [← HT1.out] at s4
      simpa using s4
  by_cases q10 : kind = 10
  · subst q10
    have HT2 : Hid ((St.mk 10 mon name n (Ex.mk eop emon ename en ead ecap ekids epos) ad cap blocks pos).txt o = ind o ++ ([110, 111, 116, 105, 102, 121, 32] ++ mon.data.toList ++ [59]) ++ [10]) := by show _ = _; rw [HT.out]; simp [stOf, lin]
    have hline := line_new [⟨#[110, 111, 116, 105, 102, 121, 32]⟩, mon, ⟨#[59]⟩] b m o t W0 hs0 (by simp) (by omega) (by simp only [cat, List.flatMap_cons, List.flatMap_nil, List.append_nil, List.length_append, List.length_cons, List.length_nil]; omega)
    simp only [List.map_cons, List.map_nil, List.length_cons, List.length_nil, Nat.zero_add, Nat.reduceAdd, cat, List.flatMap_cons, List.flatMap_nil, List.append_nil] at hline
    clear HT hblk hex
    go_wp2_with (go_at_call 80; (with_reducible refine hline.mono ?_); rintro r w1 ⟨rfl, s1, k1⟩)
    go_end0
    exact ⟨rfl, by rw [HT2.out]; simpa using s1, hK0.trans k1⟩
  by_cases q11 : kind = 11
  · subst q11
    have HT2 : Hid ((St.mk 11 mon name n (Ex.mk eop emon ename en ead ecap ekids epos) ad cap blocks pos).txt o = ind o ++ ([110, 111, 116, 105, 102, 121, 97, 108, 108, 32] ++ mon.data.toList ++ [59]) ++ [10]) := by show _ = _; rw [HT.out]; simp [stOf, lin]
    have hline := line_new [⟨#[110, 111, 116, 105, 102, 121, 97, 108, 108, 32]⟩, mon, ⟨#[59]⟩] b m o t W0 hs0 (by simp) (by omega) (by simp only [cat, List.flatMap_cons, List.flatMap_nil, List.append_nil, List.length_append, List.length_cons, List.length_nil]; omega)
    simp only [List.map_cons, List.map_nil, List.length_cons, List.length_nil, Nat.zero_add, Nat.reduceAdd, cat, List.flatMap_cons, List.flatMap_nil, List.append_nil] at hline
    clear HT hblk hex
    go_wp2_with (go_at_call 80; (with_reducible refine hline.mono ?_); rintro r w1 ⟨rfl, s1, k1⟩)
    go_end0
    exact ⟨rfl, by rw [HT2.out]; simpa using s1, hK0.trans k1⟩
  exact absurd hk2 (by omega)
end Go.Proofs.YtnljhlmopjgogaaGreatDoor
