/-
  Every program's text and nest are what the document says: the walk.
-/
import Derived.Test.YtnljhlmopjgogaaGreatDoorPxA
import Derived.Test.YtnljhlmopjgogaaGreatDoorRtA
import Derived.Test.YtnljhlmopjgogaaGreatDoorJX
namespace Go.Proofs.YtnljhlmopjgogaaGreatDoor
open Go.RowKit Px
def lvX (c : UInt8) : Ex := .mk 4 ⟨#[97]⟩ ⟨#[c]⟩ 0 none 0 [] 0
def lvO (g : Nat) : Ex := .mk 17 ⟨#[]⟩ ⟨#[]⟩ 0 (some ⟨g, 0, none⟩) 2 [lvX 120, lvX 121] 0
def lvN (g : Nat) : Ex := .mk 5 ⟨#[]⟩ ⟨#[]⟩ 0 (some ⟨g, 0, none⟩) 1 [lvX 122] 0
def lvE (g1 g2 g3 : Nat) : Ex := .mk 16 ⟨#[]⟩ ⟨#[]⟩ 0 (some ⟨g3, 0, none⟩) 2 [lvO g1, lvN g2] 0
def lvS : St := .mk 1 ⟨#[]⟩ ⟨#[]⟩ 0 exZ none 0 [] 0
def lvR (g : Nat) : Ro := ⟨⟨#[114]⟩, false, 2, .mk (some ⟨g, 0, none⟩) 1 [lvS], 0⟩
def lvQ : Ro := ⟨⟨#[114]⟩, true, 0, .mk none 0 [], 0⟩
def lvP (g h : Nat) : Pr := ⟨none, 0, [], some ⟨h, 0, none⟩, 1, [lvR g]⟩
def lvP2 (h : Nat) : Pr := ⟨none, 0, [], some ⟨h, 0, none⟩, 1, [lvQ]⟩
theorem i64_small {n : Int} (h1 : 0 ≤ n) (h2 : n ≤ 100) : I64 n := ⟨by omega, by omega⟩
theorem len0 : Len (⟨#[]⟩ : ByteArray) := by unfold Len; decide
theorem len1 (c : UInt8) : Len (⟨#[c]⟩ : ByteArray) := by unfold Len; show 1 ≤ _; omega
theorem lvX_is (c : UInt8) (n₀ : Nat) (W : World) : (lvX c).Is n₀ W := Ex.Is.up ⟨⟨i64_small (by omega) (by omega), i64_small (by omega) (by omega), i64_small (by omega) (by omega), len1 _, len1 _⟩, slAt_nil, fun x hx => by cases hx⟩
theorem lvO_is {n₀ g : Nat} {W : World} {z : Nat × Nat} (h : W.heap[g]? = some (.cells ((lvX 120).cells ++ (lvX 121).cells).toArray 50 z)) (hg : g < n₀) : (lvO g).Is n₀ W :=
  Ex.Is.up ⟨⟨i64_small (by omega) (by omega), i64_small (by omega) (by omega), i64_small (by omega) (by omega), len0, len0⟩, slAt_of_block exCells_len h (by simp) hg (by simp) (by omega), fun x hx => by
    rcases List.mem_cons.1 hx with rfl | hx
    · exact lvX_is _ _ _
    · rw [List.mem_singleton.1 hx]; exact lvX_is _ _ _⟩
theorem lvN_is {n₀ g : Nat} {W : World} {z : Nat × Nat} (h : W.heap[g]? = some (.cells (lvX 122).cells.toArray 50 z)) (hg : g < n₀) : (lvN g).Is n₀ W :=
  Ex.Is.up ⟨⟨i64_small (by omega) (by omega), i64_small (by omega) (by omega), i64_small (by omega) (by omega), len0, len0⟩, slAt_of_block exCells_len h (by simp) hg (by simp) (by omega), fun x hx => by
    rw [List.mem_singleton.1 hx]; exact lvX_is _ _ _⟩
theorem lvE_is {n₀ g1 g2 g3 : Nat} {W : World} {z : Nat × Nat} (h1 : (lvO g1).Is n₀ W) (h2 : (lvN g2).Is n₀ W) (h : W.heap[g3]? = some (.cells ((lvO g1).cells ++ (lvN g2).cells).toArray 50 z)) (hg : g3 < n₀) : (lvE g1 g2 g3).Is n₀ W :=
  Ex.Is.up ⟨⟨i64_small (by omega) (by omega), i64_small (by omega) (by omega), i64_small (by omega) (by omega), len0, len0⟩, slAt_of_block exCells_len h (by simp) hg (by simp) (by omega), fun x hx => by
    rcases List.mem_cons.1 hx with rfl | hx
    · exact h1
    · rw [List.mem_singleton.1 hx]; exact h2⟩
theorem nameY : Lx.name ⟨#[121]⟩ = true := by kernel_rfl
theorem nameZ : Lx.name ⟨#[122]⟩ = true := by kernel_rfl
theorem lvE_ok (g1 g2 g3 : Nat) : (lvE g1 g2 g3).ok = true := by
  simp [lvE, lvO, lvN, lvX, Ex.ok, Ex.subs, Ex.subsL, Ex.ok1, exNames, exNumber, exKids, fitsName, fitsNum, nameA, nameX, nameY, nameZ]
  rfl
theorem lvE_txt (g1 g2 g3 : Nat) : (lvE g1 g2 g3).txt 1 = [40, 97, 46, 120, 32, 124, 124, 32, 97, 46, 121, 41, 32, 38, 38, 32, 33, 97, 46, 122] := by
  simp [lvE, lvO, lvN, lvX, Ex.txt, Ex.bare_mk, Ex.opOf, bareOf, atL, kid, own, sgnOf, signed, sgn]
theorem lvE_nest (g1 g2 g3 : Nat) : (lvE g1 g2 g3).nest 1 = 1 := by
  simp [lvE, lvO, lvN, lvX, Ex.nest, Ex.nst_mk, Ex.opOf, nestOf, nestL, nkid, own, sgnOf, signed, sgn]
theorem lvE_out (g1 g2 g3 : Nat) : exprOut (lvE g1 g2 g3) = .tuple #[.string ⟨#[40, 97, 46, 120, 32, 124, 124, 32, 97, 46, 121, 41, 32, 38, 38, 32, 33, 97, 46, 122]⟩, .int .i64 0] := by
  rw [exprOut, lvE_ok, lvE_txt, lvE_nest]; rfl
theorem exZ_out : exprOut exZ = .tuple #[.string ⟨#[]⟩, .int .i64 20] := by rw [exprOut, exZ_ok]; rfl
theorem lvE_subs (g1 g2 g3 : Nat) : (lvE g1 g2 g3).subs.length = 6 := by simp [lvE, lvO, lvN, lvX, Ex.subs, Ex.subsL]
theorem lvS_is (n₀ : Nat) (W : World) : lvS.Is n₀ W := St.Is.up ⟨⟨i64_small (by omega) (by omega), i64_small (by omega) (by omega), i64_small (by omega) (by omega), len0, len0⟩, exZ_is _ _, slAt_nil, fun x hx => by cases hx⟩
theorem lvP_is {n₀ g h : Nat} {W : World} {z1 z2 : Nat × Nat} (h1 : W.heap[g]? = some (.cells lvS.cells.toArray 55 z1)) (h2 : W.heap[h]? = some (.cells (lvR g).cells.toArray 47 z2)) (hg : g < n₀) (hh : h < n₀) : (lvP g h).Is n₀ W :=
  ⟨⟨slAt_nil, fun x hx => by cases hx⟩, slAt_of_block (cells := Ro.cells) (size := 5) (l := [lvR g]) (cap := 1) (fun _ => rfl) h2 (by simp) hh (by simp) (by omega), fun r hr => by
    rw [List.mem_singleton.1 hr]
    exact ⟨len1 _, i64_small (by show (0 : Int) ≤ 2; omega) (by show (2 : Int) ≤ 100; omega), i64_small (Int.le_refl _) (by show (0 : Int) ≤ 100; omega), Bl.Is.up ⟨slAt_of_block stCells_len h1 (by simp) hg (by simp) (by omega), fun s hs => by rw [List.mem_singleton.1 hs]; exact lvS_is _ _⟩⟩⟩
theorem lvP2_is {n₀ h : Nat} {W : World} {z2 : Nat × Nat} (h2 : W.heap[h]? = some (.cells lvQ.cells.toArray 47 z2)) (hh : h < n₀) : (lvP2 h).Is n₀ W :=
  ⟨⟨slAt_nil, fun x hx => by cases hx⟩, slAt_of_block (cells := Ro.cells) (size := 5) (l := [lvQ]) (cap := 1) (fun _ => rfl) h2 (by simp) hh (by simp) (by omega), fun r hr => by
    rw [List.mem_singleton.1 hr]
    exact ⟨len1 _, i64_small (Int.le_refl _) (by show (0 : Int) ≤ 100; omega), i64_small (Int.le_refl _) (by show (0 : Int) ≤ 100; omega), Bl.Is.up ⟨slAt_nil, fun s hs => by cases hs⟩⟩⟩
theorem exZ_none : exZ.none = true := by simp [exZ, Ex.none, Ex.same, Ex.sameL]
theorem lvP_ok (g h : Nat) : (lvP g h).ok = true := by
  simp [lvP, lvR, lvS, Pr.ok, Pr.decl, Pr.stmts, Ro.ok, Bl.subs_mk, St.subs_mk, St.ok1, fitsName, fitsNum, stMon, stName, stNumber, stExpr, stLeast, stMost, fitsEx, exZ_none, nameR]
  rfl
theorem lvP_size (g h : Nat) : (lvP g h).size = 1 := by
  simp [lvP, lvR, lvS, Pr.size, Pr.stmts, Bl.subs_mk, St.subs_mk, St.sz, St.e, exZ_none]
theorem lvP_nst (g h : Nat) : (lvP g h).nst = 1 := by
  simp [lvP, lvR, lvS, Pr.nst, maxL, Bl.nst_mk, St.nst_mk, (none_nest exZ_none).1]
theorem itoa2 : Lib.itoa 2 = [50] := by simp [Lib.itoa, Lib.decDigits]
theorem lvP_txt (g h : Nat) : (lvP g h).txt = [116, 104, 114, 101, 97, 100, 32, 114, 32, 50, 32, 123, 10, 32, 32, 115, 107, 105, 112, 59, 10, 125, 10] := by
  simp [lvP, lvR, lvS, Pr.txt, roT, roCount, itoa2, blksT, blkT, Bl.txt_mk, St.txt_mk, stOf, lin, ind]
theorem lvP_out (g h : Nat) : textOut (lvP g h) = .tuple #[.string ⟨#[116, 104, 114, 101, 97, 100, 32, 114, 32, 50, 32, 123, 10, 32, 32, 115, 107, 105, 112, 59, 10, 125, 10]⟩, .int .i64 0] := by
  rw [textOut, lvP_ok, lvP_nst, lvP_txt]; rfl
theorem lvP2_ok (h : Nat) : (lvP2 h).ok = true := by
  simp [lvP2, lvQ, Pr.ok, Pr.decl, Pr.stmts, Ro.ok, Bl.subs_mk, fitsNum, nameR]
theorem lvP2_size (h : Nat) : (lvP2 h).size = 0 := by
  simp [lvP2, lvQ, Pr.size, Pr.stmts, Bl.subs_mk]
theorem lvP2_nst (h : Nat) : pnestOut (lvP2 h) = 1 := by
  rw [pnestOut, lvP2_ok]
  simp [lvP2, lvQ, Pr.nst, maxL, Bl.nst_mk]
end Go.Proofs.YtnljhlmopjgogaaGreatDoor
namespace Go.Proofs.YtnljhlmopjgogaaGreatDoor
open Go.RowKit Px
set_option maxHeartbeats 1000000 in
theorem v_any (s : ByteArray) (w : World) : Calls Tryz.prog 12 #[.string s] w fun r w' => r = .returned (.agg #[.int .i64 4, .string ⟨#[97]⟩, .string s, .int .i64 0, .slice none 0 0, .int .i64 0]) ∧ Below w.heap.size w w' := by
  go_enter Tryz.func12, Tryz.ntmps12
  go_wp2
  refine bodyPost_ret (v := Value.agg #[.int .i64 4, .string ⟨#[97]⟩, .string s, .int .i64 0, .slice none 0 0, .int .i64 0]) (by simp [results, Tryz.results12, go_sem]) rfl ⟨rfl, (Below.refl _ w).al le_rfl' _⟩
set_option maxHeartbeats 1000000 in
theorem num_any3 (n : Int) (w : World) : Calls Tryz.prog 8 #[.int .i64 n] w fun e w' => e = .returned (.int .i64 n) ∧ w' = w := by
  go_enter Tryz.func8, Tryz.ntmps8
  go_wp2
  go_ret
  exact ⟨rfl, rfl⟩
theorem lvT_calls (W : World) (hL : Laid W) : Calls Tryz.prog 6 #[.agg #[.slice none 0 0, .slice (some ⟨W.heap.size + 1, 0, none⟩) 1 1]] ((W.alloc (.cells #[.int .i64 1, .string ⟨#[]⟩, .string ⟨#[]⟩, .int .i64 0, .int .i64 0, .string ⟨#[]⟩, .string ⟨#[]⟩, .int .i64 0, .slice none 0 0, .int .i64 0, .slice none 0 0, .int .i64 0] 55)).alloc (.cells #[.string ⟨#[114]⟩, .bool false, .int .i64 2, .slice (some ⟨W.heap.size, 0, none⟩) 1 1, .int .i64 0] 47)) fun r w' => r = .returned (.tuple #[.string ⟨#[116, 104, 114, 101, 97, 100, 32, 114, 32, 50, 32, 123, 10, 32, 32, 115, 107, 105, 112, 59, 10, 125, 10]⟩, .int .i64 0]) ∧ Below W.heap.size W w' := by
  have hB : Below W.heap.size W ((W.alloc (.cells #[.int .i64 1, .string ⟨#[]⟩, .string ⟨#[]⟩, .int .i64 0, .int .i64 0, .string ⟨#[]⟩, .string ⟨#[]⟩, .int .i64 0, .slice none 0 0, .int .i64 0, .slice none 0 0, .int .i64 0] 55)).alloc (.cells #[.string ⟨#[114]⟩, .bool false, .int .i64 2, .slice (some ⟨W.heap.size, 0, none⟩) 1 1, .int .i64 0] 47)) := ((Below.refl _ W).al le_rfl' _).al le_rfl' _
  have h1 : ((W.alloc (.cells #[.int .i64 1, .string ⟨#[]⟩, .string ⟨#[]⟩, .int .i64 0, .int .i64 0, .string ⟨#[]⟩, .string ⟨#[]⟩, .int .i64 0, .slice none 0 0, .int .i64 0, .slice none 0 0, .int .i64 0] 55)).alloc (.cells #[.string ⟨#[114]⟩, .bool false, .int .i64 2, .slice (some ⟨W.heap.size, 0, none⟩) 1 1, .int .i64 0] 47)).heap[W.heap.size]? = some (.cells lvS.cells.toArray 55 (0, 0)) := (Below.heap_alloc _ _ _ (by simp)).trans (heap_alloc_new W _)
  have h2 : ((W.alloc (.cells #[.int .i64 1, .string ⟨#[]⟩, .string ⟨#[]⟩, .int .i64 0, .int .i64 0, .string ⟨#[]⟩, .string ⟨#[]⟩, .int .i64 0, .slice none 0 0, .int .i64 0, .slice none 0 0, .int .i64 0] 55)).alloc (.cells #[.string ⟨#[114]⟩, .bool false, .int .i64 2, .slice (some ⟨W.heap.size, 0, none⟩) 1 1, .int .i64 0] 47)).heap[W.heap.size + 1]? = some (.cells (lvR W.heap.size).cells.toArray 47 (0, 0)) := by
    have := heap_alloc_new (W.alloc (.cells #[.int .i64 1, .string ⟨#[]⟩, .string ⟨#[]⟩, .int .i64 0, .int .i64 0, .string ⟨#[]⟩, .string ⟨#[]⟩, .int .i64 0, .slice none 0 0, .int .i64 0, .slice none 0 0, .int .i64 0] 55)) (.cells #[.string ⟨#[114]⟩, .bool false, .int .i64 2, .slice (some ⟨W.heap.size, 0, none⟩) 1 1, .int .i64 0] 47)
    rw [World.size_alloc] at this
    exact this
  have h3 := printText_any (lvP W.heap.size (W.heap.size + 1)) _ _ (Nat.le_refl _) (lvP_is h1 h2 (by simp; omega) (by simp)) (hL.below hB hL.size) (by rw [lvP_size]; omega)
  rw [lvP_out] at h3
  refine h3.mono ?_
  rintro r w' ⟨rfl, hb⟩
  exact ⟨rfl, hB.tr le_rfl' hb⟩
theorem lvN_calls (W : World) (hL : Laid W) : Calls Tryz.prog 9 #[.agg #[.slice none 0 0, .slice (some ⟨W.heap.size, 0, none⟩) 1 1]] (W.alloc (.cells #[.string ⟨#[114]⟩, .bool true, .int .i64 0, .slice none 0 0, .int .i64 0] 47)) fun r w' => r = .returned (.int .i64 1) ∧ Below W.heap.size W w' := by
  have hB : Below W.heap.size W (W.alloc (.cells #[.string ⟨#[114]⟩, .bool true, .int .i64 0, .slice none 0 0, .int .i64 0] 47)) := (Below.refl _ W).al le_rfl' _
  have h2 : (W.alloc (.cells #[.string ⟨#[114]⟩, .bool true, .int .i64 0, .slice none 0 0, .int .i64 0] 47)).heap[W.heap.size]? = some (.cells lvQ.cells.toArray 47 (0, 0)) := heap_alloc_new W _
  have h3 := printNest_any (lvP2 W.heap.size) _ _ (Nat.le_refl _) (lvP2_is h2 (by simp)) (hL.below hB hL.size) (by rw [lvP2_size]; omega)
  rw [lvP2_nst] at h3
  refine h3.mono ?_
  rintro r w' ⟨rfl, hb⟩
  exact ⟨rfl, hB.tr le_rfl' hb⟩
theorem lvZ_calls (W : World) (hL : Laid W) : Calls Tryz.prog 13 #[.agg #[.int .i64 0, .string ⟨#[]⟩, .string ⟨#[]⟩, .int .i64 0, .slice none 0 0, .int .i64 0]] W fun r w' => r = .returned (.tuple #[.string ⟨#[]⟩, .int .i64 20]) ∧ Below W.heap.size W w' := by
  have h3 := printExpr_any exZ _ W (Nat.le_refl _) (exZ_is _ _) hL (by simp [exZ, Ex.subs, Ex.subsL])
  rw [exZ_out] at h3
  exact h3
theorem lvE_calls (g1 g2 g3 n₀ : Nat) (W : World) (hn : n₀ ≤ W.heap.size) (hI : (lvE g1 g2 g3).Is n₀ W) (hL : Laid W) : Calls Tryz.prog 13 #[.agg #[.int .i64 16, .string ⟨#[]⟩, .string ⟨#[]⟩, .int .i64 0, .slice (some ⟨g3, 0, none⟩) 2 2, .int .i64 0]] W fun r w' => r = .returned (.tuple #[.string ⟨#[40, 97, 46, 120, 32, 124, 124, 32, 97, 46, 121, 41, 32, 38, 38, 32, 33, 97, 46, 122]⟩, .int .i64 0]) ∧ Below W.heap.size W w' := by
  have h3 := printExpr_any (lvE g1 g2 g3) n₀ W hn hI hL (by rw [lvE_subs]; omega)
  rw [lvE_out] at h3
  exact h3
theorem lvE_nests (g1 g2 g3 n₀ : Nat) (W : World) (hn : n₀ ≤ W.heap.size) (hI : (lvE g1 g2 g3).Is n₀ W) (hL : Laid W) : Calls Tryz.prog 14 #[.agg #[.int .i64 16, .string ⟨#[]⟩, .string ⟨#[]⟩, .int .i64 0, .slice (some ⟨g3, 0, none⟩) 2 2, .int .i64 0]] W fun r w' => r = .returned (.int .i64 1) ∧ Below W.heap.size W w' := by
  have h3 := nestExpr_any (lvE g1 g2 g3) n₀ W hn hI hL (by rw [lvE_subs]; omega)
  rw [show nestOut (lvE g1 g2 g3) = 1 by rw [nestOut, lvE_ok, lvE_nest]; rfl] at h3
  exact h3
set_option maxRecDepth 100000 in
set_option maxHeartbeats 1000000 in
theorem live_any (w : World) (hL : Laid w) : Calls Tryz.prog 5 #[] w fun r w' => r = .returned (.bool true) ∧ Below w.heap.size w w' := by
  have hv1 := v_any ⟨#[120]⟩ w
  have hv2 := fun W => v_any ⟨#[121]⟩ W
  have hv3 := fun W => v_any ⟨#[122]⟩ W
  go_enter Tryz.func5, Tryz.ntmps5
  go_upto_region 2 with (first
    | (go_at_call 12; (with_reducible refine hv1.mono ?_); rintro r u1 ⟨rfl, bb1⟩)
    | (go_at_call 12; (with_reducible refine (hv2 _).mono ?_); rintro r u2 ⟨rfl, bb2⟩)
    | (go_at_call 12; (with_reducible refine (hv3 _).mono ?_); rintro r u3 ⟨rfl, bb3⟩))
  obtain ⟨W, hW⟩ : ∃ W, ((u3.alloc (.cells #[.int .i64 4, .string ⟨#[97]⟩, .string ⟨#[122]⟩, .int .i64 0, .slice none 0 0, .int .i64 0] 50)).alloc (.cells #[.int .i64 17, .string ⟨#[]⟩, .string ⟨#[]⟩, .int .i64 0, .slice (some ⟨u2.heap.size, 0, none⟩) 2 2, .int .i64 0, .int .i64 5, .string ⟨#[]⟩, .string ⟨#[]⟩, .int .i64 0, .slice (some ⟨u3.heap.size, 0, none⟩) 1 1, .int .i64 0] 50)).alloc (.cells #[.int .i64 16, .string ⟨#[]⟩, .string ⟨#[]⟩, .int .i64 0, .slice (some ⟨u3.heap.size + 1, 0, none⟩) 2 2, .int .i64 0] 50) = W := ⟨_, rfl⟩
  have hBW : Below u3.heap.size u3 W := by rw [← hW]; exact (((Below.refl _ u3).al le_rfl' _).al le_rfl' _).al le_rfl' _
  have hz1 := bb1.size
  have hz2 := bb2.size
  have hz3 := bb3.size
  simp only [World.size_alloc] at hz3
  have hB : Below w.heap.size w W := (bb1.trans (bb2.mono hz1)).trans ((((Below.refl _ u2).al le_rfl' _).mono (by omega)).trans ((bb3.mono (by simp; omega)).trans (hBW.mono (by omega))))
  have r1 : W.heap[u2.heap.size]? = some (.cells ((lvX 120).cells ++ (lvX 121).cells).toArray 50 (0, 0)) := (hBW.block _ (by omega)).trans ((bb3.block _ (by simp)).trans (heap_alloc_new u2 _))
  have r2 : W.heap[u3.heap.size]? = some (.cells (lvX 122).cells.toArray 50 (0, 0)) := by rw [← hW]; exact (Below.heap_alloc _ _ _ (by simp; omega)).trans ((Below.heap_alloc _ _ _ (by simp)).trans (heap_alloc_new u3 _))
  have r3 : W.heap[u3.heap.size + 1]? = some (.cells ((lvO u2.heap.size).cells ++ (lvN u3.heap.size).cells).toArray 50 (0, 0)) := by
    rw [← hW]
    refine (Below.heap_alloc _ _ _ (by simp)).trans ?_
    have := heap_alloc_new (u3.alloc (.cells #[.int .i64 4, .string ⟨#[97]⟩, .string ⟨#[122]⟩, .int .i64 0, .slice none 0 0, .int .i64 0] 50)) (.cells #[.int .i64 17, .string ⟨#[]⟩, .string ⟨#[]⟩, .int .i64 0, .slice (some ⟨u2.heap.size, 0, none⟩) 2 2, .int .i64 0, .int .i64 5, .string ⟨#[]⟩, .string ⟨#[]⟩, .int .i64 0, .slice (some ⟨u3.heap.size, 0, none⟩) 1 1, .int .i64 0] 50)
    rw [World.size_alloc] at this
    exact this
  have r4 : ExBox W (u3.heap.size + 1 + 1) (lvE u2.heap.size u3.heap.size (u3.heap.size + 1)) := by
    rw [← hW]
    have := heap_alloc_new ((u3.alloc (.cells #[.int .i64 4, .string ⟨#[97]⟩, .string ⟨#[122]⟩, .int .i64 0, .slice none 0 0, .int .i64 0] 50)).alloc (.cells #[.int .i64 17, .string ⟨#[]⟩, .string ⟨#[]⟩, .int .i64 0, .slice (some ⟨u2.heap.size, 0, none⟩) 2 2, .int .i64 0, .int .i64 5, .string ⟨#[]⟩, .string ⟨#[]⟩, .int .i64 0, .slice (some ⟨u3.heap.size, 0, none⟩) 1 1, .int .i64 0] 50)) (.cells #[.int .i64 16, .string ⟨#[]⟩, .string ⟨#[]⟩, .int .i64 0, .slice (some ⟨u3.heap.size + 1, 0, none⟩) 2 2, .int .i64 0] 50)
    rw [World.size_alloc, World.size_alloc] at this
    exact this
  have hzW : u3.heap.size + 1 + 1 < W.heap.size := r4.lt
  have hI : (lvE u2.heap.size u3.heap.size (u3.heap.size + 1)).Is W.heap.size W := lvE_is (lvO_is r1 (by omega)) (lvN_is r2 (by omega)) r3 (by omega)
  rw [hW]
  clear hW r1 r2 r3 bb1 bb2 bb3 hBW hv1 hv2 hv3 hz1 hz2 hz3
  obtain ⟨g1, hg1⟩ : ∃ g, u2.heap.size = g := ⟨_, rfl⟩
  obtain ⟨g2, hg2⟩ : ∃ g, u3.heap.size = g := ⟨_, rfl⟩
  rw [hg1, hg2] at hI r4
  rw [hg2] at hzW
  rw [hg1, hg2]
  clear hg1 hg2
  have h3 := hL.size
  have HB : Hid (∀ V, Below W.heap.size W V → V.cell? ⟨g2 + 1 + 1, 0, none⟩ = some (.int .i64 16) ∧ V.cell? ⟨g2 + 1 + 1, 1, none⟩ = some (.string ⟨#[]⟩) ∧ V.cell? ⟨g2 + 1 + 1, 2, none⟩ = some (.string ⟨#[]⟩) ∧ V.cell? ⟨g2 + 1 + 1, 3, none⟩ = some (.int .i64 0) ∧ V.cell? ⟨g2 + 1 + 1, 4, none⟩ = some (.slice (some ⟨g2 + 1, 0, none⟩) 2 2) ∧ V.cell? ⟨g2 + 1 + 1, 5, none⟩ = some (.int .i64 0)) := fun V hV => (r4.below hV hzW).cells
  have hbW := hB.size
  have hLW : ∀ V, Below W.heap.size W V → Laid V := fun V hV => hL.below (hB.trans (hV.mono hbW)) h3
  have hE : ∀ V, Below W.heap.size W V → Calls Tryz.prog 13 #[.agg #[.int .i64 16, .string ⟨#[]⟩, .string ⟨#[]⟩, .int .i64 0, .slice (some ⟨g2 + 1, 0, none⟩) 2 2, .int .i64 0]] V fun r w' => r = .returned (.tuple #[.string ⟨#[40, 97, 46, 120, 32, 124, 124, 32, 97, 46, 121, 41, 32, 38, 38, 32, 33, 97, 46, 122]⟩, .int .i64 0]) ∧ Below V.heap.size V w' := fun V hV => lvE_calls g1 g2 (g2 + 1) W.heap.size V hV.size (hI.below hV) (hLW V hV)
  have hE2 : ∀ V, Below W.heap.size W V → Calls Tryz.prog 14 #[.agg #[.int .i64 16, .string ⟨#[]⟩, .string ⟨#[]⟩, .int .i64 0, .slice (some ⟨g2 + 1, 0, none⟩) 2 2, .int .i64 0]] V fun r w' => r = .returned (.int .i64 1) ∧ Below V.heap.size V w' := fun V hV => lvE_nests g1 g2 (g2 + 1) W.heap.size V hV.size (hI.below hV) (hLW V hV)
  have B := Below.refl W.heap.size W
  obtain ⟨c0, c1, c2, c3, c4, c5⟩ := HB.out _ B
  clear r4 hI
  go_wp2_with (first
    | (go_at_call 13; (with_reducible refine (hE _ B).mono ?_); rintro r w1 ⟨rfl, bb⟩; have B := B.tr le_rfl' bb; clear c0 c1 c2 c3 c4 c5; have hT := lvT_calls w1 (hLW _ B))
    | (go_at_call 6; (with_reducible refine hT.mono ?_); rintro r w2 ⟨rfl, bb⟩; have B := B.tr le_rfl' bb; have hZ := lvZ_calls w2 (hLW _ B))
    | (go_at_call 13; (with_reducible refine hZ.mono ?_); rintro r w3 ⟨rfl, bb⟩; have B := B.tr le_rfl' bb; obtain ⟨c0, c1, c2, c3, c4, c5⟩ := HB.out _ B)
    | (go_at_call 14; (with_reducible refine (hE2 _ B).mono ?_); rintro r w4 ⟨rfl, bb⟩; have B := B.tr le_rfl' bb; have hN := lvN_calls w4 (hLW _ B))
    | (go_at_call 8; (with_reducible refine (num_any3 _ _).mono ?_); rintro r w' ⟨rfl, hw'⟩; subst hw')
    | (go_at_call 9; (with_reducible refine hN.mono ?_); rintro r w5 ⟨rfl, bb⟩; have B := B.tr le_rfl' bb))
  go_ret
  exact ⟨rfl, hB.trans (B.mono hbW)⟩
end Go.Proofs.YtnljhlmopjgogaaGreatDoor
namespace Go.Proofs.YtnljhlmopjgogaaGreatDoor
open Go.RowKit
def Me.bsz (x : Me) : Nat := x.body.sz
def Ro.bsz (x : Ro) : Nat := x.body.sz
def Mo.msz (m : Mo) : Nat := (m.meths.map Me.bsz).sum
theorem pr_size (p : Pr) : p.size = (p.mons.map Mo.msz).sum + (p.roles.map Ro.bsz).sum := by
  have h1 : ∀ l : List Me, ((l.flatMap fun x => x.body.subs).map St.sz).sum = (l.map Me.bsz).sum := fun l => by
    induction l with
    | nil => rfl
    | cons a r ih => rw [List.flatMap_cons, List.map_append, List.sum_append, ih]; rfl
  have h2 : ∀ l : List Mo, ((l.flatMap fun m => m.meths.flatMap fun x => x.body.subs).map St.sz).sum = (l.map Mo.msz).sum := fun l => by
    induction l with
    | nil => rfl
    | cons a r ih => rw [List.flatMap_cons, List.map_append, List.sum_append, ih, h1]; rfl
  have h3 : ∀ l : List Ro, ((l.flatMap fun r => r.body.subs).map St.sz).sum = (l.map Ro.bsz).sum := fun l => by
    induction l with
    | nil => rfl
    | cons a r ih => rw [List.flatMap_cons, List.map_append, List.sum_append, ih]; rfl
  rw [Pr.size, Pr.stmts, List.map_append, List.sum_append, h2, h3]
/-- What Small hands back. -/
def SmallBack (p : Pr) (w w' : World) (r : Ending) : Prop := ∃ c : Bool, r = .returned (.bool c) ∧ (c = true → p.size ≤ 400) ∧ Below w.heap.size w w'
theorem smallBack_no {p : Pr} {w w' : World} (hb : Below w.heap.size w w') : SmallBack p w w' (.returned (.bool false)) := ⟨false, rfl, (fun h => Bool.noConfusion h), hb⟩
theorem smallBack_mk {p : Pr} {w w' : World} (c : Bool) (hc : c = true → p.size ≤ 400) (h : Below w.heap.size w w') : SmallBack p w w' (.returned (.bool c)) := ⟨c, rfl, hc, h⟩
set_option maxRecDepth 100000 in
set_option maxHeartbeats 16000000 in
theorem small_any (n₀ : Nat) (p : Pr) (w : World) (hn : n₀ ≤ w.heap.size) (hp : p.Is n₀ w) :
    Calls Tryz.prog 4 #[p.val, .int .i64 400] w fun r w' => SmallBack p w w' r := by
  have HR := hid (pr_size p)
  rcases p with ⟨mad, mcap, mons, rad, rcap, roles⟩
  obtain ⟨⟨hM1, hM2⟩, hR1, hR2⟩ := hp
  simp only at hM1 hM2 hR1 hR2
  have hl1 := hM1.1; have hl2 := hM1.2.1; have hl3 := hR1.1; have hl4 := hR1.2.1
  unfold maxLen at hl2 hl4
  simp only [Pr.val]
  have HR : Hid (Pr.size ⟨mad, mcap, mons, rad, rcap, roles⟩ = (mons.map Mo.msz).sum + (roles.map Ro.bsz).sum) := HR
  by_cases x1 : 20 < mons.length
  · have x1' : (20 : Int) < (mons.length : Int) := by omega
    go_enter Tryz.func4, Tryz.ntmps4
    go_wp2
    go_ret
    exact smallBack_no ((Below.refl _ _).al le_rfl' _)
  by_cases x2 : 20 < roles.length
  · have x1' : decide ((20 : Int) < (mons.length : Int)) = false := by simp; omega
    have x2' : (20 : Int) < (roles.length : Int) := by omega
    go_enter Tryz.func4, Tryz.ntmps4
    go_wp2
    go_ret
    exact smallBack_no ((Below.refl _ _).al le_rfl' _)
  have x1' : decide ((20 : Int) < (mons.length : Int)) = false := by simp; omega
  have x2' : decide ((20 : Int) < (roles.length : Int)) = false := by simp; omega
  go_enter Tryz.func4, Tryz.ntmps4
  go_wp2
  go_loopw [5, 6] (fun v i wr => ∃ (j : Nat) (c : Int), j ≤ mons.length ∧ v = .int .i64 c ∧ i = .int .i64 j ∧ -1 ≤ c ∧ c ≤ 400 ∧ Hid (0 ≤ c → (((mons.take j).map Mo.msz).sum : Int) ≤ 400 - c) ∧ Below (w.heap.size + 1) (w.alloc (.cells #[.slice mad mons.length mcap, .slice rad roles.length rcap] 25)) wr)
    (fun _ i _ => mons.length - (intOf i).toNat)
  case atStart => exact ⟨0, 400, by omega, rfl, rfl, by omega, by omega, fun _ => by simp, Below.refl _ _⟩
  case round =>
    obtain ⟨wo, hwo⟩ : ∃ wo : World, wo = wr := ⟨_, rfl⟩
    subst hwo
    obtain ⟨j, c, hj, rfl, rfl, hc0, hc1, HA, hbw⟩ := hrel
    have hz := hbw.size
    simp at hz
    have hbF : Below w.heap.size w wo := ((Below.refl _ w).al le_rfl' _).trans (hbw.mono (by omega))
    have hb0 : Below n₀ w wo := hbF.mono hn
    have p0 : wo.cell? ⟨w.heap.size, 0, none⟩ = some (.slice mad mons.length mcap) := (hbw.cell (p := ⟨w.heap.size, 0, none⟩) (by simp)).trans (cell_of' (World.alloc_heap_new w _) 0)
    have p1 : wo.cell? ⟨w.heap.size, 1, none⟩ = some (.slice rad roles.length rcap) := (hbw.cell (p := ⟨w.heap.size, 1, none⟩) (by simp)).trans (cell_of' (World.alloc_heap_new w _) 1)
    have lw : w.heap.size < wo.heap.size := by omega
    by_cases hlt : j < mons.length
    · rcases hM1.2.2 with h | ⟨b, off, rfl, hbn, hrow⟩
      · subst h; simp at hlt
      have hbn2 : b < wo.heap.size := by omega
      have hr := hrow.below hb0 hbn
      have hIj := (hM2 _ (List.getElem_mem hlt)).below hb0
      have HS := hid (sum_snoc Mo.msz mons j hlt)
      rcases he : mons[j] with ⟨mname, vad, vcap, vars, xad, xcap, meths, mpos⟩
      obtain ⟨c0, c1, c2, c3⟩ := row4 hr j hlt (by rw [he]; rfl)
      rw [he] at hIj HS
      clear he
      obtain ⟨⟨hI1, hI2⟩, ⟨hI3, hI4⟩, hI5, hI6⟩ := hIj
      simp only at hI1 hI2 hI3 hI4 hI5 hI6
      have hv1 := hI3.1; have hv2 := hI3.2.1; have hm1 := hI5.1; have hm2 := hI5.2.1
      unfold maxLen at hv2 hm2
      unfold Len at hI1
      by_cases y1 : 40 < vars.length
      · have y1' : (40 : Int) < (vars.length : Int) := by omega
        go_wp2
        go_ret
        exact smallBack_no (hbF.al le_rfl' _)
      by_cases y2 : 40 < meths.length
      · have y1' : decide ((40 : Int) < (vars.length : Int)) = false := by simp; omega
        have y2' : (40 : Int) < (meths.length : Int) := by omega
        go_wp2
        go_ret
        exact smallBack_no (hbF.al le_rfl' _)
      by_cases y3 : 200 < mname.size
      · have y1' : decide ((40 : Int) < (vars.length : Int)) = false := by simp; omega
        have y2' : decide ((40 : Int) < (meths.length : Int)) = false := by simp; omega
        have y3' : (200 : Int) < (mname.size : Int) := by omega
        go_wp2
        go_ret
        exact smallBack_no (hbF.al le_rfl' _)
      have y1' : decide ((40 : Int) < (vars.length : Int)) = false := by simp; omega
      have y2' : decide ((40 : Int) < (meths.length : Int)) = false := by simp; omega
      have y3' : decide ((200 : Int) < (mname.size : Int)) = false := by simp; omega
      go_wp2
      clear c0 c1 c2 c3
      go_loopw [8] (fun i wr => ∃ k : Nat, k ≤ vars.length ∧ i = .int .i64 k ∧ Below (wo.heap.size + 1) (wo.alloc (.cells #[.string mname, .slice vad vars.length vcap, .slice xad meths.length xcap, .int .i64 mpos] 39)) wr)
        (fun i _ => vars.length - (intOf i).toNat)
      case atStart => exact ⟨0, by omega, rfl, Below.refl _ _⟩
      case round =>
        obtain ⟨wv, hwv⟩ : ∃ wv : World, wv = wr := ⟨_, rfl⟩
        subst hwv
        obtain ⟨k, hk, rfl, hbv⟩ := hrel
        have hzv := hbv.size
        simp at hzv
        have hbG : Below wo.heap.size wo wv := ((Below.refl _ wo).al le_rfl' _).trans (hbv.mono (by omega))
        have m1 : wv.cell? ⟨wo.heap.size, 1, none⟩ = some (.slice vad vars.length vcap) := (hbv.cell (p := ⟨wo.heap.size, 1, none⟩) (by simp)).trans (cell_of' (World.alloc_heap_new wo _) 1)
        have m2 : wv.cell? ⟨wo.heap.size, 2, none⟩ = some (.slice xad meths.length xcap) := (hbv.cell (p := ⟨wo.heap.size, 2, none⟩) (by simp)).trans (cell_of' (World.alloc_heap_new wo _) 2)
        have lv : wo.heap.size < wv.heap.size := by omega
        by_cases hltv : k < vars.length
        · rcases hI3.2.2 with h | ⟨b2, off2, rfl, hbn3, hrow2⟩
          · subst h; simp at hltv
          have hb2 : b2 < wv.heap.size := by omega
          have hr2 := hrow2.below (hbG.mono (by omega)) hbn3
          rcases he : vars[k] with ⟨vn, vt, vlo, vhi, vi, vp⟩
          obtain ⟨d0, d1, d2, d3, d4, d5⟩ := row6 hr2 k hltv (by rw [he]; rfl)
          have hL := (hI4 _ (List.getElem_mem hltv)).1
          rw [he] at hL
          simp only at hL
          unfold Len at hL
          clear he
          by_cases z1 : 200 < vn.size
          · have z1' : (200 : Int) < (vn.size : Int) := by omega
            go_wp2
            go_ret
            exact smallBack_no (hbF.tr le_rfl' hbG)
          · have z1' : decide ((200 : Int) < (vn.size : Int)) = false := by simp; omega
            go_wp2
            go_roundw
            case rel => exact ⟨k + 1, by omega, by go_num, hbv⟩
            case measure => simp [intOf]; omega
        · have hkd : decide ((k : Int) < (vars.length : Int)) = false := by simp; omega
          go_wp2
          go_loopw [5, 9] (fun v i wr => ∃ (k2 : Nat) (d : Int), k2 ≤ meths.length ∧ v = .int .i64 d ∧ i = .int .i64 k2 ∧ -1 ≤ d ∧ d ≤ 400 ∧ Hid (0 ≤ d → (((mons.take j).map Mo.msz).sum : Int) + (((meths.take k2).map Me.bsz).sum : Int) ≤ 400 - d) ∧ Below wv.heap.size wv wr)
            (fun _ i _ => meths.length - (intOf i).toNat)
          case atStart => exact ⟨0, c, by omega, rfl, rfl, by omega, by omega, fun h => by have := HA.out h; simp only [List.take_zero, List.map_nil, List.sum_nil]; omega, Below.refl _ _⟩
          case round =>
            obtain ⟨k2, d, hk2, rfl, rfl, hd0, hd1, HM, hbm⟩ := hrel
            have hzm := hbm.size
            have m2' : wr.cell? ⟨wo.heap.size, 2, none⟩ = some (.slice xad meths.length xcap) := (hbm.cell (p := ⟨wo.heap.size, 2, none⟩) lv).trans m2
            have lv2 : wo.heap.size < wr.heap.size := by omega
            have hbH := hbG.tr le_rfl' hbm
            by_cases hltm : k2 < meths.length
            · rcases hI5.2.2 with h | ⟨b2, off2, rfl, hbn3, hrow2⟩
              · subst h; simp at hltm
              have hb2 : b2 < wr.heap.size := by omega
              have hr2 := hrow2.below (hbH.mono (by omega)) hbn3
              have hMI := (hI6 _ (List.getElem_mem hltm)).below (hbH.mono (by omega : n₀ ≤ wo.heap.size))
              have HS2 := hid (sum_snoc Me.bsz meths k2 hltm)
              rcases he : meths[k2] with ⟨xn, xb, xp⟩
              have hq := rest_any n₀ xb d wr (by omega) (by omega) (by omega) (by have := hMI.2.2; rw [he] at this; exact this)
              rw [he] at HS2 hMI
              have hL := hMI.1
              simp only [Me.bsz] at hL HS2
              unfold Len at hL
              obtain ⟨d0, d1, d2⟩ := row3 hr2 k2 hltm (by rw [he]; rfl)
              clear he hMI
              rcases xb with ⟨bad, bcap, bbody⟩
              simp only [Bl.slice] at hq d1
              by_cases z1 : 200 < xn.size
              · have z1' : (200 : Int) < (xn.size : Int) := by omega
                go_wp2
                go_ret
                exact smallBack_no (hbF.tr le_rfl' hbH)
              · have z1' : decide ((200 : Int) < (xn.size : Int)) = false := by simp; omega
                go_wp2_with (go_at_call 11; refine hq.mono ?_; rintro r w5 ⟨c5, rfl, hy0, hy1, HZ, bb5⟩)
                go_roundw
                case rel =>
                  refine ⟨k2 + 1, c5, by omega, rfl, by go_num, by omega, by omega, fun h => ?_, hbm.tr le_rfl' bb5⟩
                  have h1 := HZ.out h
                  have h2 := HM.out (by omega)
                  rw [HS2.out]
                  omega
                case measure => simp [intOf]; omega
            · have hkd2 : decide ((k2 : Int) < (meths.length : Int)) = false := by simp; omega
              have HKE := hid (show k2 = meths.length by omega)
              go_wp2
              go_roundw
              case rel =>
                refine ⟨j + 1, d, by omega, rfl, by go_num, by omega, by omega, fun h => ?_, (hbw.tr (by simp) hbH)⟩
                have h1 := HM.out h
                rw [HKE.out, List.take_length] at h1
                rw [HS.out]
                simp only [Mo.msz]
                omega
              case measure => simp [intOf]; omega
    · have hjd : decide ((j : Int) < (mons.length : Int)) = false := by simp; omega
      have HJE := hid (show j = mons.length by omega)
      go_wp2
      go_loopw [5, 10] (fun v i wr => ∃ (k2 : Nat) (d : Int), k2 ≤ roles.length ∧ v = .int .i64 d ∧ i = .int .i64 k2 ∧ -1 ≤ d ∧ d ≤ 400 ∧ Hid (0 ≤ d → ((mons.map Mo.msz).sum : Int) + (((roles.take k2).map Ro.bsz).sum : Int) ≤ 400 - d) ∧ Below wo.heap.size wo wr)
        (fun _ i _ => roles.length - (intOf i).toNat)
      case atStart =>
        refine ⟨0, c, by omega, rfl, rfl, by omega, by omega, fun h => ?_, Below.refl _ _⟩
        have h1 := HA.out h
        rw [HJE.out, List.take_length] at h1
        simp only [List.take_zero, List.map_nil, List.sum_nil]
        omega
      case round =>
        obtain ⟨k2, d, hk2, rfl, rfl, hd0, hd1, HM, hbm⟩ := hrel
        have hzm := hbm.size
        have p1' : wr.cell? ⟨w.heap.size, 1, none⟩ = some (.slice rad roles.length rcap) := (hbm.cell (p := ⟨w.heap.size, 1, none⟩) lw).trans p1
        have lw2 : w.heap.size < wr.heap.size := by omega
        have hbH := hbF.tr le_rfl' hbm
        by_cases hltm : k2 < roles.length
        · rcases hR1.2.2 with h | ⟨b2, off2, rfl, hbn3, hrow2⟩
          · subst h; simp at hltm
          have hb2 : b2 < wr.heap.size := by omega
          have hr2 := hrow2.below (hbH.mono hn) hbn3
          have hMI := (hR2 _ (List.getElem_mem hltm)).below (hbH.mono hn)
          have HS2 := hid (sum_snoc Ro.bsz roles k2 hltm)
          rcases he : roles[k2] with ⟨xn, xs, xc, xb, xp⟩
          have hq := rest_any n₀ xb d wr (by omega) (by omega) (by omega) (by have := hMI.2.2.2; rw [he] at this; exact this)
          rw [he] at HS2 hMI
          have hL := hMI.1
          simp only [Ro.bsz] at hL HS2
          unfold Len at hL
          obtain ⟨d0, d1, d2, d3, d4⟩ := row5 hr2 k2 hltm (by rw [he]; rfl)
          clear he hMI
          rcases xb with ⟨bad, bcap, bbody⟩
          simp only [Bl.slice] at hq d3
          by_cases z1 : 200 < xn.size
          · have z1' : (200 : Int) < (xn.size : Int) := by omega
            go_wp2
            go_ret
            exact smallBack_no (hbH)
          · have z1' : decide ((200 : Int) < (xn.size : Int)) = false := by simp; omega
            go_wp2_with (go_at_call 11; refine hq.mono ?_; rintro r w5 ⟨c5, rfl, hy0, hy1, HZ, bb5⟩)
            go_roundw
            case rel =>
              refine ⟨k2 + 1, c5, by omega, rfl, by go_num, by omega, by omega, fun h => ?_, hbm.tr le_rfl' bb5⟩
              have h1 := HZ.out h
              have h2 := HM.out (by omega)
              rw [HS2.out]
              omega
            case measure => simp [intOf]; omega
        · have hkd2 : decide ((k2 : Int) < (roles.length : Int)) = false := by simp; omega
          have HKE := hid (show k2 = roles.length by omega)
          go_wp2
          go_ret
          refine smallBack_mk (decide (0 ≤ d)) (fun h => ?_) hbH
          have h1 := HM.out (by simpa using h)
          rw [HKE.out, List.take_length] at h1
          rw [HR.out]
          have h2 : (0 : Int) ≤ d := by simpa using h
          omega
end Go.Proofs.YtnljhlmopjgogaaGreatDoor
namespace Go.Proofs.YtnljhlmopjgogaaGreatDoor
open Go.RowKit Px
theorem textOut_form (p : Pr) : ∃ (s : ByteArray) (c : Int), textOut p = .tuple #[.string s, .int .i64 c] := by
  unfold textOut
  split
  · split
    · exact ⟨_, _, rfl⟩
    · exact toldOf_form _
  · exact ⟨_, _, rfl⟩
theorem smallTwo {p : Pr} {w w' : World} {r : Ending} (h : SmallBack p w w' r) : (r = .returned (.bool true) ∧ Hid (p.size ≤ 400) ∧ Below w.heap.size w w') ∨ (r = .returned (.bool false) ∧ Below w.heap.size w w') := by
  obtain ⟨c, rfl, hc, hb⟩ := h
  cases c
  · exact .inr ⟨rfl, hb⟩
  · exact .inl ⟨rfl, hc rfl, hb⟩
/-- A block of two cells. -/
def Duo (W : World) (b : Nat) (x y : Value) : Prop := W.heap[b]? = some (.cells #[x, y] 25 (0, 0))
theorem Duo.lt {W : World} {b : Nat} {x y : Value} (h : Duo W b x y) : b < W.heap.size := (Array.getElem?_eq_some_iff.1 h).1
theorem Duo.keep {W W' : World} {b : Nat} {x y : Value} (h : Duo W b x y) (hb : Below W.heap.size W W') : Duo W' b x y := (hb.block b h.lt).trans h
theorem Duo.cells {W : World} {b : Nat} {x y : Value} (h : Duo W b x y) : W.cell? ⟨b, 0, none⟩ = some x ∧ W.cell? ⟨b, 1, none⟩ = some y := ⟨cell_of' h 0, cell_of' h 1⟩
set_option maxRecDepth 100000 in
set_option maxHeartbeats 4000000 in
theorem printTexts_walk (p : Pr) (w : World) (hL : Laid w) (hp : p.Is w.heap.size w) :
    Calls Tryz.prog 3 #[p.val] w fun r w' => r = .returned (.bool true) ∧ Below w.heap.size w w' := by
  have h3 := hL.size
  have h4 : ∀ W, Below w.heap.size w W → Calls Tryz.prog 4 #[p.val, .int .i64 400] W fun r w' => (r = .returned (.bool true) ∧ Hid (p.size ≤ 400) ∧ Below W.heap.size W w') ∨ (r = .returned (.bool false) ∧ Below W.heap.size W w') := fun W hW => (small_any w.heap.size p W hW.size (hp.below hW)).mono fun r w' h => smallTwo h
  have h5 : ∀ W, Below w.heap.size w W → Calls Tryz.prog 5 #[] W fun r w' => r = .returned (.bool true) ∧ Below W.heap.size W w' := fun W hW => live_any W (hL.below hW h3)
  obtain ⟨s, c, hsc⟩ := textOut_form p
  have h6 : Hid (p.size ≤ 400) → ∀ W, Below w.heap.size w W → Calls Tryz.prog 6 #[p.val] W fun r w' => r = .returned (.tuple #[.string s, .int .i64 c]) ∧ Below W.heap.size W w' := fun h W hW => by
    have := printText_any p w.heap.size W hW.size (hp.below hW) (hL.below hW h3) (by have := h.out; omega)
    rwa [hsc] at this
  have h7 : Hid (p.size ≤ 400) → ∀ W, Below w.heap.size w W → Calls Tryz.prog 7 #[p.val] W fun r w' => r = .returned (.tuple #[.string s, .int .i64 c]) ∧ Below W.heap.size W w' := fun h W hW => by
    have := refText_any p w.heap.size W hW.size (hp.below hW) (by have := h.out; omega)
    rwa [hsc] at this
  obtain ⟨y, hy⟩ : ∃ y, pnestOut p = y := ⟨_, rfl⟩
  have h9 : Hid (p.size ≤ 400) → ∀ W, Below w.heap.size w W → Calls Tryz.prog 9 #[p.val] W fun r w' => r = .returned (.int .i64 (y : Int)) ∧ Below W.heap.size W w' := fun h W hW => by
    have := printNest_any p w.heap.size W hW.size (hp.below hW) (hL.below hW h3) (by have := h.out; omega)
    rwa [hy] at this
  have h10 : Hid (p.size ≤ 400) → ∀ W, Below w.heap.size w W → Calls Tryz.prog 10 #[p.val] W fun r w' => r = .returned (.int .i64 (y : Int)) ∧ Below W.heap.size W w' := fun h W hW => by
    have := refNestP_any p w.heap.size W hW.size (hp.below hW) (by have := h.out; omega)
    rwa [hy] at this
  clear hsc hy hp
  obtain ⟨A, hA⟩ : ∃ A, Hid (p.size ≤ 400) = A := ⟨_, rfl⟩
  simp only [hA] at h4 h6 h7 h9 h10
  clear hA
  rcases p with ⟨xmad, xmcap, xmons, xrad, xrcap, xroles⟩
  simp only [Pr.val] at h4 h6 h7 h9 h10 ⊢
  have B1 : Below w.heap.size w (w.alloc (.cells #[.slice xmad xmons.length xmcap, .slice xrad xroles.length xrcap] 25)) := (Below.refl _ w).al le_rfl' _
  have hX : Duo (w.alloc (.cells #[.slice xmad xmons.length xmcap, .slice xrad xroles.length xrcap] 25)) w.heap.size (.slice xmad xmons.length xmcap) (.slice xrad xroles.length xrcap) := heap_alloc_new w _
  have h4x := h4 _ B1
  go_enter Tryz.func3, Tryz.ntmps3
  go_upto_region 5 with (first
    | (go_at_call 4; (with_reducible refine h4x.mono ?_); rintro r w1 (⟨rfl, hc1, b1⟩ | ⟨rfl, b1⟩) <;> (have B2 := B1.tr le_rfl' b1; have X1 := hX.keep b1; obtain ⟨f0, f1⟩ := X1.cells; have g1 := h5 w1 B2))
    | (go_at_call 5; (with_reducible refine g1.mono ?_); rintro r w6 ⟨rfl, b6⟩; have BE := B2.tr le_rfl' b6)
    | (go_at_call 6; (with_reducible refine (h6 hc1 _ B2).mono ?_); rintro r w2 ⟨rfl, b2⟩; have B3 := B2.tr le_rfl' b2; have X2 := X1.keep b2; clear f0 f1; obtain ⟨f0, f1⟩ := X2.cells)
    | (go_at_call 7; (with_reducible refine (h7 hc1 _ B3).mono ?_); rintro r w3 ⟨rfl, b3⟩; have B4 := B3.tr le_rfl' b3; have X3 := X2.keep b3; clear f0 f1))
  · have HK : Hid (∀ W, Below w3.heap.size w3 W → W.cell? ⟨w.heap.size, 0, none⟩ = some (.slice xmad xmons.length xmcap) ∧ W.cell? ⟨w.heap.size, 1, none⟩ = some (.slice xrad xroles.length xrcap)) := fun W hW => (X3.keep hW).cells
    have B := below_drewE (Below.refl w3.heap.size w3)
    have hz4 := B4.size
    have g9 := fun W (h : Below w3.heap.size w3 W) => h9 hc1 W (B4.trans (h.mono hz4))
    have g10 := fun W (h : Below w3.heap.size w3 W) => h10 hc1 W (B4.trans (h.mono hz4))
    have g5 := fun W (h : Below w3.heap.size w3 W) => h5 W (B4.trans (h.mono hz4))
    clear h4 h5 h6 h7 h9 h10 h4x hX X1 X2 b1 b2 b3
    go_region_held3 (fun W => W.cell? ⟨w.heap.size, 0, none⟩ = some (.slice xmad xmons.length xmcap) ∧ W.cell? ⟨w.heap.size, 1, none⟩ = some (.slice xrad xroles.length xrcap)) (exact HK.out _ B)
      (first
        | (go_at_call 9; (with_reducible refine (g9 _ B).mono ?_); rintro r u1 ⟨rfl, bb⟩; have B := B.tr le_rfl' bb)
        | (go_at_call 10; (with_reducible refine (g10 _ B).mono ?_); rintro r u2 ⟨rfl, bb⟩; have B := B.tr le_rfl' bb)
        | (go_at_call 5; (with_reducible refine (g5 _ B).mono ?_); rintro r u3 ⟨rfl, bb⟩; have B := B.tr le_rfl' bb)
        | (go_at_call 8; (with_reducible refine (num_any3 _ _).mono ?_); rintro r w' ⟨rfl, hw'⟩; have hw2 := hw'.symm; subst hw2))
    all_goals go_wp2
    all_goals go_ret
    all_goals exact ⟨rfl, B4.trans (B.mono hz4)⟩
  · go_ret
    exact ⟨rfl, BE⟩
end Go.Proofs.YtnljhlmopjgogaaGreatDoor
