/-
  The small expression and the small programs that live of the statements of stage 3 looks at: how they lie, their texts. Nothing is walked here.
-/
import Derived.Test.YtnljhlmopjgogaaDoorPxA
namespace Go.Proofs.YtnljhlmopjgogaaDoor
open Go.RowKit Px
def lvX (c : UInt8) : Ex := .mk 4 ⟨#[97]⟩ ⟨#[c]⟩ 0 none 0 [] 0
def lvO (g : Nat) : Ex := .mk 17 ⟨#[]⟩ ⟨#[]⟩ 0 (some ⟨g, 0, none⟩) 2 [lvX 120, lvX 121] 0
def lvN (g : Nat) : Ex := .mk 5 ⟨#[]⟩ ⟨#[]⟩ 0 (some ⟨g, 0, none⟩) 1 [lvX 122] 0
def lvE (g1 g2 g3 : Nat) : Ex := .mk 16 ⟨#[]⟩ ⟨#[]⟩ 0 (some ⟨g3, 0, none⟩) 2 [lvO g1, lvN g2] 0
def lvS : St := .mk 1 ⟨#[]⟩ ⟨#[]⟩ 0 exZ none 0 [] 0
def lvR (g : Nat) : Ro := ⟨⟨#[114]⟩, false, 2, .mk (some ⟨g, 0, none⟩) 1 [lvS], 0⟩
def lvQ : Ro := ⟨⟨#[114]⟩, true, 0, .mk none 0 [], 0⟩
def lvP (g h : Nat) : Pr := ⟨none, 0, [], some ⟨h, 0, none⟩, 1, [lvR g]⟩
def lvP2 (h : Nat) : Pr := ⟨none, 0, [], some ⟨h, 0, none⟩, 1, [lvQ]⟩
theorem i64_small {n : Int} (h1 : 0 ≤ n) (h2 : n ≤ 100) : I64 n := ⟨by omega, by omega⟩
theorem len0 : Len (⟨#[]⟩ : ByteArray) := by unfold Len; decide
theorem len1 (c : UInt8) : Len (⟨#[c]⟩ : ByteArray) := by unfold Len; show 1 ≤ _; omega
theorem lvX_is (c : UInt8) (n₀ : Nat) (W : World) : (lvX c).Is n₀ W := Ex.Is.up ⟨⟨i64_small (by omega) (by omega), i64_small (by omega) (by omega), i64_small (by omega) (by omega), len1 _, len1 _⟩, slAt_nil, fun x hx => by cases hx⟩
theorem lvO_is {n₀ g : Nat} {W : World} {z : Nat × Nat} (h : W.heap[g]? = some (.cells ((lvX 120).cells ++ (lvX 121).cells).toArray 24 z)) (hg : g < n₀) : (lvO g).Is n₀ W :=
  Ex.Is.up ⟨⟨i64_small (by omega) (by omega), i64_small (by omega) (by omega), i64_small (by omega) (by omega), len0, len0⟩, slAt_of_block exCells_len h (by simp) hg (by simp) (by omega), fun x hx => by
    rcases List.mem_cons.1 hx with rfl | hx
    · exact lvX_is _ _ _
    · rw [List.mem_singleton.1 hx]; exact lvX_is _ _ _⟩
theorem lvN_is {n₀ g : Nat} {W : World} {z : Nat × Nat} (h : W.heap[g]? = some (.cells (lvX 122).cells.toArray 24 z)) (hg : g < n₀) : (lvN g).Is n₀ W :=
  Ex.Is.up ⟨⟨i64_small (by omega) (by omega), i64_small (by omega) (by omega), i64_small (by omega) (by omega), len0, len0⟩, slAt_of_block exCells_len h (by simp) hg (by simp) (by omega), fun x hx => by
    rw [List.mem_singleton.1 hx]; exact lvX_is _ _ _⟩
theorem lvE_is {n₀ g1 g2 g3 : Nat} {W : World} {z : Nat × Nat} (h1 : (lvO g1).Is n₀ W) (h2 : (lvN g2).Is n₀ W) (h : W.heap[g3]? = some (.cells ((lvO g1).cells ++ (lvN g2).cells).toArray 24 z)) (hg : g3 < n₀) : (lvE g1 g2 g3).Is n₀ W :=
  Ex.Is.up ⟨⟨i64_small (by omega) (by omega), i64_small (by omega) (by omega), i64_small (by omega) (by omega), len0, len0⟩, slAt_of_block exCells_len h (by simp) hg (by simp) (by omega), fun x hx => by
    rcases List.mem_cons.1 hx with rfl | hx
    · exact h1
    · rw [List.mem_singleton.1 hx]; exact h2⟩
theorem nameY : Lx.name ⟨#[121]⟩ = true := by kernel_rfl
theorem nameZ : Lx.name ⟨#[122]⟩ = true := by kernel_rfl
theorem lvE_ok (g1 g2 g3 : Nat) : (lvE g1 g2 g3).ok = true := by
  simp [lvE, lvO, lvN, lvX, Ex.ok, Ex.subs, Ex.subsL, Ex.ok1, exNames, exNumber, exKids, fitsName, fitsNum, nameA, nameX, nameY, nameZ]
  rfl
theorem lvE_txt (g1 g2 g3 : Nat) : (lvE g1 g2 g3).txt 1 = [40, 97, 46, 120, 32, 124, 124, 32, 97, 46, 121, 41, 32, 38, 38, 32, 33, 97, 46, 122] := by
  simp [lvE, lvO, lvN, lvX, Ex.txt, Ex.bare_mk, Ex.opOf, bareOf, atL, kid, own, sgnOf, signed, sgn]
theorem lvE_nest (g1 g2 g3 : Nat) : (lvE g1 g2 g3).nest 1 = 1 := by
  simp [lvE, lvO, lvN, lvX, Ex.nest, Ex.nst_mk, Ex.opOf, nestOf, nestL, nkid, own, sgnOf, signed, sgn]
theorem lvE_out (g1 g2 g3 : Nat) : exprOut (lvE g1 g2 g3) = .tuple #[.string ⟨#[40, 97, 46, 120, 32, 124, 124, 32, 97, 46, 121, 41, 32, 38, 38, 32, 33, 97, 46, 122]⟩, .int .i64 0] := by
  rw [exprOut, lvE_ok, lvE_txt, lvE_nest]; rfl
theorem exZ_out : exprOut exZ = .tuple #[.string ⟨#[]⟩, .int .i64 20] := by rw [exprOut, exZ_ok]; rfl
theorem lvE_subs (g1 g2 g3 : Nat) : (lvE g1 g2 g3).subs.length = 6 := by simp [lvE, lvO, lvN, lvX, Ex.subs, Ex.subsL]
theorem lvS_is (n₀ : Nat) (W : World) : lvS.Is n₀ W := St.Is.up ⟨⟨i64_small (by omega) (by omega), i64_small (by omega) (by omega), i64_small (by omega) (by omega), len0, len0⟩, exZ_is _ _, slAt_nil, fun x hx => by cases hx⟩
theorem lvP_is {n₀ g h : Nat} {W : World} {z1 z2 : Nat × Nat} (h1 : W.heap[g]? = some (.cells lvS.cells.toArray 47 z1)) (h2 : W.heap[h]? = some (.cells (lvR g).cells.toArray 49 z2)) (hg : g < n₀) (hh : h < n₀) : (lvP g h).Is n₀ W :=
  ⟨⟨slAt_nil, fun x hx => by cases hx⟩, slAt_of_block (cells := Ro.cells) (size := 5) (l := [lvR g]) (cap := 1) (fun _ => rfl) h2 (by simp) hh (by simp) (by omega), fun r hr => by
    rw [List.mem_singleton.1 hr]
    exact ⟨len1 _, i64_small (by show (0 : Int) ≤ 2; omega) (by show (2 : Int) ≤ 100; omega), i64_small (Int.le_refl _) (by show (0 : Int) ≤ 100; omega), Bl.Is.up ⟨slAt_of_block stCells_len h1 (by simp) hg (by simp) (by omega), fun s hs => by rw [List.mem_singleton.1 hs]; exact lvS_is _ _⟩⟩⟩
theorem lvP2_is {n₀ h : Nat} {W : World} {z2 : Nat × Nat} (h2 : W.heap[h]? = some (.cells lvQ.cells.toArray 49 z2)) (hh : h < n₀) : (lvP2 h).Is n₀ W :=
  ⟨⟨slAt_nil, fun x hx => by cases hx⟩, slAt_of_block (cells := Ro.cells) (size := 5) (l := [lvQ]) (cap := 1) (fun _ => rfl) h2 (by simp) hh (by simp) (by omega), fun r hr => by
    rw [List.mem_singleton.1 hr]
    exact ⟨len1 _, i64_small (Int.le_refl _) (by show (0 : Int) ≤ 100; omega), i64_small (Int.le_refl _) (by show (0 : Int) ≤ 100; omega), Bl.Is.up ⟨slAt_nil, fun s hs => by cases hs⟩⟩⟩
theorem exZ_none : exZ.none = true := by simp [exZ, Ex.none, Ex.same, Ex.sameL]
theorem lvP_ok (g h : Nat) : (lvP g h).ok = true := by
  simp [lvP, lvR, lvS, Pr.ok, Pr.decl, Pr.stmts, Ro.ok, Bl.subs_mk, St.subs_mk, St.ok1, fitsName, fitsNum, stMon, stName, stNumber, stExpr, stLeast, stMost, fitsEx, exZ_none, nameR]
  rfl
theorem lvP_size (g h : Nat) : (lvP g h).size = 1 := by
  simp [lvP, lvR, lvS, Pr.size, Pr.stmts, Bl.subs_mk, St.subs_mk, St.sz, St.e, exZ_none]
theorem lvP_nst (g h : Nat) : (lvP g h).nst = 1 := by
  simp [lvP, lvR, lvS, Pr.nst, maxL, Bl.nst_mk, St.nst_mk, (none_nest exZ_none).1]
theorem itoa2 : Lib.itoa 2 = [50] := by simp [Lib.itoa, Lib.decDigits]
theorem lvP_txt (g h : Nat) : (lvP g h).txt = [116, 104, 114, 101, 97, 100, 32, 114, 32, 50, 32, 123, 10, 32, 32, 115, 107, 105, 112, 59, 10, 125, 10] := by
  simp [lvP, lvR, lvS, Pr.txt, roT, roCount, itoa2, blksT, blkT, Bl.txt_mk, St.txt_mk, stOf, lin, ind]
theorem lvP_out (g h : Nat) : textOut (lvP g h) = .tuple #[.string ⟨#[116, 104, 114, 101, 97, 100, 32, 114, 32, 50, 32, 123, 10, 32, 32, 115, 107, 105, 112, 59, 10, 125, 10]⟩, .int .i64 0] := by
  rw [textOut, lvP_ok, lvP_nst, lvP_txt]; rfl
theorem lvP2_ok (h : Nat) : (lvP2 h).ok = true := by
  simp [lvP2, lvQ, Pr.ok, Pr.decl, Pr.stmts, Ro.ok, Bl.subs_mk, fitsNum, nameR]
theorem lvP2_size (h : Nat) : (lvP2 h).size = 0 := by
  simp [lvP2, lvQ, Pr.size, Pr.stmts, Bl.subs_mk]
theorem lvP2_nst (h : Nat) : pnestOut (lvP2 h) = 1 := by
  rw [pnestOut, lvP2_ok]
  simp [lvP2, lvQ, Pr.nst, maxL, Bl.nst_mk]
end Go.Proofs.YtnljhlmopjgogaaDoor
