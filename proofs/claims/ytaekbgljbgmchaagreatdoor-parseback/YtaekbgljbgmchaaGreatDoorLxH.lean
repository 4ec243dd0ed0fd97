/-
  Scan of package lex tells the tokens, or the first error and its place, that a plain Lean function on the text's bytes says.
-/
import Derived.Test.YtaekbgljbgmchaaGreatDoorLxG
namespace Go.Proofs.YtaekbgljbgmchaaGreatDoor
open Go.RowKit
namespace Lx
/-- How a scan ends. -/
inductive ScanR where
  | done (l : List Out)
  | fail (e : Int) (k : Nat)
/-- The scan from a place on, with so many rounds, behind the tokens acc. -/
def scanF (s : ByteArray) : Nat → Nat → List Out → ScanR
  | 0, _, acc => .done acc
  | f + 1, k, acc => if k < s.size then (if (tokOut s k).err = 0 then scanF s f (skip s (k + (tokOut s k).text.size)) (acc ++ [tokOut s k]) else .fail (tokOut s k).err k) else .done acc
def scan (s : ByteArray) : ScanR := scanF s s.size (skip s 0) []
/-- The end. -/
def endTok (s : ByteArray) : Out := ⟨5, ⟨#[]⟩, 0, s.size, 0⟩
def outs (s : ByteArray) : List Out := match scan s with | .done l => l ++ [endTok s] | .fail _ _ => []
def errOf (s : ByteArray) : Int := match scan s with | .done _ => 0 | .fail e _ => e
def atOf (s : ByteArray) : Nat := match scan s with | .done _ => 0 | .fail _ k => k
theorem of_done (s : ByteArray) (l : List Out) (h : scan s = .done l) : outs s = l ++ [endTok s] ∧ errOf s = 0 ∧ atOf s = 0 := by simp [outs, errOf, atOf, h]
theorem of_fail (s : ByteArray) (e : Int) (k : Nat) (h : scan s = .fail e k) : outs s = [] ∧ errOf s = e ∧ atOf s = k := by simp [outs, errOf, atOf, h]
/-- A token's cells. -/
def cells1 (o : Out) : List Value := [.int .i64 o.kind, .string o.text, .int .i64 o.n, .int .i64 (o.pos : Int)]
def cellsOf (l : List Out) : List Value := l.flatMap cells1
theorem cellsOf_snoc (l : List Out) (o : Out) : cellsOf (l ++ [o]) = cellsOf l ++ cells1 o := by simp [cellsOf]
theorem scanF_over (s : ByteArray) (f k : Nat) (acc : List Out) (h : ¬ k < s.size) : scanF s f k acc = .done acc := by
  cases f <;> simp [scanF, h]
theorem tok_ok (s : ByteArray) (k : Nat) (h : k < s.size) (he : (tokOut s k).err = 0) : 1 ≤ (tokOut s k).text.size ∧ k + (tokOut s k).text.size ≤ s.size := by
  have hsub : ∀ b, k < b → b ≤ s.size → 1 ≤ (s.extract k b).size ∧ k + (s.extract k b).size ≤ s.size := by
    intro b h1 h2; simp; omega
  cases hl : letter s[k]
  · cases hd : digit s[k]
    · rw [tokOut_sign s k h hl hd] at he ⊢
      have hle := signLen_le s k h
      unfold signOut at he ⊢
      split at he
      · simp [bad] at he
      · rw [if_neg (by assumption)]
        exact hsub _ (by omega) hle
    · rw [tokOut_digit s k h hl hd] at he ⊢
      have hle := spanEnd_le digit s k (by omega)
      have hge := le_spanEnd digit s (k + 1)
      rw [spanEnd_step digit s k h hd] at hge
      unfold numOut at he ⊢
      split at he
      · simp [bad] at he
      · rw [if_neg (by assumption)]
        split at he
        · rw [if_pos (by assumption)]; exact hsub _ (by omega) hle
        · simp [bad] at he
  · rw [tokOut_letter s k h hl] at he ⊢
    have hle := spanEnd_le nameByte s k (by omega)
    have hge := le_spanEnd nameByte s (k + 1)
    rw [spanEnd_step nameByte s k h (by simp [nameByte, hl])] at hge
    have hx := hsub _ (show k < spanEnd nameByte s k by omega) hle
    unfold nameOut at he ⊢
    split
    · exact hx
    · split
      · simp_all [bad]
      · exact hx
end Lx
theorem Tryz.info57 : (Tryz.prog.info? 57).map (fun i => (i.zero, i.size, i.bytes)) = some (some (.agg #[.int .i64 0, .string ⟨#[]⟩, .int .i64 0, .int .i64 0]), 4, 40) := by kernel_rfl
theorem owns_below {w1 w2 : World} {base e size : Nat} {v : Value} {n : Nat} {xs : List Value} (h : w1.ownsRow base e size v n xs) (hb : Below w1.heap.size w1 w2) : w2.ownsRow base e size v n xs :=
  h.kept (row := none) ⟨hb.os, hb.tape, hb.output, hb.size, fun k hk _ => hb.block k hk⟩ (by cases hv : v.ownBlock <;> simp)
theorem news4 (w1 : World) (X : Obj) (T : TypeId) (c0 c1 c2 c3 : Value) (j : Nat) (u : Value) (h : [c0, c1, c2, c3][j]? = some u) : ((w1.alloc X).alloc (.cells #[c0, c1, c2, c3] T)).cell? ((⟨w1.heap.size + 1, 0, none⟩ : Addr).add j) = some u := by
  have hz : w1.heap.size + 1 = (w1.alloc X).heap.size := by simp
  rw [show (⟨w1.heap.size + 1, 0, none⟩ : Addr).add j = ⟨w1.heap.size + 1, j, none⟩ by simp [Addr.add]; omega, World.cell?_alloc_at _ _ _ _ hz]
  simpa using h
theorem news3 (w1 : World) (T : TypeId) (c0 c1 c2 c3 : Value) (j : Nat) (u : Value) (h : [c0, c1, c2, c3][j]? = some u) : (w1.alloc (.cells #[c0, c1, c2, c3] T)).cell? ((⟨w1.heap.size, 0, none⟩ : Addr).add j) = some u := by
  rw [show (⟨w1.heap.size, 0, none⟩ : Addr).add j = ⟨w1.heap.size, j, none⟩ by simp [Addr.add]; omega, World.cell?_alloc_at _ _ _ _ rfl]
  simpa using h
theorem one4 (o : Lx.Out) (u : Value) (h : u ∈ Lx.cells1 o) : u.oneCell' = true := by
  simp only [Lx.cells1, List.mem_cons, List.not_mem_nil, or_false] at h
  rcases h with rfl | rfl | rfl | rfl <;> rfl
theorem grown_cell {B e n : Nat} {xs : List Value} {wr w1 w2 : World} {c0 c1 c2 c3 v : Value} {T : TypeId} {o : Obj} (hown : wr.ownsRow B e 4 v n xs) (hb : Below wr.heap.size wr w1)
    (hg : ((w1.alloc (.cells #[c0, c1, c2, c3] T)).alloc o).grownBy w2 v.ownBlock) : w2.cell? ⟨w1.heap.size, 1, none⟩ = some c1 := by
  have hz := hb.size
  have h1 : w2.heap[w1.heap.size]? = ((w1.alloc (.cells #[c0, c1, c2, c3] T)).alloc o).heap[w1.heap.size]? := by
    refine hg.block _ (by simp; omega) ?_
    intro h
    have := (hown.lt _ h.symm).2
    omega
  rw [World.cell?_of_block (a := ⟨w1.heap.size, 1, none⟩) h1, World.cell?_alloc_past _ _ _ (by simp), World.cell?_alloc_at _ _ _ _ rfl]
  rfl
theorem grown_below {B e n : Nat} {xs : List Value} {w wr w1 w2 : World} {v : Value} {o1 o2 : Obj} (hown : wr.ownsRow B e 4 v n xs) (hnx : Below B w wr) (hB : B ≤ wr.heap.size) (hb : Below wr.heap.size wr w1)
    (hg : ((w1.alloc o1).alloc o2).grownBy w2 v.ownBlock) : Below B w w2 := by
  have hz := hb.size
  exact (((hnx.trans (hb.mono hB)).alloc (by omega) o1).alloc (by simp; omega) o2).grown hg (by simp; omega) (fun k hk => (hown.lt k hk).1)
theorem passBlanks_at (s : ByteArray) (a : Nat) (ai : Int) (w : World) (hs : s.size ≤ 20000) (ha : a ≤ s.size) (hai : ai = (a : Int)) :
    Calls Tryz.prog 57 #[.string s, .int .i64 ai] w fun e w' => e = .returned (.int .i64 (Lx.skip s a : Nat)) ∧ w' = w := by
  subst hai; exact passBlanks_any s a w hs ha
set_option maxRecDepth 100000 in
set_option maxHeartbeats 1000000 in
theorem scan_any (s : ByteArray) (w : World) (hs : s.size ≤ 20000) (hE : HasErr w) :
    Calls Tryz.prog 26 #[.string s] w fun e w' => ∃ v, e = .returned (.tuple #[v, .int .i64 (Lx.errOf s), .int .i64 (Lx.atOf s : Nat)]) ∧ w'.ownsRow w.heap.size 57 4 v (Lx.outs s).length (Lx.cellsOf (Lx.outs s)) ∧ Below w.heap.size w w' := by
  obtain ⟨i0, hi, hz0, hz1, hz2⟩ := info_parts Tryz.info57
  have hk0 := Lx.skip_le s 0 (by omega)
  go_enter Tryz.func26, Tryz.ntmps26
  go_wp2_with (go_at_call 57; refine (passBlanks_any s 0 _ hs (by omega)).mono ?_; rintro e w' ⟨rfl, hw'⟩; have hw2 := hw'.symm; subst hw2)
  go_loopw [5, 6] (fun v i wr => ∃ (k : Nat) (acc : List Lx.Out) (f : Nat), k ≤ s.size ∧ i = .int .i64 k ∧ wr.ownsRow w.heap.size 57 4 v acc.length (Lx.cellsOf acc) ∧ Below w.heap.size w wr ∧ Lx.scanF s f k acc = Lx.scan s ∧ s.size ≤ k + f ∧ acc.length ≤ k)
    (fun _ i _ => s.size - (intOf i).toNat)
  case atStart => exact ⟨Lx.skip s 0, [], s.size, hk0, rfl, World.ownsRow_nil _ _ _ _, Below.refl _ _, rfl, by omega, by simp⟩
  case round =>
    obtain ⟨k, acc, f, hk, rfl, hown, hnx, hq, hf, hal⟩ := hrel
    have HQ := hid hq
    clear hq
    by_cases hlt : k < s.size
    · by_cases he : (Lx.tokOut s k).err = 0
      · have hen : ((Lx.tokOut s k).err != 0) = false := by rw [he]; rfl
        have hto := Lx.tok_ok s k hlt he
        have HO : Hid (∃ f', f = f' + 1 ∧ Lx.scanF s f' (Lx.skip s (k + (Lx.tokOut s k).text.size)) (acc ++ [Lx.tokOut s k]) = Lx.scan s) := by
          obtain ⟨f', rfl⟩ : ∃ f', f = f' + 1 := ⟨f - 1, by omega⟩
          refine ⟨f', rfl, ?_⟩
          rw [← HQ.out, Lx.scanF, if_pos hlt, if_pos he]
        have HW : Hid (HasErr wr) := hE.after hnx
        have HE := hid he
        clear he
        go_wp2_with (first
          | (go_at_call 58; refine (tokenAt_any s k _ hs hlt (by exact HW.out)).mono ?_; rintro e w1 ⟨rfl, hb1⟩)
          | (at_builtin; refine wpList_append_own _ rfl _ _ 52 rfl w.heap.size 57 i0 (.agg #[.int .i64 0, .string ⟨#[]⟩, .int .i64 0, .int .i64 0]) 4 40 Tryz.underlying52 hi hz0 hz1 hz2 rfl (by decide) _ _ _ rfl (((owns_below hown hb1).alloc _).alloc _) ⟨w1.heap.size + 1, 0, none⟩ 1 1 (Lx.cells1 (Lx.tokOut s k)) rfl rfl ?c1 ?c2 ?c3 ?c4 ?c5 ?_))
        case c1 => exact fun j u h => news4 _ _ _ _ _ _ _ j u h
        case c2 => exact one4 _
        case c3 => unfold maxLen; omega
        case c4 => omega
        case c5 => have := hnx.size; have := hb1.size; simp; omega
        intro v' w2 hown' hgrow _
        have hsw := hnx.size
        have hcell := grown_cell hown hb1 hgrow
        have hbw := grown_below hown hnx hsw hb1 hgrow
        have hsk := Lx.skip_le s (k + (Lx.tokOut s k).text.size) (by omega)
        have hsg := Lx.le_skip s (k + (Lx.tokOut s k).text.size)
        clear hgrow hown hb1 hnx
        go_wp2_with (go_at_call 57; refine (passBlanks_at s (k + (Lx.tokOut s k).text.size) _ _ hs (by omega) (by omega)).mono ?_; rintro e w' ⟨rfl, hw'⟩; have hw2 := hw'.symm; subst hw2)
        go_roundw
        case rel =>
          obtain ⟨f', hf', hO⟩ := HO.out
          exact ⟨Lx.skip s (k + (Lx.tokOut s k).text.size), acc ++ [Lx.tokOut s k], f', hsk, rfl, by rw [Lx.cellsOf_snoc, List.length_append]; exact hown', hbw, hO, by omega, by rw [List.length_append]; simp; omega⟩
        case measure => simp [intOf]; omega
      · have hen : ((Lx.tokOut s k).err != 0) = true := by rw [bne_iff_ne]; exact he
        have HO : Hid (Lx.scan s = .fail (Lx.tokOut s k).err k) := by
          show Lx.scan s = .fail (Lx.tokOut s k).err k
          obtain ⟨f', rfl⟩ : ∃ f', f = f' + 1 := ⟨f - 1, by omega⟩
          rw [← HQ.out, Lx.scanF, if_pos hlt, if_neg he]
        have HW : Hid (HasErr wr) := hE.after hnx
        clear he
        go_wp2_with (go_at_call 58; refine (tokenAt_any s k _ hs hlt (by exact HW.out)).mono ?_; rintro e w1 ⟨rfl, hb1⟩)
        go_ret3
        obtain ⟨r1, r2, r3⟩ := Lx.of_fail s _ _ HO.out
        rw [r1, r2, r3]
        have hsw := hnx.size
        have hsz := hb1.size
        exact ⟨_, rfl, World.ownsRow_nil _ _ _ _, (hnx.trans (hb1.mono hsw)).alloc (by omega) _⟩
    · have HO : Hid (Lx.scan s = .done acc) := by
        show Lx.scan s = .done acc
        rw [← HQ.out, Lx.scanF_over s f k acc hlt]
      go_wp2_with (at_builtin; refine wpList_append_own _ rfl _ _ 52 rfl w.heap.size 57 i0 (.agg #[.int .i64 0, .string ⟨#[]⟩, .int .i64 0, .int .i64 0]) 4 40 Tryz.underlying52 hi hz0 hz1 hz2 rfl (by decide) _ _ _ rfl (hown.alloc _) ⟨wr.heap.size, 0, none⟩ 1 1 (Lx.cells1 (Lx.endTok s)) rfl rfl ?d1 ?d2 ?d3 ?d4 ?d5 ?_)
      case d1 => exact fun j u h => news3 _ _ _ _ _ _ j u h
      case d2 => exact one4 _
      case d3 => unfold maxLen; omega
      case d4 => omega
      case d5 => have := hnx.size; simp; omega
      intro v' w2 hown' hgrow _
      have hbw : Below w.heap.size w w2 := (hnx.alloc hnx.size _).grown hgrow (by have := hnx.size; simp; omega) (fun k hk => (hown.lt k hk).1)
      clear hgrow
      go_wp2
      go_ret3
      obtain ⟨r1, r2, r3⟩ := Lx.of_done s _ HO.out
      rw [r1, r2, r3, Lx.cellsOf_snoc, List.length_append]
      exact ⟨v', rfl, hown', hbw⟩
end Go.Proofs.YtaekbgljbgmchaaGreatDoor
