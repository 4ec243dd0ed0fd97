/-
  body and blocks of package print: blocks in braces are laid, whatever lays their statements.
-/
import Derived.Test.YtnljhlmopjgogaaGreatDoorExB
import Derived.Test.YtnljhlmopjgogaaGreatDoorPnC
namespace Go.Proofs.YtnljhlmopjgogaaGreatDoor
open Go.RowKit Px
/-- block lays the statements of x. -/
def BlockLays (x : Bl) : Prop := ∀ (n₀ b m o : Nat) (t : List UInt8) (w : World), n₀ ≤ b → x.Is n₀ w → Sh b m o t w → o + x.sz ≤ 1000 → t.length + 100000 * x.sz ≤ 999999999999 →
  Calls Tryz.prog 64 #[.pointer (some ⟨b, 0, none⟩), x.slice] w fun r w' => r = .returned (.tuple #[]) ∧ Sh b m o (t ++ x.txt o) w' ∧ Kept b w w'
/-- The closure's two boxes: the sheet's pointer, the block. -/
def Box1 (w : World) (k : Nat) (v : Value) (T : TypeId) : Prop := w.heap[k]? = some (.cells #[v] T (0, 0))
theorem Box1.cell {w : World} {k : Nat} {v : Value} {T : TypeId} (h : Box1 w k v T) : w.cell? ⟨k, 0, none⟩ = some v := cell_of' h 0
theorem Sh.put {b m o : Nat} {t : List UInt8} {w : World} (h : Sh b m o t w) (o' : Nat) : Sh b m o' t (w.setCell ⟨b, 3, none⟩ (.int .i64 (o' : Int))) := by
  obtain ⟨c, hO, hS⟩ := h.sheet
  exact h.next ((Below.refl b w).setCell (p := ⟨b, 3, none⟩) (Nat.le_refl _) _) hO (hS.put o')
theorem Kept.put {b : Nat} {u w : World} (h : Kept b u w) (v : Value) : Kept b u (w.setCell ⟨b, 3, none⟩ v) := ⟨h.1.setCell (p := ⟨b, 3, none⟩) (Nat.le_refl _) v, h.2.setCell ⟨b, 3, none⟩ rfl v⟩
set_option maxHeartbeats 1000000 in
theorem closure_any (x : Bl) (hx : BlockLays x) (n₀ b m o Ba Bb : Nat) (t : List UInt8) (w : World) (hn : n₀ ≤ b) (hI : x.Is n₀ w) (hs : Sh b m o t w) (hA : Box1 w Ba (.pointer (some ⟨b, 0, none⟩)) 82) (hB : Box1 w Bb x.slice 42) (ho : o + x.sz ≤ 1000) (hl : t.length + 100000 * x.sz ≤ 999999999999) :
    Calls Tryz.prog 63 #[.pointer (some ⟨Ba, 0, none⟩), .pointer (some ⟨Bb, 0, none⟩)] w fun r w' => r = .returned (.tuple #[]) ∧ Sh b m o (t ++ x.txt o) w' ∧ Kept b w w' := by
  have h1 := hx n₀ b m o t w hn hI hs ho hl
  have c1 := hA.cell
  have c2 := hB.cell
  rcases x with ⟨ad, cap, body⟩
  simp only [Bl.slice] at h1 c2
  go_enter Tryz.func63, Tryz.ntmps63
  go_wp2_with (go_at_call 64; (with_reducible refine h1.mono ?_); rintro r w1 ⟨rfl, s1, k1⟩)
  go_end0
  exact ⟨rfl, s1, k1⟩
set_option maxRecDepth 100000 in
set_option maxHeartbeats 600000 in
theorem body_any (x : Bl) (hx : BlockLays x) (hok : x.okb) (n₀ b m o Ba Bb : Nat) (t : List UInt8) (w : World) (hn : n₀ ≤ b) (hI : x.Is n₀ w) (hs : Sh b m o t w) (hA : Box1 w Ba (.pointer (some ⟨b, 0, none⟩)) 82) (hB : Box1 w Bb x.slice 42) (hAb : Ba ≠ b) (hBb : Bb ≠ b) (ho : o + 1 + x.sz ≤ 1000) (hl : t.length + 100000 * x.sz + 3000 ≤ 999999999999) :
    Calls Tryz.prog 57 #[.pointer (some ⟨b, 0, none⟩), .func (.func 63) #[] #[.pointer (some ⟨Ba, 0, none⟩), .pointer (some ⟨Bb, 0, none⟩)]] w fun r w' => r = .returned (.tuple #[]) ∧ Sh b m o (t ++ ([32, 123, 10] ++ (x.txt (o + 1) ++ (ind o ++ [125])))) w' ∧ Kept b w w' := by
  have hlx := bltxt_len n₀ w x hI hok (o + 1) (by omega)
  have h1 := end_any ⟨#[32, 123]⟩ b m o t w hs (by show _ + 2 + 1 ≤ _; omega)
  have h2 : ∀ W, Sh b m (o + 1) (t ++ [32, 123, 10]) W → Kept b w W → Calls Tryz.prog 63 #[.pointer (some ⟨Ba, 0, none⟩), .pointer (some ⟨Bb, 0, none⟩)] W fun r w' => r = .returned (.tuple #[]) ∧ Sh b m (o + 1) (t ++ [32, 123, 10] ++ x.txt (o + 1)) w' ∧ Kept b W w' := fun W h k =>
    closure_any x hx n₀ b m (o + 1) Ba Bb _ W hn (hI.below (k.1.mono hn)) h (k.box hA hAb (by decide)) (k.box hB hBb (by decide)) (by omega) (by simp; omega)
  have h3 : ∀ W, Sh b m o (t ++ [32, 123, 10] ++ x.txt (o + 1)) W → Calls Tryz.prog 36 #[.pointer (some ⟨b, 0, none⟩), .slice (some ⟨W.heap.size, 0, none⟩) 1 1] (W.alloc (.cells #[.string ⟨#[125]⟩] 9)) fun e w' => e = .returned (.tuple #[]) ∧ Sh b m o (t ++ [32, 123, 10] ++ x.txt (o + 1) ++ (ind o ++ [125])) w' ∧ Kept b W w' := fun W h => by
    have := begin_new [⟨#[125]⟩] b m o _ W h (by simp) (by omega) (by simp [cat]; omega)
    simpa [cat] using this
  have hcast : ((o + 1 : Nat) : Int) = (o : Int) + 1 := by omega
  go_enter Tryz.func57, Tryz.ntmps57
  go_wp2_with (go_at_call 60; (with_reducible refine h1.mono ?_); rintro r w1 ⟨rfl, s1, k1⟩; have c3 : w1.cell? ⟨b, 3, none⟩ = some (.int .i64 (o : Int)) ∧ w1.frozen? ⟨b, 3, none⟩ = false := (by obtain ⟨c, _, h⟩ := s1.sheet; exact h.cells.2); obtain ⟨c3, f3⟩ := c3)
  have s2 : Sh b m (o + 1) (t ++ [32, 123, 10]) (w1.setCell ⟨b, 3, none⟩ (.int .i64 ((o : Int) + 1))) := by
    have := s1.put (o + 1)
    rw [hcast] at this
    simpa using this
  have k2 := k1.put (.int .i64 ((o : Int) + 1))
  have k2b := (Kept.refl b w).trans k2
  go_wp2_with (go_at_call 63; (with_reducible refine (h2 _ s2 k2b).mono ?_); rintro r w3 ⟨rfl, s3, k3⟩; have c4 : w3.cell? ⟨b, 3, none⟩ = some (.int .i64 ((o : Int) + 1)) ∧ w3.frozen? ⟨b, 3, none⟩ = false := (by obtain ⟨c, _, h⟩ := s3.sheet; rw [← hcast]; exact h.cells.2); obtain ⟨c4, f4⟩ := c4; have s4 := s3.put o; have k4 := (k2b.trans k3).put (.int .i64 (o : Int)); have h4 := h3 _ s4; rw [show (w3.setCell ⟨b, 3, none⟩ (.int .i64 (o : Int))).heap.size = w3.heap.size by simp [World.setCell]] at h4)
  go_wp2_with (go_at_call 36; (with_reducible refine h4.mono ?_); rintro r w5 ⟨rfl, s5, k5⟩)
  go_end0
  exact ⟨rfl, by simpa using s5, k4.trans k5⟩
/-- The text of blocks, each one being laid. -/
def bTx (bs : List Bl) (o : Nat) : List (List UInt8) := bs.map fun b => b.txt (o + 1)
set_option maxRecDepth 100000 in
set_option maxHeartbeats 600000 in
theorem blocks_any (bs : List Bl) (word : ByteArray) (hx : ∀ x ∈ bs, BlockLays x) (hok : ∀ x ∈ bs, x.okb) (n₀ b m o g off cap : Nat) (t : List UInt8) (w : World) (hn : n₀ ≤ b) (hI : ∀ x ∈ bs, x.Is n₀ w) (hs : Sh b m o t w)
    (hrow : ∀ W, Kept b w W → ∀ (j : Nat) (h : j < bs.length), W.cell? ⟨g, off + j, none⟩ = some (bs[j]).slice) (hlen : bs.length ≤ 8) (hcap : bs.length ≤ cap) (hcap2 : cap ≤ 9223372036854775807) (hw : word.data.toList.length ≤ 10) (ho : o + 1 + (bs.map Bl.sz).sum ≤ 1000) (hl : t.length + 100000 * (bs.map Bl.sz).sum + 60000 ≤ 999999999999) :
    Calls Tryz.prog 37 #[.pointer (some ⟨b, 0, none⟩), .string word, .slice (some ⟨g, off, none⟩) bs.length cap] w fun r w' => r = .returned (.tuple #[]) ∧ Sh b m o (t ++ (blksT o word.data.toList (bTx bs o) 0 ++ [10])) w' ∧ Kept b w w' := by
  have hbl := hs.bl
  have hK0 : Kept b w (w.alloc (.cells #[.pointer (some ⟨b, 0, none⟩)] 82)) := (Kept.refl b w).al (by omega) _
  have hA0 : Box1 (w.alloc (.cells #[.pointer (some ⟨b, 0, none⟩)] 82)) w.heap.size (.pointer (some ⟨b, 0, none⟩)) 82 := heap_alloc_new w _
  have hs0 := hs.al (.cells #[.pointer (some ⟨b, 0, none⟩)] 82)
  have hAb : w.heap.size ≠ b := by omega
  have hsz1 : w.heap.size < (w.alloc (.cells #[.pointer (some ⟨b, 0, none⟩)] 82)).heap.size := by simp
  have hbl0 := hs0.bl
  have htl : ∀ k, k ≤ bs.length → (blksT o word.data.toList ((bTx bs o).take k) 0).length ≤ 23000 * ((bs.take k).map Bl.sz).sum + 20000 := fun k hk => by
    have h1 := blksT_len o word.data.toList ((bTx bs o).take k) 0
    have h2 : (((bTx bs o).take k).map List.length).sum ≤ 23000 * ((bs.take k).map Bl.sz).sum := by
      have e1 : ((bTx bs o).take k).map List.length = (bs.take k).map fun x => (x.txt (o + 1)).length := by
        unfold bTx; rw [← List.map_take, List.map_map]; rfl
      rw [e1]
      have h3 : ((bs.take k).map fun x => (x.txt (o + 1)).length).sum ≤ ((bs.take k).map fun x => 23000 * x.sz).sum := map_sum_le _ _ _ (fun x hx' => by
        have hm := List.mem_of_mem_take hx'
        exact bltxt_len n₀ w x (hI x hm) (hok x hm) (o + 1) (by have := sum_ge Bl.sz bs x hm; omega))
      have h4 : ((bs.take k).map fun x => 23000 * x.sz).sum = 23000 * ((bs.take k).map Bl.sz).sum := by rw [← sum_mul, List.map_map]; rfl
      omega
    have h3 : ((bTx bs o).take k).length ≤ 8 := by rw [List.length_take]; unfold bTx; rw [List.length_map]; omega
    have h4 : ((bTx bs o).take k).length * (2 * o + 5 + word.data.toList.length) ≤ 8 * 2015 := Nat.mul_le_mul h3 (by omega)
    omega
  have hsk : ∀ k, ((bs.take k).map Bl.sz).sum ≤ (bs.map Bl.sz).sum := fun k => by
    have e : bs.map Bl.sz = (bs.take k).map Bl.sz ++ (bs.drop k).map Bl.sz := by rw [← List.map_append, List.take_append_drop]
    rw [e, List.sum_append_nat]; omega
  go_enter Tryz.func37, Tryz.ntmps37
  go_wp2
  obtain ⟨W0, hW0⟩ : ∃ W0, w.alloc (.cells #[.pointer (some ⟨b, 0, none⟩)] 82) = W0 := ⟨_, rfl⟩
  rw [hW0] at hK0 hA0 hs0 hbl0 hsz1 ⊢
  clear hW0
  go_loopw [10] (fun i wr => ∃ k : Nat, k ≤ bs.length ∧ i = .int .i64 (k : Int) ∧ Sh b m o (t ++ blksT o word.data.toList ((bTx bs o).take k) 0) wr ∧ Kept b W0 wr) (fun i _ => bs.length - (intOf i).toNat)
  case atStart => exact ⟨0, by omega, rfl, by simpa [blksT] using hs0, Kept.refl _ _⟩
  case round =>
    obtain ⟨k, hk, rfl, hS, hK⟩ := hrel
    have hbr := hS.bl
    have hzr := hK.size
    have hAr : Box1 wr w.heap.size (.pointer (some ⟨b, 0, none⟩)) 82 := hK.box hA0 hAb (by decide)
    have cA := hAr.cell
    have htk := htl k hk
    obtain ⟨tk, htk2⟩ : ∃ tk, t ++ blksT o word.data.toList ((bTx bs o).take k) 0 = tk := ⟨_, rfl⟩
    have htkl : tk.length ≤ t.length + 23000 * ((bs.take k).map Bl.sz).sum + 20000 := by rw [← htk2, List.length_append]; omega
    have hskk := hsk k
    rw [htk2] at hS
    have HTK := hid htk2
    clear htk2 htk
    by_cases hlt : k < bs.length
    · have hc := hrow wr (hK0.trans hK) k hlt
      have hxk := hx _ (List.getElem_mem hlt)
      have hokk := hok _ (List.getElem_mem hlt)
      have hIk := (hI _ (List.getElem_mem hlt)).below ((hK0.trans hK).1.mono hn)
      have hszk : ((bs.take k).map Bl.sz).sum + bs[k].sz ≤ (bs.map Bl.sz).sum := by have := hsk (k + 1); rw [sum_snoc Bl.sz bs k hlt] at this; exact this
      have HSN := hid (blksT_snoc o word.data.toList (bTx bs o) k (by unfold bTx; rw [List.length_map]; exact hlt))
      have HBK : Hid ((bTx bs o)[k]'(by unfold bTx; rw [List.length_map]; exact hlt) = bs[k].txt (o + 1)) := by show _ = _; simp [bTx]
      obtain ⟨x, hxe⟩ : ∃ x, bs[k] = x := ⟨_, rfl⟩
      rw [hxe] at hc hxk hokk hIk hszk HBK
      clear hxe
      have hbody : ∀ t' W, Sh b m o t' W → Kept b wr W → Box1 W w.heap.size (.pointer (some ⟨b, 0, none⟩)) 82 → Box1 W wr.heap.size x.slice 42 → t'.length ≤ tk.length + 11 → Calls Tryz.prog 57 #[.pointer (some ⟨b, 0, none⟩), .func (.func 63) #[] #[.pointer (some ⟨w.heap.size, 0, none⟩), .pointer (some ⟨wr.heap.size, 0, none⟩)]] W fun r w' => r = .returned (.tuple #[]) ∧ Sh b m o (t' ++ ([32, 123, 10] ++ (x.txt (o + 1) ++ (ind o ++ [125])))) w' ∧ Kept b W w' := fun t' W h1 h2 h3 h4 h5 =>
        body_any x hxk hokk n₀ b m o _ _ t' W hn (hIk.below (h2.1.mono hn)) h1 h3 h4 hAb (by omega) (by omega) (by omega)
      rcases x with ⟨ad, xcap, xbody⟩
      simp only [Bl.slice] at hc hbody
      have hK1 : Kept b wr (wr.alloc (.cells #[.slice ad xbody.length xcap] 42)) := (Kept.refl b wr).al (by omega) _
      have hs1 := hS.al (.cells #[.slice ad xbody.length xcap] 42)
      have hB1 : Box1 (wr.alloc (.cells #[.slice ad xbody.length xcap] 42)) wr.heap.size (.slice ad xbody.length xcap) 42 := heap_alloc_new wr _
      have hA1 : Box1 (wr.alloc (.cells #[.slice ad xbody.length xcap] 42)) w.heap.size (.pointer (some ⟨b, 0, none⟩)) 82 := hK1.box hAr hAb (by decide)
      by_cases hk0 : 0 < k
      · have hlay := lay_new [⟨#[32]⟩, word] b m o tk _ hs1 (by simp) (by simp only [cat, List.flatMap_cons, List.flatMap_nil, List.append_nil, List.length_append, List.length_cons, List.length_nil]; omega)
        simp only [List.map_cons, List.map_nil, List.length_cons, List.length_nil, Nat.zero_add, Nat.reduceAdd, cat, List.flatMap_cons, List.flatMap_nil, List.append_nil, World.size_alloc] at hlay
        have hA1c := hA1.cell
        have hk0' : (0 : Int) < (k : Int) := by omega
        clear hrow
        go_wp2_with (first
          | (go_at_call 48; (with_reducible refine hlay.mono ?_); rintro r w2 ⟨rfl, s2, k2⟩; have hA2 : Box1 w2 w.heap.size (.pointer (some ⟨b, 0, none⟩)) 82 := k2.box hA1 hAb (by decide); have cA2 := hA2.cell; have hB2 : Box1 w2 wr.heap.size (.slice ad xbody.length xcap) 42 := k2.box hB1 (by omega) (by decide))
          | (go_at_call 57; (with_reducible refine (hbody _ _ s2 (hK1.trans k2) hA2 hB2 (by simp only [List.length_append, List.length_cons, List.length_nil]; omega)).mono ?_); rintro r w3 ⟨rfl, s3, k3⟩))
        go_roundw
        case rel =>
          refine ⟨k + 1, by omega, by go_num, ?_, ((hK.trans hK1).trans k2).trans k3⟩
          rw [HSN.out, HBK.out, ← List.append_assoc, HTK.out, blkT, if_neg (by omega)]
          simpa using s3
        case measure => simp [intOf]; omega
      · have hk1 : k = 0 := by omega
        have hk0d : decide ((0 : Int) < (k : Int)) = false := by simp; omega
        have HK1 := hid hk1
        clear hk1
        have hA1c := hA1.cell
        clear hrow
        go_wp2_with (go_at_call 57; (with_reducible refine (hbody _ _ hs1 hK1 hA1 hB1 (by omega)).mono ?_); rintro r w3 ⟨rfl, s3, k3⟩)
        go_roundw
        case rel =>
          refine ⟨k + 1, by omega, by go_num, ?_, (hK.trans hK1).trans k3⟩
          rw [HSN.out, HBK.out, ← List.append_assoc, HTK.out, blkT, if_pos HK1.out]
          simpa using s3
        case measure => simp [intOf]; omega
    · have hkb : k = bs.length := by omega
      have hkd : decide ((k : Int) < (bs.length : Int)) = false := by simp; omega
      have hend := end_any ⟨#[]⟩ b m o tk wr hS (by show _ + 0 + 1 ≤ _; omega)
      have HTE : Hid (t ++ blksT o word.data.toList (bTx bs o) 0 = tk) := by
        show _ = _
        rw [← HTK.out, hkb, List.take_of_length_le (by unfold bTx; rw [List.length_map]; exact Nat.le_refl _)]
      clear hkb hrow
      go_wp2_with (go_at_call 60; (with_reducible refine hend.mono ?_); rintro r w2 ⟨rfl, s2, k2⟩)
      go_end0
      refine ⟨rfl, ?_, (hK0.trans hK).trans k2⟩
      rw [← List.append_assoc, HTE.out]
      simpa using s2
end Go.Proofs.YtnljhlmopjgogaaGreatDoor
