/-
  Nests of package held: which monitors are entered where which other ones are owned.
-/
import Derived.Test.YthdkgfmlihgceaaHdN
import Derived.Laws.Rows
namespace Go.Proofs.Ythdkgfmlihgceaa
open Go.RowKit
/-- Whether an edge enters n where m is owned and n is not. -/
def nestT (H : List (List Int)) (m n : Nat) (x : Eg) : Bool := decide (x.kind = 4) && decide (x.mon = (n : Int)) && decide ((H.getD x.src.toNat []).length ≠ 0) && decide (¬ 0 < (H.getD x.src.toNat []).getD n 0) && decide (0 < (H.getD x.src.toNat []).getD m 0)
/-- The nests of so many monitors, by an edge's test, in order. -/
def nestL (N : Nat) (t : Nat → Nat → Bool) : List (Int × Int) := (List.range N).flatMap fun m => ((List.range N).filter fun n => t m n).map fun (n : Nat) => ((m : Int), (n : Int))
def nestH (H : List (List Int)) (es : List Eg) (N : Nat) : List (Int × Int) := nestL N fun m n => es.any (nestT H m n)
noncomputable def nestR (f : Fl) (mons : Int) : List (Int × Int) := nestH ((heldR f mons).getD []) f.es 8
/-- What holds of Held's rows. -/
structure HRows (f : Fl) (N : Nat) (H : List (List Int)) : Prop where
  len : H.length = f.locs.toNat
  sound : Sound f N
  row : ∀ r ∈ H, (r = [] ∨ r.length = N) ∧ ∀ v ∈ r, 0 ≤ v
theorem con_pos {N : Nat} {es : List Eg} {G : Int → Option (List Int)} (h : Con N es G) {k : Int} (hk : Reach es k) : ∀ o, G k = some o → o.length = N ∧ ∀ v ∈ o, 0 ≤ v := by
  induction hk with
  | zero => intro o ho; rw [h.zero] at ho; obtain rfl := Option.some.inj ho; exact ⟨by simp, fun v hv => by rw [(List.mem_replicate.1 hv).2]; omega⟩
  | next x hx hr ih =>
    intro o ho
    obtain ⟨p, hp, _⟩ := h.reach hr
    obtain ⟨i1, i2⟩ := ih p hp
    obtain ⟨hb, hd⟩ := h.next x hx p hp
    rw [hd] at ho
    obtain rfl := Option.some.inj ho
    refine ⟨by rw [behL_len]; exact i1, fun v hv => ?_⟩
    have hbig : ∀ v ∈ p, 0 ≤ v ∧ v < p.sum + p.length + 1 := by
      have key : ∀ (q : List Int), (∀ v ∈ q, 0 ≤ v) → 0 ≤ q.sum ∧ ∀ v ∈ q, v ≤ q.sum := by
        intro q
        induction q with
        | nil => intro _; simp
        | cons a q ihq =>
          intro h
          obtain ⟨j1, j2⟩ := ihq (fun v hv => h v (by simp [hv]))
          have := h a (by simp)
          rw [List.sum_cons]
          refine ⟨by omega, fun v hv => ?_⟩
          rcases List.mem_cons.1 hv with rfl | hv
          · omega
          · have := j2 v hv; omega
      intro v hv
      have := (key p i2).2 v hv
      exact ⟨i2 v hv, by omega⟩
    exact (behL_small hbig hb v hv).1
theorem heldR_rows {f : Fl} {mons : Int} {H : List (List Int)} (h : heldR f mons = some H) : HRows f mons.toNat H ∧ mons = (mons.toNat : Int) := by
  unfold heldR at h
  split at h
  · rename_i hs
    obtain ⟨hS, h0⟩ := sound_of hs
    unfold heldV at h
    split at h
    · rename_i hx
      have hG := hx.choose_spec
      obtain rfl := Option.some.inj h
      refine ⟨⟨by simp [rowsOf], hS, fun r hr => ?_⟩, by omega⟩
      simp only [rowsOf, List.mem_map] at hr
      obtain ⟨k, _, rfl⟩ := hr
      cases e : hx.choose (k : Int) with
      | none => exact ⟨.inl rfl, fun v hv => by cases hv⟩
      | some o =>
        have := con_pos hG.con (hG.only _ (by rw [e]; rfl)) o e
        exact ⟨.inr this.1, this.2⟩
    · cases h
  · cases h
/-- The table of pairs, flat. -/
def cellsB (ms : List Bool) : Array Value := (ms.map Value.bool).toArray
def tabL (ms : List Bool) : List (Int × Int) := nestL 8 fun m n => ms.getD (m * 8 + n) false
theorem set_cellsB (ms : List Bool) (i : Nat) (b : Bool) : (cellsB ms).setIfInBounds i (.bool b) = cellsB (ms.set i b) := by simp [cellsB, List.map_set]
theorem index61 (ms : List Bool) (m : Nat) (h : m < 8) (W : World) : (Instr.index 61 (.agg (cellsB ms)) (.int .i64 (m : Int))).run Try.prog W = .ok (.agg (cellsB ((ms.drop (m * 8)).take 8))) W := by
  have h60 : Try.prog.underlying 60 = some (.array 8 4) := Try.underlying60
  have hsz : ∀ W, (sizeOf 60).run Try.prog W = .ok 8 W := fun W => by kernel_rfl
  have e : (cellsB ms).extract (m * 8) (m * 8 + 8) = cellsB ((ms.drop (m * 8)).take 8) := by
    apply Array.ext'
    simp [cellsB, List.map_take, List.map_drop]
  simp [Instr.index, asIntOf, run_underlying Try.underlying61, run_underlying h60, hsz, part, isAgg, Result.andThen, e]
  intro h8; omega
theorem index60 (ms : List Bool) (n : Nat) (hl : ms.length = 8) (h : n < 8) (W : World) : (Instr.index 60 (.agg (cellsB ms)) (.int .i64 (n : Int))).run Try.prog W = .ok (.bool (ms[n]'(by omega))) W := by
  have h4 : Try.prog.underlying 4 = some .bool := Try.underlying4
  have hsz : ∀ W, (sizeOf 4).run Try.prog W = .ok 1 W := fun W => by kernel_rfl
  have e : (cellsB ms)[n]? = some (.bool (ms[n]'(by omega))) := by simp [cellsB, hl, h]
  simp [Instr.index, asIntOf, run_underlying Try.underlying60, run_underlying h4, hsz, part, isAgg, Result.andThen, e]
  intro h8; omega
theorem row_get (ms : List Bool) (hl : ms.length = 64) (m n : Nat) (hm : m < 8) (hn : n < 8) : ((ms.drop (m * 8)).take 8).length = 8 ∧ ((ms.drop (m * 8)).take 8)[n]? = some (ms.getD (m * 8 + n) false) := by
  refine ⟨by simp; omega, ?_⟩
  rw [List.getElem?_take_of_lt hn, List.getElem?_drop]
  simp [show m * 8 + n < ms.length by omega]
theorem info61 : (Try.prog.info? 61).map (·.size) = some 64 := by kernel_rfl
theorem getD_rep (i : Nat) : (List.replicate 64 false).getD i false = false := by
  rw [List.getD_eq_getElem?_getD, List.getElem?_replicate]
  split <;> rfl
/-- Through the table: the first k rows, and of the next one the first j. -/
def tabK (ms : List Bool) (k j : Nat) : List (Int × Int) := ((List.range k).flatMap fun m => ((List.range 8).filter fun n => ms.getD (m * 8 + n) false).map fun (n : Nat) => ((m : Int), (n : Int))) ++ ((List.range j).filter fun n => ms.getD (k * 8 + n) false).map fun (n : Nat) => ((k : Int), (n : Int))
theorem tabK_step (ms : List Bool) (k j : Nat) : tabK ms k (j + 1) = tabK ms k j ++ if ms.getD (k * 8 + j) false then [((k : Int), (j : Int))] else [] := by
  unfold tabK
  rw [show List.range (j + 1) = List.range j ++ [j] from List.range_succ, List.filter_append, List.map_append, ← List.append_assoc]
  congr 1
  by_cases h : ms.getD (k * 8 + j) false = true
  · rw [List.filter_cons, if_pos h, if_pos h]; rfl
  · rw [List.filter_cons, if_neg h, if_neg h]; rfl
theorem tabK_row (ms : List Bool) (k : Nat) : tabK ms k 8 = tabK ms (k + 1) 0 := by
  unfold tabK
  rw [show List.range (k + 1) = List.range k ++ [k] from List.range_succ, List.flatMap_append]
  simp
theorem tabK_end (ms : List Bool) : tabK ms 8 0 = tabL ms := by simp [tabK, tabL, nestL]
theorem tabK_len (ms : List Bool) (k j : Nat) : (tabK ms k j).length ≤ k * 8 + j := by
  unfold tabK
  rw [List.length_append, List.length_map]
  have h1 := List.length_filter_le (fun n => ms.getD (k * 8 + n) false) (List.range j)
  rw [List.length_range] at h1
  have h2 : ((List.range k).flatMap fun m => ((List.range 8).filter fun n => ms.getD (m * 8 + n) false).map fun (n : Nat) => ((m : Int), (n : Int))).length ≤ k * 8 := by
    induction k with
    | zero => simp
    | succ k ih =>
      rw [show List.range (k + 1) = List.range k ++ [k] from List.range_succ, List.flatMap_append, List.length_append]
      have h3 : (((List.range 8).filter fun n => ms.getD (k * 8 + n) false).map fun (n : Nat) => ((k : Int), (n : Int))).length ≤ 8 := by
        rw [List.length_map]
        exact Nat.le_trans (List.length_filter_le _ _) (by simp)
      have h4 := ih (by
        have := List.length_filter_le (fun n => ms.getD (k * 8 + n) false) (List.range j)
        rwa [List.length_range] at this)
      simp only [List.flatMap_cons, List.flatMap_nil, List.append_nil]
      omega
  omega
def NestBack (l : List (Int × Int)) (w w' : World) (r : Ending) : Prop := ∃ v, r = .returned v ∧ w'.ownsRow w.heap.size 42 2 v l.length (l.flatMap ncells) ∧ Below w.heap.size w w'
set_option maxRecDepth 100000 in
set_option maxHeartbeats 8000000 in
theorem nests_any (f : Fl) (mons : Int) (n₀ : Nat) (w : World) (hn : n₀ ≤ w.heap.size) (hf : f.Is n₀ w) (hes : f.es.length ≤ 1000000) :
    Calls Try.prog 14 #[f.val, .int .i64 mons] w fun r w' => NestBack (nestR f mons) w w' r := by
  have hB1 := (Below.refl w.heap.size w).al le_rfl' (.cells f.cells.toArray 25)
  have hqH := held_any f mons n₀ (w.alloc (.cells f.cells.toArray 25)) (by rw [World.size_alloc]; omega) (hf.below (hB1.mono hn)) hes
  cases hH : heldR f mons with
  | none =>
    have HN : Hid (nestR f mons = []) := by
      show _ = _
      unfold nestR
      rw [hH]
      have : ∀ m n, f.es.any (nestT [] m n) = false := fun m n => by
        rw [List.any_eq_false]
        intro x _
        simp [nestT]
      simp only [Option.getD_none, nestH, nestL, this]
      rfl
    have hq2 : Calls Try.prog 7 #[f.val, .int .i64 mons] (w.alloc (.cells f.cells.toArray 25)) fun r w' => r = .returned (.tuple #[.slice none 0 0, .bool false]) ∧ Below (w.alloc (.cells f.cells.toArray 25)).heap.size (w.alloc (.cells f.cells.toArray 25)) w' := hqH.mono (fun r w' h => by
      rcases h with ⟨ad, cp, rs, h1, _⟩ | ⟨_, h2, h3⟩
      · rw [hH] at h1; cases h1
      · exact ⟨h2, h3⟩)
    clear hqH hH hf hes
    rcases f with ⟨name, star, locs, ead, ecap, es, gad, gl, gc⟩
    simp only [Fl.val, Fl.cells] at hq2 hB1 ⊢
    go_enter Try.func14, Try.ntmps14
    go_wp2_with (go_at_call 7; (with_reducible refine hq2.mono ?_); rintro r w1 ⟨rfl, hb1⟩)
    go_ret
    exact ⟨_, rfl, by rw [HN.out]; exact World.ownsRow_nil _ _ _ _, hB1.tr le_rfl' hb1⟩
  | some H =>
    obtain ⟨⟨hHl, hSd, hrow⟩, hmN⟩ := heldR_rows hH
    have HN : Hid (nestR f mons = nestH H f.es 8) := by show _ = _; unfold nestR; rw [hH]; rfl
    have hq2 : Calls Try.prog 7 #[f.val, .int .i64 mons] (w.alloc (.cells f.cells.toArray 25)) fun r w' => ∃ ad cp rs, H = rs.map Rw.l ∧ r = .returned (.tuple #[.slice ad rs.length cp, .bool true]) ∧ RwsAt w'.heap.size w' ad cp rs ∧ Below (w.alloc (.cells f.cells.toArray 25)).heap.size (w.alloc (.cells f.cells.toArray 25)) w' := hqH.mono (fun r w' h => by
      rcases h with ⟨ad, cp, rs, h1, h2, h3, h4⟩ | ⟨h1, _⟩
      · rw [hH] at h1; exact ⟨ad, cp, rs, Option.some.inj h1, h2, h3, h4⟩
      · rw [hH] at h1; cases h1)
    obtain ⟨N, hN⟩ : ∃ N, mons.toNat = N := ⟨_, rfl⟩
    rw [hN] at hSd hrow hmN
    have hN8 := hSd.le8
    have HAT := hid hSd.at'
    have hlo := hSd.locs
    have hsl := hf.1
    obtain ⟨D, hD⟩ : ∃ D, nestR f mons = D := ⟨_, rfl⟩
    rw [hD] at HN ⊢
    clear hqH hH hf hN hD hSd
    subst hmN
    rcases f with ⟨name, star, locs, ead, ecap, es, gad, gl, gc⟩
    simp only [Fl.val, Fl.cells] at hq2 hB1 HN HAT hHl hlo hsl hes ⊢
    obtain ⟨i0, hi, hz0, hz1, hz2⟩ := info_of info42
    have hl1 := hsl.1; have hl2 := hsl.2.1
    unfold maxLen at hl2
    go_enter Try.func14, Try.ntmps14
    go_wp2_with (go_at_call 7; (with_reducible refine hq2.mono ?_); rintro r w1 ⟨ad, cp, rs, hHr, rfl, hRs, hb1⟩; have HHR := hid hHr; clear hHr; have hR1 := hRs.1.1; have hR2 := hRs.1.2.1; have bF1 := (hb1.block w.heap.size (by rw [World.size_alloc]; omega)).trans (heapNew w _); obtain ⟨f2, f3⟩ := FBox.cells bF1; have hFw : w.heap.size < w1.heap.size := (by have := hb1.size; rw [World.size_alloc] at this; omega))
    unfold maxLen at hR2
    have B1 := hB1.tr le_rfl' hb1
    have HHL : Hid (rs.length = locs.toNat) := by show _ = _; have := hHl; rw [HHR.out, List.length_map] at this; exact this
    clear hHl
    clear hq2
    go_loopw [29] (fun i wr => ∃ (k : Nat) (ms : List Bool), i = .int .i64 k ∧ k ≤ es.length ∧ wr.heap[w1.heap.size]? = some (.cells (cellsB ms) 61 (0, 0)) ∧ ms.length = 64 ∧ Hid (∀ m n, m < 8 → n < 8 → ms.getD (m * 8 + n) false = (es.take k).any (nestT H m n)) ∧ Below w1.heap.size w1 wr)
      (fun i _ => es.length - (intOf i).toNat)
    case atStart => exact ⟨0, List.replicate 64 false, rfl, by omega, heapNew w1 _, by simp, fun m n hm hn => by rw [List.take_zero, getD_rep]; rfl, (Below.refl _ w1).al le_rfl' _⟩
    case round =>
      obtain ⟨k, ms, rfl, hk, bT, hml, HM, hby⟩ := hrel
      have hzw := hby.size
      have htl := (Array.getElem?_eq_some_iff.1 bT).1
      by_cases hlt : k < es.length
      · have hkd : decide ((k : Int) < (es.length : Int)) = true := by simp; omega
        rcases hsl.2.2 with h | ⟨eb, eoff, rfl, hen, herow⟩
        · subst h; simp at hlt
        have hr2 := herow.below ((B1.trans (hby.mono B1.size)).mono hn) hen
        have hew : eb < wr.heap.size := by have := B1.size; omega
        have hat := HAT.out _ (List.getElem_mem hlt)
        have HTK : Hid (∀ a b, (es.take (k + 1)).any (nestT H a b) = ((es.take k).any (nestT H a b) || nestT H a b es[k])) := fun a b => by
          rw [List.take_succ_eq_append_getElem hlt]; simp only [List.any_append, List.any_cons, List.any_nil, Bool.or_false]
        rcases hx : es[k] with ⟨src, dst, kind, mon, var, op, s1, s2, kk, kad, kl, kc, epos, n, site, out, pos⟩
        obtain ⟨d0, d1, d2, d3, d4, d5, d6, d7, d8, d9, d10, d11, d12, d13, d14⟩ := row15 hr2 k hlt hx
        rw [hx] at hat HTK
        simp only at d0 d1 d2 d3 d4 d5 d6 d7 d8 d9 d10 d11 d12 d13 d14 hat
        clear hx hr2 herow
        obtain ⟨⟨hs0, hs1⟩, _, hmn⟩ := hat
        obtain ⟨si, rfl⟩ : ∃ si : Nat, src = (si : Int) := ⟨src.toNat, by omega⟩
        have hsi : si < rs.length := by have := HHL.out; omega
        rcases hRs.1.2.2 with h | ⟨ab, aoff, rfl, habn, harow⟩
        · subst h; simp at hsi
        have c0 := (harow.below hby habn) si hsi 0 (by omega)
        have hxs := hRs.2 _ (List.getElem_mem hsi)
        have hHx : H.getD si [] = rs[si].l := by rw [HHR.out]; simp [hsi]
        have hrw := hrow rs[si].l (by rw [HHR.out]; exact List.mem_map.2 ⟨_, List.getElem_mem hsi, rfl⟩)
        rcases hxr : rs[si] with ⟨xad, xcap, xl⟩
        rw [hxr] at c0 hxs hHx hrw
        simp only [Rw.cells, Rw.val] at c0 hxs hHx hrw
        simp at c0
        have habw : ab < wr.heap.size := by omega
        have HNT : Hid (∀ a b, nestT H a b ⟨(si : Int), dst, kind, mon, var, op, s1, s2, kk, kad, kl, kc, epos, n, site, out, pos⟩ = (decide (kind = 4) && decide (mon = (b : Int)) && decide (xl.length ≠ 0) && decide (¬ 0 < xl.getD b 0) && decide (0 < xl.getD a 0))) := fun a b => by
          unfold nestT; simp only [Int.toNat_natCast, hHx]
        clear hHx hxr harow
        have hx1 := hxs.1; have hx2 := hxs.2.1
        unfold maxLen at hx2
        by_cases hk4 : kind = 4
        · subst hk4
          obtain ⟨hm0, hm1⟩ := hmn (.inl rfl)
          obtain ⟨q, rfl⟩ : ∃ q : Nat, mon = (q : Int) := ⟨mon.toNat, by omega⟩
          clear hmn
          by_cases hxe : xl.length = 0
          · have hd0 : ((xl.length : Int) == 0) = true := by simp [hxe]
            have HM2 : Hid (∀ m n, m < 8 → n < 8 → ms.getD (m * 8 + n) false = (es.take (k + 1)).any (nestT H m n)) := fun a b ha hb => by rw [HM.out a b ha hb, HTK.out, HNT.out]; simp [hxe]
            clear HM HTK HNT hxe
            go_wp2
            go_roundw
            case rel => exact ⟨k + 1, ms, by go_num, by omega, (Below.heap_alloc _ _ _ htl).trans bT, hml, HM2, hby.al le_rfl' _⟩
            case measure => simp [intOf]; omega
          · have hd0 : ((xl.length : Int) == 0) = false := by rw [beq_eq_false_iff_ne]; omega
            have hxN : xl.length = N := by rcases hrw.1 with h | h; exact absurd (by rw [h]; rfl) hxe; exact h
            have hqx : q < xl.length := by omega
            rcases hxs.2.2 with h | ⟨qb, qoff, rfl, hqn, hqrow⟩
            · subst h; simp at hqx
            have hqr2 := hqrow.below hby hqn
            have g0 := hqr2 q hqx 0 (by omega)
            have hqw : qb < wr.heap.size := by omega
            have hgq : xl.getD q 0 = xl[q] := by simp [hqx]
            simp only [icell] at g0
            simp at g0
            obtain ⟨z, hz⟩ : ∃ z, xl[q] = z := ⟨_, rfl⟩
            rw [hz] at g0 hgq
            have HGQ := hid hgq
            have HXN := hid hxN
            clear hz hgq hxN
            by_cases hzp : 0 < z
            · have HM2 : Hid (∀ m n, m < 8 → n < 8 → ms.getD (m * 8 + n) false = (es.take (k + 1)).any (nestT H m n)) := fun a b ha hb => by
                rw [HM.out a b ha hb, HTK.out, HNT.out]
                by_cases e : q = b
                · subst e; rw [HGQ.out]; simp [hzp]
                · have : ¬ ((q : Int) = (b : Int)) := by omega
                  simp [this]
              clear HM HTK HNT
              go_wp2
              go_roundw
              case rel => exact ⟨k + 1, ms, by go_num, by omega, (Below.heap_alloc _ _ _ htl).trans bT, hml, HM2, hby.al le_rfl' _⟩
              case measure => simp [intOf]; omega
            · have hxed : decide (xl.length ≠ 0) = true := decide_eq_true hxe
              have HNT2 : Hid (∀ a b, nestT H a b ⟨(si : Int), dst, 4, (q : Int), var, op, s1, s2, kk, kad, kl, kc, epos, n, site, out, pos⟩ = (decide (b = q) && decide (0 < xl.getD a 0))) := fun a b => by
                rw [HNT.out]
                by_cases e : b = q
                · subst e; rw [HGQ.out]; simp [hzp]; intro _; simpa using hxe
                · have : ¬ ((q : Int) = (b : Int)) := by omega
                  simp [e, this]
              clear HNT hxed
              obtain ⟨bE, hBE, hzE⟩ := one_box wr #[.int .i64 (si : Int), .int .i64 dst, .int .i64 4, .int .i64 (q : Int), .int .i64 var, .int .i64 op, .string s1, .string s2, .int .i64 kk, .slice kad kl kc, .int .i64 epos, .int .i64 n, .int .i64 site, .int .i64 out, .int .i64 pos] 57
              have HZE := hid hzE
              clear hzE
              go_wp2
              obtain ⟨wo, hwo⟩ : ∃ wo : World, wo = wr := ⟨_, rfl⟩
              subst hwo
              go_loopw [56] (fun i wx => ∃ (j : Nat) (ms' : List Bool), i = .int .i64 j ∧ j ≤ xl.length ∧ wx.heap[w1.heap.size]? = some (.cells (cellsB ms') 61 (0, 0)) ∧ ms'.length = 64 ∧ Hid (∀ m n, m < 8 → n < 8 → ms'.getD (m * 8 + n) false = (ms.getD (m * 8 + n) false || (decide (n = q) && decide (m < j) && decide (0 < xl.getD m 0)))) ∧ Below w1.heap.size w1 wx ∧ wx.heap[wo.heap.size]? = some (.cells #[.int .i64 (si : Int), .int .i64 dst, .int .i64 4, .int .i64 (q : Int), .int .i64 var, .int .i64 op, .string s1, .string s2, .int .i64 kk, .slice kad kl kc, .int .i64 epos, .int .i64 n, .int .i64 site, .int .i64 out, .int .i64 pos] 57 (0, 0)) ∧ wo.heap.size < wx.heap.size)
                (fun i _ => xl.length - (intOf i).toNat)
              case atStart => exact ⟨0, ms, rfl, by omega, (Below.heap_alloc _ _ _ htl).trans bT, hml, fun m n _ _ => by simp, hby.al le_rfl' _, bE, by rw [World.size_alloc]; omega⟩
              case round =>
                obtain ⟨j, ms', rfl, hj, bT', hml', HMJ, hby', bE', hEx⟩ := hrel
                have htl' := (Array.getElem?_eq_some_iff.1 bT').1
                obtain ⟨e0, e1, e2, e3, e4, e5, e6, e7, e8, e9, e10, e11, e12, e13, e14⟩ := fifteen bE'
                by_cases hltj : j < xl.length
                · have hjd : decide ((j : Int) < (xl.length : Int)) = true := by simp; omega
                  have hqr3 := (hxs.2.2.resolve_left (by rintro rfl; simp at hqx))
                  obtain ⟨qb', qoff', hqe, hqn', hqrow'⟩ := hqr3
                  cases hqe
                  have y0 := (hqrow'.below hby' hqn) j hltj 0 (by omega)
                  simp only [icell] at y0
                  simp at y0
                  have hqw' : qb < wr.heap.size := by have := hby'.size; omega
                  have HY : Hid (xl.getD j 0 = xl[j]) := by show _ = _; simp [hltj]
                  obtain ⟨y, hy⟩ : ∃ y, xl[j] = y := ⟨_, rfl⟩
                  rw [hy] at y0 HY
                  have hN8' : xl.length ≤ 8 := by have := HXN.out; omega
                  clear hy hqrow'
                  by_cases hyp : 0 < y
                  · have HMJ2 : Hid (∀ a b, a < 8 → b < 8 → (ms'.set (j * 8 + q) true).getD (a * 8 + b) false = (ms.getD (a * 8 + b) false || (decide (b = q) && decide (a < j + 1) && decide (0 < xl.getD a 0)))) := fun a b ha hb => by
                      by_cases e : a = j ∧ b = q
                      · obtain ⟨rfl, rfl⟩ := e
                        rw [HY.out]
                        simp [hyp, show a * 8 + b < ms'.length by omega]
                      · have hne : ¬ (j * 8 + q = a * 8 + b) := fun h => e ⟨by omega, by omega⟩
                        have e2 : (ms'.set (j * 8 + q) true).getD (a * 8 + b) false = ms'.getD (a * 8 + b) false := by
                          rw [List.getD_eq_getElem?_getD, List.getD_eq_getElem?_getD, List.getElem?_set_ne hne]
                        rw [e2, HMJ.out a b ha hb]
                        by_cases e3 : b = q
                        · have : a ≠ j := fun h => e ⟨h, e3⟩
                          have e4 : decide (a < j + 1) = decide (a < j) := by by_cases h : a < j <;> simp <;> omega
                          rw [e4]
                        · simp [e3]
                    have hi64 : j * 8 + q < ms'.length := by omega
                    have t0 := (cellOf bT' (j * 8 + q)).trans (by simp [cellsB, hi64] : (cellsB ms')[j * 8 + q]? = some (.bool ms'[j * 8 + q]))
                    have t1 : wr.frozen? ⟨w1.heap.size, j * 8 + q, none⟩ = false := by simp [World.frozen?, bT']
                    have bT2 := setBox (i := j * 8 + q) bT' (.bool true)
                    rw [set_cellsB] at bT2
                    have hneE : wo.heap.size ≠ w1.heap.size := by have := hzw; omega
                    have bE2 := (Below.heap_setCell wr ⟨w1.heap.size, j * 8 + q, none⟩ (.bool true) wo.heap.size hneE).trans bE'
                    have HB2 := hid (hby'.drew)
                    have hEx2 : wo.heap.size < (wr.setCell ⟨w1.heap.size, j * 8 + q, none⟩ (.bool true)).heap.size := by simp only [World.setCell, Array.size_modify]; exact hEx
                    have hj8 : (j : Int) < 8 := by omega
                    have hq8 : (q : Int) < 8 := by omega
                    clear HMJ
                    go_wp2_with fail
                    go_region
                    go_wp2
                    go_roundw
                    case rel => exact ⟨j + 1, ms'.set (j * 8 + q) true, by go_num, by omega, bT2, by rw [List.length_set]; exact hml', HMJ2, HB2.out.setCell (p := ⟨w1.heap.size, j * 8 + q, none⟩) (Nat.le_refl _) _, bE2, hEx2⟩
                    case measure => simp [intOf]; omega
                  · have HMJ2 : Hid (∀ a b, a < 8 → b < 8 → ms'.getD (a * 8 + b) false = (ms.getD (a * 8 + b) false || (decide (b = q) && decide (a < j + 1) && decide (0 < xl.getD a 0)))) := fun a b ha hb => by
                      rw [HMJ.out a b ha hb]
                      by_cases e : a = j
                      · subst e; rw [HY.out]; simp [hyp]
                      · have e4 : decide (a < j + 1) = decide (a < j) := by by_cases h : a < j <;> simp <;> omega
                        rw [e4]
                    clear HMJ
                    go_wp2
                    go_roundw
                    case rel => exact ⟨j + 1, ms', by go_num, by omega, bT', hml', HMJ2, hby', bE', hEx⟩
                    case measure => simp [intOf]; omega
                · have hjd : decide ((j : Int) < (xl.length : Int)) = false := by simp; omega
                  have HM2 : Hid (∀ a b, a < 8 → b < 8 → ms'.getD (a * 8 + b) false = (es.take (k + 1)).any (nestT H a b)) := fun a b ha hb => by
                    rw [HMJ.out a b ha hb, HTK.out, HNT2.out, HM.out a b ha hb]
                    by_cases e : a < j
                    · simp [e]
                    · have : xl.getD a 0 = 0 := by simp [show xl.length ≤ a by omega]
                      rw [this]; simp
                  go_wp2
                  go_roundw
                  case rel => exact ⟨k + 1, ms', by go_num, by omega, bT', hml', HM2, hby'⟩
                  case measure => simp [intOf]; omega
        · have hd4 : (kind != 4) = true := by simp [hk4]
          have HM2 : Hid (∀ m n, m < 8 → n < 8 → ms.getD (m * 8 + n) false = (es.take (k + 1)).any (nestT H m n)) := fun a b ha hb => by rw [HM.out a b ha hb, HTK.out, HNT.out]; simp [hk4]
          clear HM HTK HNT
          go_wp2
          go_roundw
          case rel => exact ⟨k + 1, ms, by go_num, by omega, (Below.heap_alloc _ _ _ htl).trans bT, hml, HM2, hby.al le_rfl' _⟩
          case measure => simp [intOf]; omega
      · have hkd : decide ((k : Int) < (es.length : Int)) = false := by simp; omega
        have HMF : Hid (∀ a b, a < 8 → b < 8 → ms.getD (a * 8 + b) false = es.any (nestT H a b)) := fun a b ha hb => by
          have := HM.out a b ha hb
          rwa [List.take_of_length_le (by omega)] at this
        have HTL : Hid (tabL ms = D) := by
          show _ = _
          rw [HN.out]
          unfold tabL nestH nestL
          have key : ∀ a, a < 8 → (List.range 8).filter (fun b => ms.getD (a * 8 + b) false) = (List.range 8).filter (fun b => es.any (nestT H a b)) := fun a ha => by
            apply List.filter_congr
            intro b hb
            exact HMF.out a b ha (by simpa using hb)
          have key2 : ∀ l : List Nat, (∀ a ∈ l, a < 8) → (l.flatMap fun m => ((List.range 8).filter fun n => ms.getD (m * 8 + n) false).map fun (n : Nat) => ((m : Int), (n : Int))) = (l.flatMap fun m => ((List.range 8).filter fun n => es.any (nestT H m n)).map fun (n : Nat) => ((m : Int), (n : Int))) := by
            intro l
            induction l with
            | nil => intro _; rfl
            | cons a l ih => intro h; rw [List.flatMap_cons, List.flatMap_cons, ih (fun b hb => h b (by simp [hb])), key a (h a (by simp))]
          exact key2 _ (fun a ha => by simpa using ha)
        have HIX := hid (index61 ms)
        clear HM HMF
        go_wp2_with (with_reducible refine wpList_load_row rfl 61 _ rfl w1.heap.size rfl 61 (cellsB ms) (0, 0) _ bT Try.underlying61 rfl (by rw [info61]; simp [cellsB, hml]) ?_)
        have HRG := hid (fun m n hm hn' => row_get ms hml m n hm hn')
        clear bT
        obtain ⟨wo, hwo⟩ : ∃ wo : World, wo = wr := ⟨_, rfl⟩
        subst hwo
        go_loopw [13, 71] (fun v i wx => ∃ (m : Nat) (v' : Value), v = v' ∧ i = .int .i64 m ∧ m ≤ 8 ∧ wx.ownsRow w1.heap.size 42 2 v' (tabK ms m 0).length ((tabK ms m 0).flatMap ncells) ∧ Below w1.heap.size w1 wx)
          (fun _ i _ => 8 - (intOf i).toNat)
        case atStart => exact ⟨0, _, rfl, rfl, by omega, World.ownsRow_nil _ _ _ _, hby⟩
        case round =>
          clear hby
          obtain ⟨m, v, hv, rfl, hm8, hown, hby⟩ := hrel
          have hv2 := hv.symm
          subst hv2
          clear hv
          have hzx := hby.size
          by_cases hm : m < 8
          · have hmd : decide ((m : Int) < 8) = true := by simp; omega
            obtain ⟨b0, b1, b2, b3, b4, b5, b6, b7, hB8⟩ := list8 (HRG.out m 0 hm (by omega)).1
            have L1 : ∀ W, (Instr.index 61 (.agg (cellsB ms)) (.int .i64 (m : Int))).run Try.prog W = .ok (.agg #[.bool b0, .bool b1, .bool b2, .bool b3, .bool b4, .bool b5, .bool b6, .bool b7]) W := fun W => by rw [HIX.out m hm W, hB8]; rfl
            have HG : Hid (∀ n, n < 8 → [b0, b1, b2, b3, b4, b5, b6, b7][n]? = some (ms.getD (m * 8 + n) false)) := fun n hn' => by rw [← hB8]; exact (HRG.out m n hm hn').2
            have hix := fun n (hn' : n < 8) W => index60 [b0, b1, b2, b3, b4, b5, b6, b7] n rfl hn' W
            simp only [cellsB, List.map_cons, List.map_nil] at hix
            have HX := hid hix
            clear hB8 hix
            go_wp2
            go_loopw [13, 76] (fun v i wx => ∃ (n : Nat) (v' : Value), v = v' ∧ i = .int .i64 n ∧ n ≤ 8 ∧ wx.ownsRow w1.heap.size 42 2 v' (tabK ms m n).length ((tabK ms m n).flatMap ncells) ∧ Below w1.heap.size w1 wx)
              (fun _ i _ => 8 - (intOf i).toNat)
            case atStart => exact ⟨0, _, rfl, rfl, by omega, hown.alloc _, hby.al le_rfl' _⟩
            case round =>
              clear hby hown
              obtain ⟨n, v, hv, rfl, hn8, hown, hby⟩ := hrel
              have hv2 := hv.symm
              subst hv2
              clear hv
              have hzy := hby.size
              have hlen := tabK_len ms m n
              by_cases hn7 : n < 8
              · have hnd : decide ((n : Int) < 8) = true := by simp; omega
                have L2 := HX.out n hn7
                have HY : Hid ([b0, b1, b2, b3, b4, b5, b6, b7][n] = ms.getD (m * 8 + n) false) := by
                  have := HG.out n hn7
                  rw [List.getElem?_eq_getElem (by simpa using hn7)] at this
                  exact Option.some.inj this
                have HT := hid (tabK_step ms m n)
                rw [← HY.out] at HT
                obtain ⟨y, hy⟩ : ∃ y, [b0, b1, b2, b3, b4, b5, b6, b7][n] = y := ⟨_, rfl⟩
                rw [hy] at L2 HT
                clear hy HY
                obtain ⟨xs, hxs⟩ : ∃ xs, tabK ms m n = xs := ⟨_, rfl⟩
                rw [hxs] at HT hown hlen
                clear hxs
                cases y
                · have HT2 : Hid (tabK ms m (n + 1) = xs) := by show _ = _; rw [HT.out]; simp
                  clear HT
                  go_wp2
                  go_roundw
                  case rel => exact ⟨n + 1, _, rfl, by go_num, by omega, by rw [HT2.out]; exact hown, hby⟩
                  case measure => simp [intOf]; omega
                · have HT2 : Hid (tabK ms m (n + 1) = xs ++ [((m : Int), (n : Int))]) := by show _ = _; rw [HT.out]; simp
                  clear HT
                  go_wp2_with (at_builtin; refine wpList_append_lies _ rfl _ _ 35 rfl w1.heap.size 42 i0 _ 2 16 Try.underlying35 hi hz0 hz1 hz2 rfl (by decide) v xs.length (xs.flatMap ncells) rfl (hown.alloc _) ⟨wr.heap.size, 0, none⟩ 1 1 [.int .i64 m, .int .i64 n] rfl rfl (World.news_of_block (cs := #[.int .i64 m, .int .i64 n]) (t := 42) (fr := (0, 0)) (heapNew _ _)) (by simp [Value.oneCell']) (by decide) (by unfold maxLen; omega) (by omega) (by simp; omega) (wr.heap.size + 1) (by simp) ?_; intro g cap w6 hown6 hgrow hat6 hlt6)
                  go_roundw
                  case rel => exact ⟨n + 1, _, rfl, by go_num, by omega, by rw [HT2.out]; simpa [ncells] using hown6, (hby.al le_rfl' _).grown hgrow (hby.al le_rfl' _).size (fun g hg => (hown.lt g hg).1)⟩
                  case measure => simp [intOf]; omega
              · have hnd : decide ((n : Int) < 8) = false := by simp; omega
                have hn88 : n = 8 := by omega
                have HT : Hid (tabK ms m n = tabK ms (m + 1) 0) := by show _ = _; rw [hn88]; exact tabK_row ms m
                clear hn88
                go_wp2
                go_roundw
                case rel => exact ⟨m + 1, _, rfl, by go_num, by omega, by rw [← HT.out]; exact hown, hby⟩
                case measure => simp [intOf]; omega
          · have hmd : decide ((m : Int) < 8) = false := by simp; omega
            have hm88 : m = 8 := by omega
            have HT : Hid (tabK ms m 0 = D) := by show _ = _; rw [hm88, tabK_end]; exact HTL.out
            clear hm88
            have hown2 := HT.out ▸ hown
            clear hown
            go_wp2
            go_ret
            refine ⟨v, rfl, ⟨hown2.1, ?_⟩, B1.tr le_rfl' hby⟩
            rcases hown2.2 with h | ⟨g, cap, cur, h1, h2, h3⟩
            · exact .inl h
            · exact .inr ⟨g, cap, cur, h1, by have := B1.size; omega, h3⟩
end Go.Proofs.Ythdkgfmlihgceaa
