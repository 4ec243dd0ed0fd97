/-
  The document's Nests.
-/
import Derived.Test.YthdkgfmlihgceaaHdX
namespace Go.Proofs.Ythdkgfmlihgceaa
open Go.RowKit
/-- Through the pairs, by a test: the first k rows, and of the next one the first j. -/
def tabT (t : Nat → Nat → Bool) (N k j : Nat) : List (Int × Int) := ((List.range k).flatMap fun m => ((List.range N).filter fun n => t m n).map fun (n : Nat) => ((m : Int), (n : Int))) ++ ((List.range j).filter fun n => t k n).map fun (n : Nat) => ((k : Int), (n : Int))
theorem tabT_step (t : Nat → Nat → Bool) (N k j : Nat) : tabT t N k (j + 1) = tabT t N k j ++ if t k j then [((k : Int), (j : Int))] else [] := by
  unfold tabT
  rw [show List.range (j + 1) = List.range j ++ [j] from List.range_succ, List.filter_append, List.map_append, ← List.append_assoc]
  congr 1
  by_cases h : t k j = true
  · rw [List.filter_cons, if_pos h, if_pos h]; rfl
  · rw [List.filter_cons, if_neg h, if_neg h]; rfl
theorem tabT_row (t : Nat → Nat → Bool) (N k : Nat) : tabT t N k N = tabT t N (k + 1) 0 := by
  unfold tabT
  rw [show List.range (k + 1) = List.range k ++ [k] from List.range_succ, List.flatMap_append]
  simp
theorem tabT_end (t : Nat → Nat → Bool) (N : Nat) : tabT t N N 0 = nestL N t := by simp [tabT, nestL]
theorem tabT_len (t : Nat → Nat → Bool) (N k j : Nat) : (tabT t N k j).length ≤ k * N + j := by
  unfold tabT
  rw [List.length_append, List.length_map]
  have h1 := List.length_filter_le (fun n => t k n) (List.range j)
  rw [List.length_range] at h1
  have h2 : ∀ k : Nat, ((List.range k).flatMap fun m => ((List.range N).filter fun n => t m n).map fun (n : Nat) => ((m : Int), (n : Int))).length ≤ k * N := by
    intro k
    induction k with
    | zero => simp
    | succ k ih =>
      rw [show List.range (k + 1) = List.range k ++ [k] from List.range_succ, List.flatMap_append, List.length_append]
      have h3 : (((List.range N).filter fun n => t k n).map fun (n : Nat) => ((k : Int), (n : Int))).length ≤ N := by
        rw [List.length_map]
        exact Nat.le_trans (List.length_filter_le _ _) (by simp)
      simp only [List.flatMap_cons, List.flatMap_nil, List.append_nil]
      rw [Nat.succ_mul]
      omega
  have := h2 k
  omega
theorem nestL_succ {t : Nat → Nat → Bool} {M : Nat} (h : ∀ m n, (M ≤ m ∨ M ≤ n) → t m n = false) : nestL (M + 1) t = nestL M t := by
  unfold nestL
  rw [show List.range (M + 1) = List.range M ++ [M] from List.range_succ, List.flatMap_append]
  have h1 : ∀ m, (List.range M ++ [M]).filter (fun n => t m n) = (List.range M).filter (fun n => t m n) := fun m => by
    rw [List.filter_append]
    simp [h m M (.inr (Nat.le_refl _))]
  have h2 : (List.range M).filter (fun n => t M n) = [] := by
    rw [List.filter_eq_nil_iff]
    intro n _
    simp [h M n (.inl (Nat.le_refl _))]
  simp only [h1, List.flatMap_cons, List.flatMap_nil, h2, List.map_nil, List.append_nil]
theorem nestL_more {t : Nat → Nat → Bool} {N : Nat} (h : ∀ m n, (N ≤ m ∨ N ≤ n) → t m n = false) : ∀ d, nestL (N + d) t = nestL N t := by
  intro d
  induction d with
  | zero => rfl
  | succ d ih => rw [← ih]; exact nestL_succ (fun m n hmn => h m n (by have e : N.add d = N + d := rfl; omega))
theorem nestT_out {f : Fl} {N : Nat} {H : List (List Int)} (hr : HRows f N H) {m n : Nat} (hmn : N ≤ m ∨ N ≤ n) : f.es.any (nestT H m n) = false := by
  rw [List.any_eq_false]
  intro x hx ht
  simp only [nestT, Bool.and_eq_true, decide_eq_true_eq] at ht
  obtain ⟨⟨⟨⟨h1, h2⟩, h3⟩, h4⟩, h5⟩ := ht
  have hat := (hr.sound.at' x hx).2.2 (.inl h1)
  rcases hmn with hm | hn
  · have hlen : (H.getD x.src.toNat []).length ≤ N := by
      by_cases hk : x.src.toNat < H.length
      · have e : H.getD x.src.toNat [] = H[x.src.toNat] := by simp [hk]
        rw [e]
        rcases (hr.row _ (List.getElem_mem hk)).1 with h | h <;> rw [h] <;> simp
      · rw [List.getD_eq_getElem?_getD, List.getElem?_eq_none (by omega)]; simp
    rw [List.getD_eq_getElem?_getD (l := H.getD x.src.toNat []), List.getElem?_eq_none (by omega)] at h5
    simp at h5
  · omega
theorem any_snoc {α : Type} (p : α → Bool) (l : List α) (k : Nat) (h : k < l.length) : (l.take (k + 1)).any p = ((l.take k).any p || p l[k]) := by
  rw [List.take_succ_eq_append_getElem h]; simp only [List.any_append, List.any_cons, List.any_nil, Bool.or_false]
set_option maxRecDepth 100000 in
set_option maxHeartbeats 16000000 in
theorem docNests_any (f : Fl) (mons : Int) (n₀ : Nat) (w : World) (hn : n₀ ≤ w.heap.size) (hf : f.Is n₀ w) (hes : f.es.length ≤ 1000000) :
    Calls Try.prog 15 #[f.val, .int .i64 mons] w fun r w' => NestBack (nestR f mons) w w' r := by
  have hB1 := (Below.refl w.heap.size w).al le_rfl' (.cells f.cells.toArray 25)
  have hqH := docHeld_any f mons n₀ (w.alloc (.cells f.cells.toArray 25)) (by rw [World.size_alloc]; omega) (hf.below (hB1.mono hn)) hes
  cases hH : heldR f mons with
  | none =>
    have HN : Hid (nestR f mons = []) := by
      show _ = _
      unfold nestR
      rw [hH]
      have : ∀ m n, f.es.any (nestT [] m n) = false := fun m n => by
        rw [List.any_eq_false]
        intro x _
        simp [nestT]
      simp only [Option.getD_none, nestH, nestL, this]
      rfl
    have hq : Calls Try.prog 8 #[f.val, .int .i64 mons] (w.alloc (.cells f.cells.toArray 25)) fun r w' => r = .returned (.tuple #[.slice none 0 0, .bool false]) ∧ Below (w.alloc (.cells f.cells.toArray 25)).heap.size (w.alloc (.cells f.cells.toArray 25)) w' := hqH.mono (by
      rintro r w' (⟨_, _, _, h, _⟩ | ⟨_, h1, h2⟩)
      · rw [hH] at h; cases h
      · exact ⟨h1, h2⟩)
    obtain ⟨D, hD⟩ : ∃ D, nestR f mons = D := ⟨_, rfl⟩
    rw [hD] at HN ⊢
    clear hqH hH hD hf hes
    rcases f with ⟨name, star, locs, ead, ecap, es, gad, gl, gc⟩
    simp only [Fl.val, Fl.cells] at hq hB1 ⊢
    go_enter Try.func15, Try.ntmps15
    go_wp2_with (go_at_call 8; (with_reducible refine hq.mono ?_); rintro r w1 ⟨rfl, hb1⟩)
    go_ret
    exact ⟨.slice none 0 0, rfl, by rw [HN.out]; exact World.ownsRow_nil _ _ _ _, hB1.tr le_rfl' hb1⟩
  | some H =>
    obtain ⟨hrows, hmN⟩ := heldR_rows hH
    obtain ⟨N, hN⟩ : ∃ N, mons.toNat = N := ⟨_, rfl⟩
    have HREACH := hid (fun k hk => row_reach hH k hk)
    rw [hN] at hrows hmN HREACH
    subst hmN
    have hq : Calls Try.prog 8 #[f.val, .int .i64 (N : Int)] (w.alloc (.cells f.cells.toArray 25)) fun r w' => ∃ ad cp rs, H = rs.map Rw.l ∧ r = .returned (.tuple #[.slice ad rs.length cp, .bool true]) ∧ RwsAt w'.heap.size w' ad cp rs ∧ Below (w.alloc (.cells f.cells.toArray 25)).heap.size (w.alloc (.cells f.cells.toArray 25)) w' := hqH.mono (by
      rintro r w' (⟨ad, cp, rs, h, h1, h2, h3⟩ | ⟨h, _, _⟩)
      · rw [hH] at h
        exact ⟨ad, cp, rs, Option.some.inj h, h1, h2, h3⟩
      · rw [hH] at h; cases h)
    have hSd := hrows.sound
    have hN8 := hSd.le8
    have HTL : Hid (nestR f (N : Int) = nestL N fun m n => f.es.any (nestT H m n)) := by
      show _ = _
      unfold nestR nestH
      rw [hH]
      simp only [Option.getD_some]
      have := nestL_more (t := fun m n => f.es.any (nestT H m n)) (N := N) (fun m n hmn => nestT_out hrows hmn) (8 - N)
      rwa [show N + (8 - N) = 8 by omega] at this
    obtain ⟨D, hD⟩ : ∃ D, nestR f (N : Int) = D := ⟨_, rfl⟩
    rw [hD] at HTL ⊢
    have hlen := hrows.len
    obtain ⟨L, hL⟩ : ∃ L : Nat, f.locs.toNat = L := ⟨_, rfl⟩
    have hlL : f.locs = (L : Int) := by have := hSd.locs; omega
    rw [hL] at hlen
    have hL6 : L ≤ 600 := by have := hSd.locs; omega
    have hqR := fun (W : World) (hW : Below w.heap.size w W) => reached_any f N L n₀ W (by have := hW.size; omega) (hf.below (hW.mono hn)) hes hSd hlL
    unfold ReachBack at hqR
    have HNZ : Hid (∀ r ∈ H, ∀ v ∈ r, 0 ≤ v) := fun r hr => (hrows.row r hr).2
    have HAT := hid hSd.at'
    have hsl := hf.1
    clear hqH hH hD hf hSd hrows hL hN
    rcases f with ⟨name, star, locs, ead, ecap, es, gad, gl, gc⟩
    simp only at hlL hsl hes HTL HAT HREACH
    subst hlL
    simp only [Fl.val, Fl.cells] at hq hB1 hqR ⊢
    have hel1 := hsl.1; have hel2 := hsl.2.1
    unfold maxLen at hel2
    obtain ⟨i0, hi, hz0, hz1, hz2⟩ := info_of info42
    go_enter Try.func15, Try.ntmps15
    go_wp2_with (first
      | (go_at_call 8; (with_reducible refine hq.mono ?_); rintro r w1 ⟨ad, cp, rs, hHr, rfl, hRs, hb1⟩; have HHR := hid hHr; clear hHr; have B1 := hB1.tr le_rfl' hb1; have bF1 := (hb1.block w.heap.size (by rw [World.size_alloc]; omega)).trans (heapNew w _); obtain ⟨f2, f3⟩ := FBox.cells bF1; have f0 := cellOf bF1 0; have f1 := cellOf bF1 1; have f4 := cellOf bF1 4; simp at f0 f1 f4; have hz1' : w.heap.size < w1.heap.size := (by have := hb1.size; rw [World.size_alloc] at this; omega))
      | (go_at_call 25; (with_reducible refine (hqR _ B1).mono ?_); rintro r w2 ⟨sb, ss, rfl, hsb, bS, hsl', hsR, hb2⟩; have HSL := hid hsl'; have HSR := hid hsR; clear hsl' hsR))
    clear f0 f1 f2 f3 f4
    have HRL : Hid (rs.length = L) := by show _ = _; rw [← hlen, HHR.out, List.length_map]
    have B2 := B1.tr le_rfl' hb2
    have hRs2 := (hRs.below hb2).mono hb2.size
    have bF2 := (hb2.block w.heap.size hz1').trans bF1
    have hsb2 : sb < w2.heap.size := (Array.getElem?_eq_some_iff.1 bS).1
    have hwb2 : w.heap.size < w2.heap.size := by have := hb2.size; omega
    clear hRs hlen bF1 hq hqR hB1 hb1
    obtain ⟨t, ht⟩ : ∃ t : Nat → Nat → Bool, (fun m n => es.any (nestT H m n)) = t := ⟨_, rfl⟩
    have HT0 : Hid (∀ m n, t m n = es.any (nestT H m n)) := fun m n => by rw [← ht]
    rw [ht] at HTL
    clear ht
    go_loopw [8, 9] (fun v i wr => ∃ (m : Nat) (v' : Value), v = v' ∧ i = .int .i64 m ∧ m ≤ N ∧ wr.ownsRow w2.heap.size 42 2 v' (tabT t N m 0).length ((tabT t N m 0).flatMap ncells) ∧ Below w2.heap.size w2 wr)
      (fun _ i _ => N - (intOf i).toNat)
    case atStart => exact ⟨0, _, rfl, rfl, by omega, World.ownsRow_nil _ _ _ _, Below.refl _ _⟩
    case round =>
      obtain ⟨m, v, hv, rfl, hm, hown, hby⟩ := hrel
      have hv2 := hv.symm
      subst hv2
      clear hv
      by_cases hmt : m < N
      · have hmd : decide ((m : Int) < (N : Int)) = true := by simp; omega
        go_wp2
        go_loopw [8, 10] (fun v i wr => ∃ (n : Nat) (v' : Value), v = v' ∧ i = .int .i64 n ∧ n ≤ N ∧ wr.ownsRow w2.heap.size 42 2 v' (tabT t N m n).length ((tabT t N m n).flatMap ncells) ∧ Below w2.heap.size w2 wr)
          (fun _ i _ => N - (intOf i).toNat)
        case atStart => exact ⟨0, _, rfl, rfl, by omega, hown, hby⟩
        case round =>
          clear hown hby
          obtain ⟨n, v, hv, rfl, hn', hown, hby⟩ := hrel
          have hv2 := hv.symm
          subst hv2
          clear hv
          have hzy := hby.size
          by_cases hnt : n < N
          · have hnd : decide ((n : Int) < (N : Int)) = true := by simp; omega
            have hlen := tabT_len t N m n
            have hmn8 : m * N + n ≤ 72 := by
              have : m * N ≤ 8 * 8 := Nat.mul_le_mul (by omega) hN8
              omega
            have HT := hid (tabT_step t N m n)
            obtain ⟨xs, hxs⟩ : ∃ xs, tabT t N m n = xs := ⟨_, rfl⟩
            rw [hxs] at HT hown hlen
            have hxl : xs.length ≤ 72 := by omega
            obtain ⟨wk, hwk⟩ : ∃ wk : World, wk = wr := ⟨_, rfl⟩
            subst hwk
            clear hxs hlen
            go_wp2
            go_loopw [11, 12] (fun b i' wy => ∃ i : Nat, i' = .int .i64 i ∧ i ≤ es.length ∧ b = .bool ((es.take i).any (nestT H m n)) ∧ Below wk.heap.size wk wy)
              (fun _ i' _ => es.length - (intOf i').toNat)
            case atStart => exact ⟨0, rfl, by omega, by rw [List.take_zero]; rfl, Below.refl _ _⟩
            case round =>
              obtain ⟨i, rfl, hil, rfl, hby3⟩ := hrel
              have hz3 := hby3.size
              have hbw2 := hby.trans (hby3.mono hzy)
              have hbw : Below w.heap.size w wr := B2.tr le_rfl' hbw2
              have bFr := (hbw2.block w.heap.size hwb2).trans bF2
              obtain ⟨f2, f3⟩ := FBox.cells bFr
              have hwr0 : w.heap.size < wr.heap.size := by omega
              by_cases hct : i < es.length
              · have hid3 : decide ((i : Int) < (es.length : Int)) = true := by simp; omega
                rcases hsl.2.2 with h | ⟨eb, eoff, rfl, hen, herow⟩
                · subst h; simp at hct
                have hr2 := herow.below (hbw.mono hn) hen
                have hew : eb < wr.heap.size := by have := hbw.size; omega
                have hat := HAT.out _ (List.getElem_mem hct)
                have HS := any_snoc (nestT H m n) es i hct
                rcases hx : es[i] with ⟨src, dst, kind, mon, var, op, s1, s2, kk, kad, kl, kc, epos, nn, site, out, pos⟩
                obtain ⟨d0, d1, d2, d3, d4, d5, d6, d7, d8, d9, d10, d11, d12, d13, d14⟩ := row15 hr2 i hct hx
                rw [hx] at hat HS
                simp only at d0 d1 d2 d3 d4 d5 d6 d7 d8 d9 d10 d11 d12 d13 d14 hat
                clear hr2 hx herow
                obtain ⟨⟨hs0, hs1⟩, -, -⟩ := hat
                obtain ⟨s, rfl⟩ : ∃ s : Nat, src = (s : Int) := ⟨src.toNat, by omega⟩
                have hsr : s < rs.length := by have := HRL.out; omega
                have hsS : s < ss.length := by have := HSL.out; omega
                have cSs := (cellOf ((hbw2.block sb hsb2).trans bS) s).trans (show _ = some (Value.bool ss[s]) by simp [hsS])
                have hsbw : sb < wr.heap.size := by omega
                rcases hRs2.1.2.2 with h | ⟨ab, aoff, rfl, habn, harow⟩
                · subst h; simp at hsr
                have c0 := (harow.below hbw2 habn) s hsr 0 (by omega)
                have hxs := hRs2.2 _ (List.getElem_mem hsr)
                have hHx : H.getD s [] = rs[s].l := by rw [HHR.out]; simp [hsr]
                have hRE := HREACH.out s (by rw [HHR.out, List.length_map]; exact hsr)
                have hHe : H[s]'(by rw [HHR.out, List.length_map]; exact hsr) = rs[s].l := by
                  have := HHR.out
                  subst this
                  simp
                have hNZ := HNZ.out rs[s].l (by rw [HHR.out]; exact List.mem_map.2 ⟨_, List.getElem_mem hsr, rfl⟩)
                rw [hHe] at hRE
                have hSR := HSR.out s
                rw [getB hsS] at hSR
                rcases hxr : rs[s] with ⟨xad, xcap, xl⟩
                rw [hxr] at c0 hxs hHx hRE hNZ
                simp only [Rw.cells, Rw.val] at c0 hxs hHx hRE hNZ
                simp at c0
                clear hHe hxr harow
                have habw : ab < wr.heap.size := by omega
                have HNT : nestT H m n ⟨(s : Int), dst, kind, mon, var, op, s1, s2, kk, kad, kl, kc, epos, nn, site, out, pos⟩ = (decide (kind = 4) && decide (mon = (n : Int)) && decide (xl.length ≠ 0) && decide (¬ 0 < xl.getD n 0) && decide (0 < xl.getD m 0)) := by unfold nestT; simp only [Int.toNat_natCast, hHx]
                rw [HNT] at HS
                have hx1 := hxs.1; have hx2 := hxs.2.1
                unfold maxLen at hx2
                obtain ⟨P, hP⟩ : ∃ P, (es.take i).any (nestT H m n) = P := ⟨_, rfl⟩
                rw [hP] at HS ⊢
                clear hP hHx HNT
                obtain ⟨bE, hBE, hzE⟩ := one_box wr #[.int .i64 (s : Int), .int .i64 dst, .int .i64 kind, .int .i64 mon, .int .i64 var, .int .i64 op, .string s1, .string s2, .int .i64 kk, .slice kad kl kc, .int .i64 epos, .int .i64 nn, .int .i64 site, .int .i64 out, .int .i64 pos] 57
                have HZE := hid hzE
                clear hzE
                have hsz3 : wk.heap.size ≤ wr.heap.size := hz3
                by_cases hk4 : kind = 4
                · subst hk4
                  by_cases hmo : mon = (n : Int)
                  · subst hmo
                    have hmm : ((n : Int) == (n : Int)) = true := by simp
                    cases hst : ss[s]
                    · rw [hst] at cSs hSR
                      have hnil := hRE.2 (fun h => by have := hSR.2 h; cases this)
                      have HS2 : Hid ((es.take (i + 1)).any (nestT H m n) = P) := by show _ = _; rw [HS, hnil]; simp
                      clear hst hSR hRE hnil HS
                      go_wp2
                      go_roundw
                      case rel => exact ⟨i + 1, by go_num, by omega, by rw [HS2.out], hby3.al le_rfl' _⟩
                      case measure => simp [intOf]; omega
                    · rw [hst] at cSs hSR
                      have hlN := hRE.1 (hSR.1 rfl)
                      have hnx : n < xl.length := by omega
                      have hmx : m < xl.length := by omega
                      rcases hxs.2.2 with h | ⟨qb, qoff, rfl, hqn, hqrow⟩
                      · subst h; simp at hnx
                      have g0 := (hqrow.below hbw2 (by omega)) n hnx 0 (by omega)
                      have g1 := (hqrow.below hbw2 (by omega)) m hmx 0 (by omega)
                      simp only [icell] at g0 g1
                      simp at g0 g1
                      have hqw : qb < wr.heap.size := by omega
                      have hgn : xl.getD n 0 = xl[n] := by simp [hnx]
                      have hgm : xl.getD m 0 = xl[m] := by simp [hmx]
                      have hzn := hNZ _ (List.getElem_mem hnx)
                      rw [hgn, hgm] at HS
                      obtain ⟨z, hz⟩ : ∃ z, xl[n] = z := ⟨_, rfl⟩
                      obtain ⟨y, hy⟩ : ∃ y, xl[m] = y := ⟨_, rfl⟩
                      rw [hz] at g0 HS hzn
                      rw [hy] at g1 HS
                      have hxe : decide (xl.length ≠ 0) = true := by simp only [decide_eq_true_eq]; omega
                      have HS1 := hid HS
                      have HXE := hid hxe
                      clear hz hy hgn hgm hst hSR hRE hqrow hxs hNZ HS hxe
                      by_cases hz0' : z = 0
                      · subst hz0'
                        by_cases hy0 : 0 < y
                        · have hyd : decide (0 < y) = true := by simpa using hy0
                          have HS2 : Hid ((es.take (i + 1)).any (nestT H m n) = true) := by show _ = _; rw [HS1.out, HXE.out, hyd]; simp
                          clear HS1 HXE
                          go_wp2
                          go_roundw
                          case rel => exact ⟨i + 1, by go_num, by omega, by rw [HS2.out], hby3.al le_rfl' _⟩
                          case measure => simp [intOf]; omega
                        · have hyd : decide (0 < y) = false := by simpa using hy0
                          have HS2 : Hid ((es.take (i + 1)).any (nestT H m n) = P) := by show _ = _; rw [HS1.out, hyd]; simp
                          clear HS1 HXE
                          go_wp2
                          go_roundw
                          case rel => exact ⟨i + 1, by go_num, by omega, by rw [HS2.out], hby3.al le_rfl' _⟩
                          case measure => simp [intOf]; omega
                      · have hzd : (z == 0) = false := by simpa using hz0'
                        have hzp : 0 < z := by omega
                        have HS2 : Hid ((es.take (i + 1)).any (nestT H m n) = P) := by show _ = _; rw [HS1.out]; simp [hzp]
                        clear HS1 HXE hzp
                        go_wp2
                        go_roundw
                        case rel => exact ⟨i + 1, by go_num, by omega, by rw [HS2.out], hby3.al le_rfl' _⟩
                        case measure => simp [intOf]; omega
                  · have hmd2 : (mon == (n : Int)) = false := by simpa using hmo
                    have HS2 : Hid ((es.take (i + 1)).any (nestT H m n) = P) := by show _ = _; rw [HS]; simp [hmo]
                    clear HS hRE hSR hxs hNZ cSs
                    go_wp2
                    go_roundw
                    case rel => exact ⟨i + 1, by go_num, by omega, by rw [HS2.out], hby3.al le_rfl' _⟩
                    case measure => simp [intOf]; omega
                · have hkd : (kind == 4) = false := by simpa using hk4
                  have HS2 : Hid ((es.take (i + 1)).any (nestT H m n) = P) := by show _ = _; rw [HS]; simp [hk4]
                  clear HS hRE hSR hxs hNZ cSs
                  go_wp2
                  go_roundw
                  case rel => exact ⟨i + 1, by go_num, by omega, by rw [HS2.out], hby3.al le_rfl' _⟩
                  case measure => simp [intOf]; omega
              · have hcd : decide ((i : Int) < (es.length : Int)) = false := by simp; omega
                have hte : es.take i = es := List.take_of_length_le (by omega)
                rw [hte, ← HT0.out m n]
                have hown3 := owns_below hown hby3
                cases hb : t m n
                · have HT2 : Hid (tabT t N m (n + 1) = xs) := by show _ = _; rw [HT.out, hb]; simp
                  clear HT hb hte
                  go_wp2
                  go_roundw
                  case rel => exact ⟨n + 1, _, rfl, by go_num, by omega, by rw [HT2.out]; exact hown3, hbw2⟩
                  case measure => simp [intOf]; omega
                · have HT2 : Hid (tabT t N m (n + 1) = xs ++ [((m : Int), (n : Int))]) := by show _ = _; rw [HT.out, hb]; simp
                  clear HT hb hte
                  have hbs : w2.heap.size ≤ wr.heap.size := hbw2.size
                  go_wp2_with (at_builtin; refine wpList_append_lies _ rfl _ _ 35 rfl w2.heap.size 42 i0 _ 2 16 Try.underlying35 hi hz0 hz1 hz2 rfl (by decide) v xs.length (xs.flatMap ncells) rfl (hown3.alloc _) ⟨wr.heap.size, 0, none⟩ 1 1 [.int .i64 m, .int .i64 n] rfl rfl (World.news_of_block (cs := #[.int .i64 m, .int .i64 n]) (t := 42) (fr := (0, 0)) (heapNew _ _)) (by simp [Value.oneCell']) (by decide) (by unfold maxLen; omega) (by omega) (by simp; omega) (wr.heap.size + 1) (by simp) ?_; intro g cap w6 hown6 hgrow hat6 hlt6)
                  go_roundw
                  case rel => exact ⟨n + 1, _, rfl, by go_num, by omega, by rw [HT2.out]; simpa [ncells] using hown6, (hbw2.al le_rfl' _).grown hgrow (hbw2.al le_rfl' _).size (fun g hg => (hown3.lt g hg).1)⟩
                  case measure => simp [intOf]; omega
          · have hnd : decide ((n : Int) < (N : Int)) = false := by simp; omega
            have hn88 : n = N := by omega
            have HT : Hid (tabT t N m n = tabT t N (m + 1) 0) := by show _ = _; rw [hn88]; exact tabT_row t N m
            clear hn88
            go_wp2
            go_roundw
            case rel => exact ⟨m + 1, _, rfl, by go_num, by omega, by rw [← HT.out]; exact hown, hby⟩
            case measure => simp [intOf]; omega
      · have hmd : decide ((m : Int) < (N : Int)) = false := by simp; omega
        have hm88 : m = N := by omega
        have HT : Hid (tabT t N m 0 = D) := by show _ = _; rw [hm88, tabT_end]; exact HTL.out.symm
        clear hm88
        have hown2 := HT.out ▸ hown
        clear hown
        go_wp2
        go_ret
        refine ⟨v, rfl, ⟨hown2.1, ?_⟩, B2.tr le_rfl' hby⟩
        rcases hown2.2 with h | ⟨g, cap, cur, h1, h2, h3⟩
        · exact .inl h
        · exact .inr ⟨g, cap, cur, h1, by have := B2.size; omega, h3⟩
end Go.Proofs.Ythdkgfmlihgceaa
