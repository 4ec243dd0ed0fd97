/-
  The document's Held, walked.
-/
import Derived.Test.YthdkgfmlihgceaaHdU
namespace Go.Proofs.Ythdkgfmlihgceaa
open Go.RowKit
theorem bools_set (ss : List Bool) (m : Nat) (b : Bool) : ((ss.map Value.bool).toArray).setIfInBounds m (.bool b) = ((ss.set m b).map Value.bool).toArray := by
  simp [List.map_set]
theorem rep0 {α : Type} {L : Nat} (h : 1 ≤ L) (f : α → Value) (a : α) : ((List.replicate L a).map f).toArray[0]? = some (f a) := by
  cases L with
  | zero => omega
  | succ n => simp [List.replicate_succ]
set_option maxRecDepth 100000 in
set_option maxHeartbeats 40000000 in
theorem docHeld_any (f : Fl) (mons : Int) (n₀ : Nat) (w : World) (hn : n₀ ≤ w.heap.size) (hf : f.Is n₀ w) (hes : f.es.length ≤ 1000000) :
    Calls Try.prog 8 #[f.val, .int .i64 mons] w fun r w' => HeldBack f mons w w' r := by
  have hB1 := (Below.refl w.heap.size w).al le_rfl' (.cells f.cells.toArray 25)
  have hqS := shaped_any f mons n₀ (w.alloc (.cells f.cells.toArray 25)) (by rw [World.size_alloc]; omega) (hf.below (hB1.mono hn))
  unfold SoundBack at hqS
  cases hs : soundF f mons
  · have HR : Hid (heldR f mons = none) := by show _ = _; unfold heldR; rw [if_neg (by rw [hs]; decide)]
    rw [hs] at hqS
    rcases f with ⟨name, star, locs, ead, ecap, es, gad, gl, gc⟩
    simp only [Fl.val, Fl.cells] at hqS hB1 ⊢
    clear hs hf
    go_enter Try.func8, Try.ntmps8
    go_wp2_with (go_at_call 22; (with_reducible refine hqS.mono ?_); rintro r w1 ⟨rfl, hb1⟩)
    go_ret2
    exact .inr ⟨HR.out, rfl, hB1.tr le_rfl' hb1⟩
  · obtain ⟨hSd, hm0⟩ := sound_of hs
    have HR : Hid (heldR f mons = heldV mons.toNat f.locs.toNat f.es) := by show _ = _; unfold heldR; rw [if_pos hs]
    rw [hs] at hqS
    obtain ⟨⟨hlo1, hlo6⟩, hN8, hat⟩ := hSd
    obtain ⟨hsl, hlo, hfi⟩ := hf
    rcases f with ⟨name, star, locs, ead, ecap, es, gad, gl, gc⟩
    simp only [Fl.val, Fl.cells] at hqS hB1 hlo1 hlo6 hat hsl hes HR ⊢
    obtain ⟨N, hN⟩ : ∃ N, mons.toNat = N := ⟨_, rfl⟩
    obtain ⟨L, hL⟩ : ∃ L : Nat, locs.toNat = L := ⟨_, rfl⟩
    have hmN : mons = (N : Int) := by omega
    have hlL : locs = (L : Int) := by omega
    rw [hN, hL] at HR
    rw [hN] at hN8 hat
    subst hmN hlL
    have HAT := hid hat
    have HNN : Hid (∀ G : Prop, True) := fun _ => trivial
    clear hs hN hL hat hlo hfi HNN
    have hL1 : 1 ≤ L := by omega
    have hL6 : L ≤ 600 := by omega
    clear hlo1 hlo6 hm0
    have hel1 := hsl.1; have hel2 := hsl.2.1
    unfold maxLen at hel2
    have hmk27 := make_run (T := 27) (e := 32) (b := 24) Try.underlying27 info32 rfl L (by omega) (by omega)
    have hmk52 := make_run (T := 52) (e := 4) (b := 1) Try.underlying52 info4 rfl L (by omega) (by omega)
    have hmk32 := make_run (T := 32) (e := 3) (b := 8) Try.underlying32 info3 rfl N (by omega) (by omega)
    obtain ⟨i0, hi, hz0, hz1, hz2⟩ := info_of info3
    go_enter Try.func8, Try.ntmps8
    go_upto_region 5 with (go_at_call 22; (with_reducible refine hqS.mono ?_); rintro r w1 ⟨rfl, hb1⟩; have B2 := hB1.tr le_rfl' hb1; have bF1 := (hb1.block w.heap.size (by rw [World.size_alloc]; omega)).trans (heapNew w _); obtain ⟨f2, f3⟩ := FBox.cells bF1; have hz1' : w.heap.size < w1.heap.size := (by have := hb1.size; rw [World.size_alloc] at this; omega))
    clear hmk27 hmk52 f2 f3
    obtain ⟨W0, hW0⟩ : ∃ W0, (w1.alloc (.cells (Array.replicate L (.slice none 0 0)) 32)).alloc (.cells (Array.replicate L (.bool false)) 4) = W0 := ⟨_, rfl⟩
    have bR0 : W0.heap[w1.heap.size]? = some (.cells (Array.replicate L (.slice none 0 0)) 32 (0, 0)) := by
      rw [← hW0]; exact (Below.heap_alloc _ _ _ (by rw [World.size_alloc]; omega)).trans (heapNew w1 _)
    have bS0 : W0.heap[w1.heap.size + 1]? = some (.cells (Array.replicate L (.bool false)) 4 (0, 0)) := by
      have := heapNew (w1.alloc (.cells (Array.replicate L (.slice none 0 0)) 32)) (.cells (Array.replicate L (.bool false)) 4)
      rw [World.size_alloc] at this
      rw [← hW0]; exact this
    have B0 : Below w1.heap.size w1 W0 := by rw [← hW0]; exact ((Below.refl _ w1).al le_rfl' _).al le_rfl' _
    have hZ0 : W0.heap.size = w1.heap.size + 2 := by rw [← hW0, World.size_alloc, World.size_alloc]
    rw [hW0]
    clear hW0
    have hrepR : Array.replicate L (Value.slice none 0 0) = ((List.replicate L (⟨none, 0, []⟩ : Rw)).map Rw.val).toArray := by simp [Rw.val]
    have hrepS : Array.replicate L (Value.bool false) = ((List.replicate L false).map Value.bool).toArray := by simp
    have hrepN : Array.replicate N (Value.int .i64 0) = (ints (List.replicate N 0)).toArray := by simp [ints]
    rw [hrepR] at bR0
    rw [hrepS] at bS0
    rw [hrepN] at hmk32
    clear hrepR hrepS hrepN
    have cR0 := (cellOf bR0 0).trans (rep0 hL1 Rw.val _)
    have cS0 := (cellOf bS0 0).trans (rep0 hL1 Value.bool false)
    have fR0 : W0.frozen? ⟨w1.heap.size, 0, none⟩ = false := by simp [World.frozen?, bR0]
    have fS0 : W0.frozen? ⟨w1.heap.size + 1, 0, none⟩ = false := by simp [World.frozen?, bS0]
    simp only [Rw.val, List.length_nil] at cR0
    go_upto_region 7 with fail
    obtain ⟨W2, hW2⟩ : ∃ W2, ((W0.setCell ⟨w1.heap.size, 0, none⟩ (.slice (some ⟨w1.heap.size + 2, 0, none⟩) N N)).setCell ⟨w1.heap.size + 1, 0, none⟩ (.bool true)).alloc (.cells (ints (List.replicate N 0)).toArray 3) = W2 := ⟨_, rfl⟩
    have hzs : ((W0.setCell ⟨w1.heap.size, 0, none⟩ (.slice (some ⟨w1.heap.size + 2, 0, none⟩) N N)).setCell ⟨w1.heap.size + 1, 0, none⟩ (.bool true)).heap.size = w1.heap.size + 2 := by simp only [World.setCell, Array.size_modify]; exact hZ0
    have hZ2 : W2.heap.size = w1.heap.size + 3 := by rw [← hW2, World.size_alloc, hzs]
    have bR2 : W2.heap[w1.heap.size]? = some (.cells (((List.replicate L (⟨none, 0, []⟩ : Rw)).set 0 ⟨some ⟨w1.heap.size + 2, 0, none⟩, N, List.replicate N 0⟩).map Rw.val).toArray 32 (0, 0)) := by
      rw [← hW2]
      refine (Below.heap_alloc _ _ _ (by rw [hzs]; omega)).trans ((Below.heap_setCell _ ⟨w1.heap.size + 1, 0, none⟩ _ w1.heap.size (by simp)).trans ?_)
      have := setBox (i := 0) bR0 (Rw.val ⟨some ⟨w1.heap.size + 2, 0, none⟩, N, List.replicate N 0⟩)
      rw [rows_set] at this
      simpa only [Rw.val, List.length_replicate] using this
    have bS2 : W2.heap[w1.heap.size + 1]? = some (.cells (((List.replicate L false).set 0 true).map Value.bool).toArray 4 (0, 0)) := by
      rw [← hW2]
      refine (Below.heap_alloc _ _ _ (by rw [hzs]; omega)).trans ?_
      have := setBox (i := 0) ((Below.heap_setCell W0 ⟨w1.heap.size, 0, none⟩ (.slice (some ⟨w1.heap.size + 2, 0, none⟩) N N) (w1.heap.size + 1) (by simp)).trans bS0) (Value.bool true)
      rwa [bools_set] at this
    have bZ2 : W2.heap[w1.heap.size + 2]? = some (.cells (ints (List.replicate N 0)).toArray 3 (0, 0)) := by
      rw [← hW2]
      have := heapNew ((W0.setCell ⟨w1.heap.size, 0, none⟩ (.slice (some ⟨w1.heap.size + 2, 0, none⟩) N N)).setCell ⟨w1.heap.size + 1, 0, none⟩ (.bool true)) (.cells (ints (List.replicate N 0)).toArray 3)
      rwa [hzs] at this
    have B3 : Below w1.heap.size w1 W2 := by
      rw [← hW2]
      exact (((B0.setCell (p := ⟨w1.heap.size, 0, none⟩) (Nat.le_refl _) _).setCell (p := ⟨w1.heap.size + 1, 0, none⟩) (Nat.le_succ _) _).al le_rfl' _)
    rw [hW2]
    clear hW2 hzs cR0 cS0 fR0 fS0 bR0 bS0 B0 hZ0 hmk32 W0 hqS
    have hown3 : (W2.alloc (.cells #[.int .i64 0] 3)).ownsRow (w1.heap.size + 2) 3 1 (.slice (some ⟨W2.heap.size, 0, none⟩) 1 1) 1 (ints [0]) := World.ownsRow_lit (base := w1.heap.size + 2) (e := 3) (size := 1) W2 #[.int .i64 0] 1 (by omega) (by unfold maxLen; omega) rfl
    have bR3 := (Below.heap_alloc W2 (.cells #[.int .i64 0] 3) w1.heap.size (by omega)).trans bR2
    have bS3 := (Below.heap_alloc W2 (.cells #[.int .i64 0] 3) (w1.heap.size + 1) (by omega)).trans bS2
    have bZ3 := (Below.heap_alloc W2 (.cells #[.int .i64 0] 3) (w1.heap.size + 2) (by omega)).trans bZ2
    have B4 := B3.al le_rfl' (.cells #[.int .i64 0] 3)
    have HAP : Hid (RowsApart (W2.alloc (.cells #[.int .i64 0] 3)) w1.heap.size (w1.heap.size + 1) (some W2.heap.size) ((List.replicate L (⟨none, 0, []⟩ : Rw)).set 0 ⟨some ⟨w1.heap.size + 2, 0, none⟩, N, List.replicate N 0⟩)) := fun x hx => by
      rcases List.mem_or_eq_of_mem_set hx with hx | rfl
      · obtain ⟨_, rfl⟩ := List.mem_replicate.1 hx
        exact ⟨⟨Nat.le_refl _, by unfold maxLen; simp, .inl rfl⟩, fun a ha => by cases ha⟩
      · refine ⟨⟨by simp, by unfold maxLen; simp only; omega, .inr ⟨_, 0, rfl, by rw [World.size_alloc]; omega, fun j hj q hq => ?_⟩⟩, fun a ha => ?_⟩
        · obtain rfl : q = 0 := by omega
          simp only at hj ⊢
          simp only [Nat.zero_add, Nat.mul_one, Nat.add_zero]
          rw [cellOf bZ3, List.getElem?_toArray, iget hj]
          rfl
        · cases ha
          refine ⟨by rw [World.size_alloc]; show w1.heap.size + 2 < _; omega, by show w1.heap.size + 2 ≠ _; omega, by show w1.heap.size + 2 ≠ _; omega, fun e => ?_⟩
          injection e with e
          simp only at e
          omega
    have HKE := hid (Kept.first L N (some ⟨w1.heap.size + 2, 0, none⟩) N)
    have HBI0 := hid (Bi.first N es)
    have hlr : ((List.replicate L (⟨none, 0, []⟩ : Rw)).set 0 ⟨some ⟨w1.heap.size + 2, 0, none⟩, N, List.replicate N 0⟩).length = L := by simp
    have hls : ((List.replicate L false).set 0 true).length = L := by simp
    obtain ⟨rs0, hrs0⟩ : ∃ rs0, (List.replicate L (⟨none, 0, []⟩ : Rw)).set 0 ⟨some ⟨w1.heap.size + 2, 0, none⟩, N, List.replicate N 0⟩ = rs0 := ⟨_, rfl⟩
    obtain ⟨ss0, hss0⟩ : ∃ ss0, (List.replicate L false).set 0 true = ss0 := ⟨_, rfl⟩
    rw [hrs0] at bR3 HAP HKE hlr
    rw [hss0] at bS3 HKE hls
    have HZ2 := hid hZ2
    clear bR2 bS2 bZ2 bZ3 hrs0 hss0 hZ2 B3
    go_wp2
    go_loopw [8, 9] (fun v i' wr => ∃ (n : Nat) (F : Int → Option (List Int)) (l : List Int) (rs : List Rw) (ss : List Bool) (g cp : Nat), i' = .int .i64 n ∧ n ≤ l.length ∧ v = .slice (some ⟨g, 0, none⟩) l.length cp ∧ wr.ownsRow (w1.heap.size + 2) 3 1 (.slice (some ⟨g, 0, none⟩) l.length cp) l.length (ints l) ∧ wr.heap[w1.heap.size]? = some (.cells (rs.map Rw.val).toArray 32 (0, 0)) ∧ wr.heap[w1.heap.size + 1]? = some (.cells (ss.map Value.bool).toArray 4 (0, 0)) ∧ rs.length = L ∧ ss.length = L ∧ Hid (RowsApart wr w1.heap.size (w1.heap.size + 1) (some g) rs) ∧ Hid (Kept F rs ss) ∧ Hid (Bi N es F l (fun x => ∃ j, j < n ∧ l[j]? = some x.src)) ∧ Hid (∀ z ∈ l, 0 ≤ z ∧ z < (L : Int)) ∧ Below w1.heap.size w1 wr)
      (fun _ i' _ => L + 1 - (intOf i').toNat)
    case atStart => exact ⟨0, _, [0], rs0, ss0, W2.heap.size, 1, rfl, by simp, rfl, hown3, bR3, bS3, hlr, hls, HAP, HKE, HBI0.out.weak (fun x _ ⟨j, hj, _⟩ => by omega), (fun z hz => by rw [List.mem_singleton.1 hz]; omega), B4⟩
    case round =>
      clear hown3 bR3 bS3 hlr hls HAP HKE HBI0 B4 HZ2
      obtain ⟨n, F, l, rs, ss, g, cp, rfl, hnl, rfl, hown, bR, bS, hlr, hls, HAP, HKE, HBI, HRG, hby⟩ := hrel
      have hlb := nodup_bound L l HBI.out.nodup (fun z hz => by have := HRG.out z hz; omega)
      by_cases hit : n < l.length
      · have hid2 : decide ((n : Int) < (l.length : Int)) = true := by simp; omega
        have HD0 : Hid (Bi N es F l (Dq es l n 0)) := HBI.out.weak (fun x _ h => h.start)
        have HLL := hid hlb
        clear HBI hlb hnl
        go_wp2
        go_loopw [8, 10] (fun v i' wr => ∃ (i : Nat) (F : Int → Option (List Int)) (l : List Int) (rs : List Rw) (ss : List Bool) (g cp : Nat), i' = .int .i64 i ∧ (i ≤ es.length ∧ n < l.length) ∧ v = .slice (some ⟨g, 0, none⟩) l.length cp ∧ wr.ownsRow (w1.heap.size + 2) 3 1 (.slice (some ⟨g, 0, none⟩) l.length cp) l.length (ints l) ∧ wr.heap[w1.heap.size]? = some (.cells (rs.map Rw.val).toArray 32 (0, 0)) ∧ wr.heap[w1.heap.size + 1]? = some (.cells (ss.map Value.bool).toArray 4 (0, 0)) ∧ rs.length = L ∧ ss.length = L ∧ Hid (RowsApart wr w1.heap.size (w1.heap.size + 1) (some g) rs) ∧ Hid (Kept F rs ss) ∧ Hid (Bi N es F l (Dq es l n i)) ∧ Hid (∀ z ∈ l, 0 ≤ z ∧ z < (L : Int)) ∧ Below w1.heap.size w1 wr)
          (fun _ i' _ => es.length - (intOf i').toNat)
        case atStart => exact ⟨0, F, l, rs, ss, g, cp, rfl, ⟨by omega, hit⟩, rfl, hown, bR, bS, hlr, hls, HAP, HKE, HD0, HRG, hby⟩
        case round =>
          clear hown bR bS hlr hls HAP HKE HD0 HRG hby hid2 hit HLL
          obtain ⟨i, F, l, rs, ss, g, cp, rfl, ⟨hil, hit⟩, rfl, hown, bR, bS, hlr, hls, HAP, HKE, HBI, HRG, hby⟩ := hrel
          have hzy := hby.size
          have hbFr := (hby.block w.heap.size (by omega)).trans bF1
          obtain ⟨f2, f3⟩ := FBox.cells hbFr
          have hwr1 : w.heap.size < wr.heap.size := by omega
          by_cases hct : i < es.length
          · have hid3 : decide ((i : Int) < (es.length : Int)) = true := by simp; omega
            have hbw : Below w.heap.size w wr := B2.tr le_rfl' hby
            rcases hsl.2.2 with h | ⟨eb, eoff, rfl, hen, herow⟩
            · subst h; simp at hct
            have hr2 := herow.below (hbw.mono hn) hen
            have hew : eb < wr.heap.size := by omega
            have hXm : es[i] ∈ es := List.getElem_mem hct
            have HQ : Hid (es[i]? = some es[i]) := List.getElem?_eq_getElem hct
            rcases hx : es[i] with ⟨src, dst, kind, mon, var, op, s1, s2, kk, kad, kl, kc, epos, nn, site, out, pos⟩
            obtain ⟨d0, d1, d2, d3, d4, d5, d6, d7, d8, d9, d10, d11, d12, d13, d14⟩ := row15 hr2 i hct hx
            have hat := HAT.out es[i] hXm
            rw [hx] at HQ hXm hat
            simp only at d0 d1 d2 d3 d4 d5 d6 d7 d8 d9 d10 d11 d12 d13 d14 hat
            have HXM := hid hXm
            clear hr2 hx herow hXm
            obtain ⟨⟨hs0, hs1⟩, ⟨ht0, ht1⟩, hmn⟩ := hat
            have HMN := hid hmn
            have g0 := hown.cells (g := g) rfl n _ (iget hit)
            rw [Addr.add_lit, Nat.zero_add] at g0
            obtain ⟨p, hp⟩ : ∃ p, l[n] = p := ⟨_, rfl⟩
            have HP : Hid (l[n]? = some p) := by show _ = _; rw [List.getElem?_eq_getElem hit, hp]
            rw [hp] at g0
            clear hp hmn
            have hlc : l.length ≤ cp ∧ cp ≤ 9223372036854775807 := by
              obtain ⟨lad, lcp, he, h1, h2, _⟩ := sl_own hown
              injection he with _ _ he
              subst he
              unfold maxLen at h2
              omega
            have hgl := (hown.lt g rfl)
            obtain ⟨bE, hBE, hzE⟩ := one_box wr #[.int .i64 src, .int .i64 dst, .int .i64 kind, .int .i64 mon, .int .i64 var, .int .i64 op, .string s1, .string s2, .int .i64 kk, .slice kad kl kc, .int .i64 epos, .int .i64 nn, .int .i64 site, .int .i64 out, .int .i64 pos] 57
            go_wp2_with fail
            obtain ⟨W0, hW0⟩ : ∃ W0, wr.alloc (.cells #[.int .i64 src, .int .i64 dst, .int .i64 kind, .int .i64 mon, .int .i64 var, .int .i64 op, .string s1, .string s2, .int .i64 kk, .slice kad kl kc, .int .i64 epos, .int .i64 nn, .int .i64 site, .int .i64 out, .int .i64 pos] 57) = W0 := ⟨_, rfl⟩
            have hg0 : W0.cell? ⟨g, n, none⟩ = some (.int .i64 p) := by rw [← hW0]; exact (hBE.cell (p := ⟨g, n, none⟩) hgl.2).trans g0
            rw [hW0] at bE hBE hzE ⊢
            clear hW0 d0 d1 d2 d3 d4 d5 d6 d7 d8 d9 d10 d11 d12 d13 d14 g0 f2 f3 hbFr
            obtain ⟨c0, c1, c2, c3, -⟩ := fifteen bE
            have hEg : wr.heap.size < W0.heap.size := by omega
            have hgW : g < W0.heap.size := by omega
            by_cases hsp : src = p
            · subst hsp
              have hd : (src != src) = false := by simp
              obtain ⟨o, ho⟩ : ∃ o, F src = some o := by
                have hm := (HBI.out.mem src).2 (List.mem_of_getElem? HP.out)
                cases e : F src with
                | none => rw [e] at hm; cases hm
                | some o => exact ⟨o, rfl⟩
              have hsz := HBI.out.size src o ho
              have hlb := nodup_bound L l HBI.out.nodup (fun z hz => by have := HRG.out z hz; omega)
              obtain ⟨s, rfl⟩ : ∃ s : Nat, src = (s : Int) := ⟨src.toNat, by omega⟩
              obtain ⟨t, rfl⟩ : ∃ t : Nat, dst = (t : Int) := ⟨dst.toNat, by omega⟩
              have hsL : s < rs.length := by omega
              have htL : t < rs.length := by omega
              have htS : t < ss.length := by omega
              have hrl := (HKE.out s hsL (by omega)).1
              rw [ho] at hrl
              have hxA := HAP.out rs[s] (List.getElem_mem hsL)
              rcases hrx : rs[s] with ⟨rad, rcp, rl⟩
              rw [hrx] at hrl hxA
              simp only [Option.getD_some] at hrl hxA
              subst hrl
              have hyE : Below wr.heap.size wr W0 := hBE
              obtain ⟨hrN, hrb⟩ := hsz
              have HRN := hid hrN
              have hr8 : rl.length ≤ 8 := by omega
              have HO := hid ho
              have HRB : Hid (∀ v ∈ rl, 0 ≤ v ∧ v < 1000) := fun v hv => by have := hrb v hv; omega
              have HLL := hid hlb
              have hw12 : w1.heap.size + 1 < wr.heap.size := by have := hown.lt g rfl; omega
              clear hrb hlb ho hrN
              go_quiet (fail)
              go_upto_region 16 with fail
              obtain ⟨W1, hW1⟩ : ∃ W1, W0.drewN nq = W1 := ⟨_, rfl⟩
              have hE1 : Below wr.heap.size wr W1 := by rw [← hW1]; exact below_drewN hBE _
              have hz1W : wr.heap.size < W1.heap.size := by rw [← hW1]; exact hEg
              have bE1 : W1.heap[wr.heap.size]? = some (.cells #[.int .i64 (s : Int), .int .i64 (t : Int), .int .i64 kind, .int .i64 mon, .int .i64 var, .int .i64 op, .string s1, .string s2, .int .i64 kk, .slice kad kl kc, .int .i64 epos, .int .i64 nn, .int .i64 site, .int .i64 out, .int .i64 pos] 57 (0, 0)) := by rw [← hW1]; exact bE
              rw [hW1]
              clear hW1 c0 c1 c2 c3 hg0 hgW hEg bE hBE hyE
              obtain ⟨c0, c1, c2, c3, -⟩ := fifteen bE1
              have bR1 := (hE1.block w1.heap.size (by omega)).trans bR
              have cRs := (cellOf bR1 s).trans (show _ = some (Value.slice rad rl.length rcp) by simp [hsL, hrx, Rw.val])
              have HOW1 := hid (owns_below hown hE1)
              have HA1 := hid (HAP.out.below hE1)
              have HBY1 := hid (hby.tr le_rfl' hE1)
              have bS1 := (hE1.block (w1.heap.size + 1) (by omega)).trans bS
              have hownO := World.ownsRow_made (base := W1.heap.size) (e := 3) (size := 1) W1 #[] 0 (Nat.le_refl _) (by unfold maxLen; omega) rfl
              have BO : Below W1.heap.size W1 (W1.alloc (.cells #[] 3)) := (Below.refl _ W1).al le_rfl' _
              have hSO := hxA.1.below (hE1.al le_rfl' (.cells #[] 3))
              have hRW1 : w1.heap.size < W1.heap.size := by omega
              have hSW1 : w1.heap.size + 1 < W1.heap.size := by omega
              have hgW1 : g < W1.heap.size := (HOW1.out.lt g rfl).2
              clear hown bR bS HAP hby hxA HP hrx
              go_upto_region 17 with (at_builtin; refine wpList_append_ints (by rfl) _ _ rfl W1.heap.size _ rfl hownO slice_ne wr.heap.size rad rcp rl rfl hSO (by omega) BO.size ?_; intro v1 w2 hown2 hg2; have B2' : Below W1.heap.size W1 w2 := grown_made BO hg2)
              clear hownO hSO BO cRs c0 c1 c2 c3
              have bE2 := (B2'.block wr.heap.size hz1W).trans bE1
              obtain ⟨c0, c1, c2, c3, -⟩ := fifteen bE2
              have hB2w := B2'.size
              obtain ⟨X, hX⟩ : ∃ X : Eg, X = (⟨(s : Int), (t : Int), kind, mon, var, op, s1, s2, kk, kad, kl, kc, epos, nn, site, out, pos⟩ : Eg) := ⟨_, rfl⟩
              have HK : Hid (X.kind = kind ∧ X.mon = mon ∧ X.dst = (t : Int) ∧ X.src = (s : Int)) := by rw [hX]; exact ⟨rfl, rfl, rfl, rfl⟩
              have HOX : Hid (F X.src = some rl) := by show _ = _; rw [HK.out.2.2.2]; exact HO.out
              rw [← hX] at HQ HXM
              clear hX
              have hB2z := B2'.size
              by_cases h4 : kind = 4
              · subst h4
                obtain ⟨hm0, hm1⟩ := HMN.out (.inl rfl)
                obtain ⟨m, rfl⟩ : ∃ m : Nat, mon = (m : Int) := ⟨mon.toNat, by omega⟩
                have hmr : m < rl.length := by have := HRN.out; omega
                obtain ⟨g1, cp1, rfl, hb1', hl1', hc1', cm, fm, hset⟩ := own_set hown2 hmr
                have hzb := HRB.out _ (List.getElem_mem hmr)
                obtain ⟨ob, hob⟩ : ∃ ob, ob = rl.set m (rl[m] + 1) := ⟨_, rfl⟩
                have HOB : Hid (behL rl X = ob) := by
                  show _ = _
                  obtain ⟨k1, k2, _⟩ := HK.out
                  unfold behL
                  rw [if_pos k1, k2, Int.toNat_natCast, hob]
                  simp [hmr]
                have HBB : Hid (behB rl X = true) := by
                  show _ = _
                  obtain ⟨k1, k2, _⟩ := HK.out
                  unfold behB
                  rw [if_neg (by rw [k1]; decide)]
                have hset2 := hset (rl[m] + 1)
                rw [← hob] at hset2
                have hobl : ob.length = rl.length := by rw [hob, List.length_set]
                clear hset hob
                obtain ⟨z, hz⟩ : ∃ z, rl[m] = z := ⟨_, rfl⟩
                rw [hz] at hzb cm hset2
                obtain ⟨hzb0, hzb1⟩ := hzb
                clear hz hown2
                go_upto_region 23 with fail
                obtain ⟨W3, hW3⟩ : ∃ W3, w2.setCell ⟨g1, m, none⟩ (.int .i64 (z + 1)) = W3 := ⟨_, rfl⟩
                have hB3 : Below W1.heap.size W1 W3 := by rw [← hW3]; exact B2'.setCell (p := ⟨g1, m, none⟩) hb1' _
                rw [hW3] at hset2 ⊢
                have hcap3 : ob.length ≤ cp1 := by omega
                obtain ⟨ad, had⟩ : ∃ ad, (some ⟨g1, 0, none⟩ : Option Addr) = ad := ⟨_, rfl⟩
                rw [← hobl] at hset2
                obtain ⟨_, _, hv3, hS3, hA3⟩ := sl_own2 hset2
                have hlt3 : ∀ a, ad = some a → a.block < W3.heap.size := by rintro a rfl; injection had with had; subst had; exact (hset2.lt g1 rfl).2
                injection hv3 with hv3 _ hv4
                subst hv3 hv4
                rw [had] at hS3 hA3 ⊢
                clear hW3 hset2 had cm fm hb1' hl1' hc1' hzb0 hzb1
                have hEW3 : wr.heap.size < W3.heap.size := by have := hB3.size; omega
                have bE3 := (hB3.block wr.heap.size hz1W).trans bE1
                obtain ⟨e0, e1, e2, e3, -⟩ := fifteen bE3
                have bR3 := (hB3.block w1.heap.size hRW1).trans bR1
                have bS3 := (hB3.block (w1.heap.size + 1) hSW1).trans bS1
                have HOW3 := hid (owns_below HOW1.out hB3)
                have HA3' := hid (HA1.out.below hB3)
                have HBY3 := hid (HBY1.out.tr le_rfl' hB3)
                have HKT := HKE.out t htL htS
                have cSt := (cellOf bS3 t).trans (show _ = some (Value.bool ss[t]) by simp [htS])
                have hgW3 : g < W3.heap.size := by have := hB3.size; omega
                have hg2 : w1.heap.size + 2 ≤ g := (HOW1.out.lt g rfl).1
                have hl6 : l.length ≤ 600 := by have := HLL.out; omega
                cases hFt : F (t : Int) with
                | none =>
                  rw [hFt] at HKT
                  simp only [Option.isSome_none, Option.getD_none] at HKT
                  rw [HKT.2] at cSt
                  have HGR : Hid (Bi N es (upF F (t : Int) ob) (l ++ [(t : Int)]) (fun y => Dq es l n i y ∨ y = X)) := by
                    have h := HBI.out.grow HXM.out HOX.out HBB.out (by rw [HK.out.2.2.1]; exact hFt)
                    rw [HK.out.2.2.1, HOB.out] at h
                    exact h
                  have HKG : Hid (Kept (upF F (t : Int) ob) (rs.set t ⟨ad, cp1, ob⟩) (ss.set t true)) := HKE.out.grow t ad cp1 ob
                  have cRt := (cellOf bR3 t).trans (show _ = some (Rw.val rs[t]) by simp [htL])
                  have fS3 : W3.frozen? ⟨w1.heap.size + 1, t, none⟩ = false := by simp [World.frozen?, bS3]
                  have fR3 : W3.frozen? ⟨w1.heap.size, t, none⟩ = false := by simp [World.frozen?, bR3]
                  have hne1 : wr.heap.size ≠ w1.heap.size := by omega
                  have hne2 : wr.heap.size ≠ w1.heap.size + 1 := by omega
                  clear HKT hFt HBI
                  go_upto_region 28 with fail
                  obtain ⟨W4, hW4⟩ : ∃ W4, (W3.setCell ⟨w1.heap.size + 1, t, none⟩ (.bool true)).setCell ⟨w1.heap.size, t, none⟩ (.slice ad rl.length cp1) = W4 := ⟨_, rfl⟩
                  have hz4 : W4.heap.size = W3.heap.size := by rw [← hW4]; simp only [World.setCell, Array.size_modify]
                  have B4 : Below w1.heap.size w1 W4 := by
                    rw [← hW4]
                    exact (HBY3.out.setCell (p := ⟨w1.heap.size + 1, t, none⟩) (Nat.le_succ _) _).setCell (p := ⟨w1.heap.size, t, none⟩) (Nat.le_refl _) _
                  have bR4 : W4.heap[w1.heap.size]? = some (.cells ((rs.set t ⟨ad, cp1, ob⟩).map Rw.val).toArray 32 (0, 0)) := by
                    rw [← hW4]
                    have h := setBox (i := t) ((Below.heap_setCell W3 ⟨w1.heap.size + 1, t, none⟩ (.bool true) w1.heap.size (by simp)).trans bR3) (Rw.val ⟨ad, cp1, ob⟩)
                    rw [rows_set] at h
                    simpa only [Rw.val, hobl] using h
                  have bS4 : W4.heap[w1.heap.size + 1]? = some (.cells ((ss.set t true).map Value.bool).toArray 4 (0, 0)) := by
                    rw [← hW4]
                    refine (Below.heap_setCell _ ⟨w1.heap.size, t, none⟩ _ (w1.heap.size + 1) (by simp)).trans ?_
                    have h := setBox (i := t) bS3 (Value.bool true)
                    rwa [bools_set] at h
                  have hat4 : ∀ j, j ≠ w1.heap.size → j ≠ w1.heap.size + 1 → W4.heap[j]? = W3.heap[j]? := fun j h1 h2 => by
                    rw [← hW4]
                    exact (Below.heap_setCell _ ⟨w1.heap.size, t, none⟩ _ j h1).trans (Below.heap_setCell W3 ⟨w1.heap.size + 1, t, none⟩ (.bool true) j h2)
                  have hown4 := owns_at HOW3.out (hat4 g (by omega) (by omega))
                  have bE4 := (hat4 wr.heap.size hne1 hne2).trans bE3
                  have HA4 : Hid (RowsApart W4 w1.heap.size (w1.heap.size + 1) (some g) (rs.set t ⟨ad, cp1, ob⟩)) := by
                    have h : RowsApart W4 w1.heap.size (w1.heap.size + 1) (some g) rs := by rw [← hW4]; exact (HA3'.out.set (.inr rfl) _).set (.inl rfl) _
                    refine h.put ⟨?_, fun a ha => ?_⟩ t
                    · have hx : SlAt 1 icell W3.heap.size W4 ad cp1 ob := by
                        rw [← hW4]
                        exact (hS3.set (fun a ha => by have := hA3 a ha; omega) _).set (fun a ha => by have := hA3 a ha; omega) _
                      exact hx.mono (Nat.le_of_eq hz4.symm)
                    · have h1 := hA3 a ha
                      have h2 := hlt3 a ha
                      exact ⟨by rw [hz4]; exact h2, by omega, by omega, fun e => by injection e with e; omega⟩
                  obtain ⟨f0, f1, -⟩ := fifteen bE4
                  rw [hW4]
                  obtain ⟨vL, hvL⟩ : ∃ vL, Value.slice (some ⟨g, 0, none⟩) l.length cp = vL := ⟨_, rfl⟩
                  have HVB : Hid (vL.ownBlock = some g) := by show _ = _; rw [← hvL]; rfl
                  rw [hvL] at hown4 ⊢
                  have hown4a := hown4.alloc (.cells #[.int .i64 (t : Int)] 3)
                  have hEW4 : wr.heap.size < W4.heap.size := by omega
                  have hRW4 : w1.heap.size < W4.heap.size := by omega
                  have hSW4 : w1.heap.size + 1 < W4.heap.size := by omega
                  have HA5 := hid (HA4.out.below ((Below.refl _ W4).al le_rfl' (.cells #[.int .i64 (t : Int)] 3)))
                  have bR5 := (Below.heap_alloc W4 (.cells #[.int .i64 (t : Int)] 3) _ hRW4).trans bR4
                  have bS5 := (Below.heap_alloc W4 (.cells #[.int .i64 (t : Int)] 3) _ hSW4).trans bS4
                  have B5 := B4.al le_rfl' (.cells #[.int .i64 (t : Int)] 3)
                  have hbs : w1.heap.size + 2 ≤ W4.heap.size := by omega
                  have HZ4 := hid hz4
                  clear hW4 hz4 hat4 bR4 bS4 hown4 hvL bE4 e0 e1 e2 e3 cSt cRt fS3 fR3 bE3 bR3 bS3 hgW3 hEW3
                  go_wp2_with (at_builtin; refine wpList_append_lies _ rfl _ _ 32 rfl (w1.heap.size + 2) 3 i0 (.int .i64 0) 1 8 Try.underlying32 hi hz0 hz1 hz2 rfl (by decide) vL l.length (ints l) rfl hown4a ⟨W4.heap.size, 0, none⟩ 1 1 [.int .i64 (t : Int)] rfl rfl (World.news_of_block (cs := #[.int .i64 (t : Int)]) (t := 3) (fr := (0, 0)) (heapNew _ _)) (by simp [Value.oneCell']) (by decide) (by unfold maxLen; omega) (by omega) (by simp; omega) (W4.heap.size + 1) (by simp) ?_; intro g2 cap2 w7 hown7 hgrow hat7 hlt7)
                  rw [HVB.out] at hgrow hat7
                  have hs7 := hgrow.size
                  have HA7 := hid (HA5.out.grown hgrow hs7 (by
                    rcases hat7 with h | h
                    · exact .inl (by injection h with h; exact h.symm)
                    · right; rw [World.size_alloc, h]; exact Nat.le_refl _))
                  have bR7 := (hgrow.block w1.heap.size (by rw [World.size_alloc]; omega) (by intro e; injection e with e; omega)).trans bR5
                  have bS7 := (hgrow.block (w1.heap.size + 1) (by rw [World.size_alloc]; omega) (by intro e; injection e with e; omega)).trans bS5
                  have B7 := B5.grown hgrow B5.size (fun j hj => by injection hj with hj; omega)
                  go_roundw
                  case rel =>
                    refine ⟨i + 1, upF F (t : Int) ob, l ++ [(t : Int)], rs.set t ⟨ad, cp1, ob⟩, ss.set t true, g2, cap2, by go_num, ⟨by omega, by simp; omega⟩, by rw [List.length_append]; rfl, by simpa [ints] using hown7, bR7, bS7, by rw [List.length_set]; exact hlr, by rw [List.length_set]; exact hls, HA7, HKG, ?_, ?_, B7⟩
                    · exact HGR.out.weak (fun y _ h => Dq.step HQ.out (Dq.grow hit h))
                    · intro z hz
                      rcases List.mem_append.1 hz with hz | hz
                      · exact HRG.out z hz
                      · rw [List.mem_singleton.1 hz]; exact ⟨ht0, ht1⟩
                  case measure => simp [intOf]; omega
                | some o2 =>
                  rw [hFt] at HKT
                  simp only [Option.isSome_some, Option.getD_some] at HKT
                  obtain ⟨hk1, hk2⟩ := HKT
                  rw [hk2] at cSt
                  have hxT := HA3'.out rs[t] (List.getElem_mem htL)
                  have cRt := (cellOf bR3 t).trans (show _ = some (Rw.val rs[t]) by simp [htL])
                  rcases hrt : rs[t] with ⟨tad, tcp, tl⟩
                  rw [hrt] at hk1 hxT cRt
                  simp only [Rw.val] at hk1 hxT cRt
                  subst hk1
                  have hqs := same_any ob tl ad tad cp1 tcp _ _ W3 hS3 hxT.1
                  unfold SameBack at hqs
                  rw [hobl] at hqs
                  clear hrt hxT hk2
                  by_cases he : ob = tl
                  · have HMO : Hid (Bi N es F l (fun y => Dq es l n i y ∨ y = X)) := HBI.out.more HOX.out HBB.out (by rw [HK.out.2.2.1, HOB.out, he]; exact hFt)
                    simp only [decide_eq_true he] at hqs
                    have HBR := hid bR3
                    have HBS := hid bS3
                    clear he hFt HBI
                    go_wp2_with (go_at_call 23; (with_reducible refine hqs.mono ?_); rintro r w4 ⟨rfl, nq4, rfl⟩)
                    go_roundw
                    case rel => exact ⟨i + 1, F, l, rs, ss, g, cp, by go_num, ⟨by omega, hit⟩, rfl, owns_below HOW3.out (below_drewN (Below.refl _ _) _), HBR.out, HBS.out, hlr, hls, HA3'.out.below (below_drewN (Below.refl _ _) _), HKE, HMO.out.weak (fun y _ h => Dq.step HQ.out h), HRG, below_drewN HBY3.out _⟩
                    case measure => simp [intOf]; omega
                  · have HNO : Hid (heldR ⟨name, star, (L : Int), some ⟨eb, eoff, none⟩, ecap, es, gad, gl, gc⟩ (N : Int) = none) := by
                      show _ = _
                      rw [HR.out, heldV_none (HBI.out.clash HXM.out HOX.out (o' := tl) (by rw [HK.out.2.2.1]; exact hFt) (by rw [HOB.out]; exact fun e => he e.symm))]
                    simp only [decide_eq_false he] at hqs
                    clear he hFt HBI
                    go_wp2_with (go_at_call 23; (with_reducible refine hqs.mono ?_); rintro r w4 ⟨rfl, nq4, rfl⟩)
                    go_ret2
                    exact .inr ⟨HNO.out, rfl, below_drewN (B2.tr le_rfl' HBY3.out) _⟩
              · by_cases h5 : kind = 5
                · subst h5
                  obtain ⟨hm0, hm1⟩ := HMN.out (.inr rfl)
                  obtain ⟨m, rfl⟩ : ∃ m : Nat, mon = (m : Int) := ⟨mon.toNat, by omega⟩
                  have hmr : m < rl.length := by have := HRN.out; omega
                  obtain ⟨g1, cp1, rfl, hb1', hl1', hc1', cm, fm, hset⟩ := own_set hown2 hmr
                  have hzb := HRB.out _ (List.getElem_mem hmr)
                  obtain ⟨ob, hob⟩ : ∃ ob, ob = rl.set m (rl[m] - 1) := ⟨_, rfl⟩
                  have HOB : Hid (behL rl X = ob) := by
                    show _ = _
                    obtain ⟨k1, k2, _⟩ := HK.out
                    unfold behL
                    rw [if_neg (by rw [k1]; decide), if_pos k1, k2, Int.toNat_natCast, hob]
                    simp [hmr]
                  have HBD : Hid (behB rl X = decide (1 ≤ rl[m])) := by
                    show _ = _
                    obtain ⟨k1, k2, _⟩ := HK.out
                    unfold behB
                    rw [if_pos k1, k2, Int.toNat_natCast]
                    simp [hmr]
                  have hset2 := hset (rl[m] - 1)
                  rw [← hob] at hset2
                  have hobl : ob.length = rl.length := by rw [hob, List.length_set]
                  clear hset hob
                  obtain ⟨z, hz⟩ : ∃ z, rl[m] = z := ⟨_, rfl⟩
                  rw [hz] at hzb cm hset2 HBD
                  obtain ⟨hzb0, hzb1⟩ := hzb
                  clear hz hown2
                  by_cases hz1'' : 1 ≤ z
                  · have hd5 : decide (z - 1 < 0) = false := by simp; omega
                    have HBB : Hid (behB rl X = true) := by show _ = _; rw [HBD.out]; simpa using hz1''
                    go_upto_region 23 with fail
                    obtain ⟨W3, hW3⟩ : ∃ W3, w2.setCell ⟨g1, m, none⟩ (.int .i64 (z - 1)) = W3 := ⟨_, rfl⟩
                    have hB3 : Below W1.heap.size W1 W3 := by rw [← hW3]; exact B2'.setCell (p := ⟨g1, m, none⟩) hb1' _
                    rw [hW3] at hset2 ⊢
                    obtain ⟨ad, had⟩ : ∃ ad, (some ⟨g1, 0, none⟩ : Option Addr) = ad := ⟨_, rfl⟩
                    rw [← hobl] at hset2
                    obtain ⟨_, _, hv3, hS3, hA3⟩ := sl_own2 hset2
                    have hlt3 : ∀ a, ad = some a → a.block < W3.heap.size := by rintro a rfl; injection had with had; subst had; exact (hset2.lt g1 rfl).2
                    injection hv3 with hv3 _ hv4
                    subst hv3 hv4
                    rw [had] at hS3 hA3 ⊢
                    clear hW3 hset2 had cm fm hb1' hl1' hc1' hzb0 hzb1 hz1'' hd5
                    have hEW3 : wr.heap.size < W3.heap.size := by have := hB3.size; omega
                    have bE3 := (hB3.block wr.heap.size hz1W).trans bE1
                    obtain ⟨e0, e1, e2, e3, -⟩ := fifteen bE3
                    have bR3 := (hB3.block w1.heap.size hRW1).trans bR1
                    have bS3 := (hB3.block (w1.heap.size + 1) hSW1).trans bS1
                    have HOW3 := hid (owns_below HOW1.out hB3)
                    have HA3' := hid (HA1.out.below hB3)
                    have HBY3 := hid (HBY1.out.tr le_rfl' hB3)
                    have HKT := HKE.out t htL htS
                    have cSt := (cellOf bS3 t).trans (show _ = some (Value.bool ss[t]) by simp [htS])
                    have hgW3 : g < W3.heap.size := by have := hB3.size; omega
                    have hg2 : w1.heap.size + 2 ≤ g := (HOW1.out.lt g rfl).1
                    have hl6 : l.length ≤ 600 := by have := HLL.out; omega
                    cases hFt : F (t : Int) with
                    | none =>
                      rw [hFt] at HKT
                      simp only [Option.isSome_none, Option.getD_none] at HKT
                      rw [HKT.2] at cSt
                      have HGR : Hid (Bi N es (upF F (t : Int) ob) (l ++ [(t : Int)]) (fun y => Dq es l n i y ∨ y = X)) := by
                        have h := HBI.out.grow HXM.out HOX.out HBB.out (by rw [HK.out.2.2.1]; exact hFt)
                        rw [HK.out.2.2.1, HOB.out] at h
                        exact h
                      have HKG : Hid (Kept (upF F (t : Int) ob) (rs.set t ⟨ad, cp1, ob⟩) (ss.set t true)) := HKE.out.grow t ad cp1 ob
                      have cRt := (cellOf bR3 t).trans (show _ = some (Rw.val rs[t]) by simp [htL])
                      have fS3 : W3.frozen? ⟨w1.heap.size + 1, t, none⟩ = false := by simp [World.frozen?, bS3]
                      have fR3 : W3.frozen? ⟨w1.heap.size, t, none⟩ = false := by simp [World.frozen?, bR3]
                      have hne1 : wr.heap.size ≠ w1.heap.size := by omega
                      have hne2 : wr.heap.size ≠ w1.heap.size + 1 := by omega
                      clear HKT hFt HBI
                      go_upto_region 28 with fail
                      obtain ⟨W4, hW4⟩ : ∃ W4, (W3.setCell ⟨w1.heap.size + 1, t, none⟩ (.bool true)).setCell ⟨w1.heap.size, t, none⟩ (.slice ad rl.length cp1) = W4 := ⟨_, rfl⟩
                      have hz4 : W4.heap.size = W3.heap.size := by rw [← hW4]; simp only [World.setCell, Array.size_modify]
                      have B4 : Below w1.heap.size w1 W4 := by
                        rw [← hW4]
                        exact (HBY3.out.setCell (p := ⟨w1.heap.size + 1, t, none⟩) (Nat.le_succ _) _).setCell (p := ⟨w1.heap.size, t, none⟩) (Nat.le_refl _) _
                      have bR4 : W4.heap[w1.heap.size]? = some (.cells ((rs.set t ⟨ad, cp1, ob⟩).map Rw.val).toArray 32 (0, 0)) := by
                        rw [← hW4]
                        have h := setBox (i := t) ((Below.heap_setCell W3 ⟨w1.heap.size + 1, t, none⟩ (.bool true) w1.heap.size (by simp)).trans bR3) (Rw.val ⟨ad, cp1, ob⟩)
                        rw [rows_set] at h
                        simpa only [Rw.val, hobl] using h
                      have bS4 : W4.heap[w1.heap.size + 1]? = some (.cells ((ss.set t true).map Value.bool).toArray 4 (0, 0)) := by
                        rw [← hW4]
                        refine (Below.heap_setCell _ ⟨w1.heap.size, t, none⟩ _ (w1.heap.size + 1) (by simp)).trans ?_
                        have h := setBox (i := t) bS3 (Value.bool true)
                        rwa [bools_set] at h
                      have hat4 : ∀ j, j ≠ w1.heap.size → j ≠ w1.heap.size + 1 → W4.heap[j]? = W3.heap[j]? := fun j h1 h2 => by
                        rw [← hW4]
                        exact (Below.heap_setCell _ ⟨w1.heap.size, t, none⟩ _ j h1).trans (Below.heap_setCell W3 ⟨w1.heap.size + 1, t, none⟩ (.bool true) j h2)
                      have hown4 := owns_at HOW3.out (hat4 g (by omega) (by omega))
                      have bE4 := (hat4 wr.heap.size hne1 hne2).trans bE3
                      have HA4 : Hid (RowsApart W4 w1.heap.size (w1.heap.size + 1) (some g) (rs.set t ⟨ad, cp1, ob⟩)) := by
                        have h : RowsApart W4 w1.heap.size (w1.heap.size + 1) (some g) rs := by rw [← hW4]; exact (HA3'.out.set (.inr rfl) _).set (.inl rfl) _
                        refine h.put ⟨?_, fun a ha => ?_⟩ t
                        · have hx : SlAt 1 icell W3.heap.size W4 ad cp1 ob := by
                            rw [← hW4]
                            exact (hS3.set (fun a ha => by have := hA3 a ha; omega) _).set (fun a ha => by have := hA3 a ha; omega) _
                          exact hx.mono (Nat.le_of_eq hz4.symm)
                        · have h1 := hA3 a ha
                          have h2 := hlt3 a ha
                          exact ⟨by rw [hz4]; exact h2, by omega, by omega, fun e => by injection e with e; omega⟩
                      obtain ⟨f0, f1, -⟩ := fifteen bE4
                      rw [hW4]
                      obtain ⟨vL, hvL⟩ : ∃ vL, Value.slice (some ⟨g, 0, none⟩) l.length cp = vL := ⟨_, rfl⟩
                      have HVB : Hid (vL.ownBlock = some g) := by show _ = _; rw [← hvL]; rfl
                      rw [hvL] at hown4 ⊢
                      have hown4a := hown4.alloc (.cells #[.int .i64 (t : Int)] 3)
                      have hEW4 : wr.heap.size < W4.heap.size := by omega
                      have hRW4 : w1.heap.size < W4.heap.size := by omega
                      have hSW4 : w1.heap.size + 1 < W4.heap.size := by omega
                      have HA5 := hid (HA4.out.below ((Below.refl _ W4).al le_rfl' (.cells #[.int .i64 (t : Int)] 3)))
                      have bR5 := (Below.heap_alloc W4 (.cells #[.int .i64 (t : Int)] 3) _ hRW4).trans bR4
                      have bS5 := (Below.heap_alloc W4 (.cells #[.int .i64 (t : Int)] 3) _ hSW4).trans bS4
                      have B5 := B4.al le_rfl' (.cells #[.int .i64 (t : Int)] 3)
                      have hbs : w1.heap.size + 2 ≤ W4.heap.size := by omega
                      have HZ4 := hid hz4
                      clear hW4 hz4 hat4 bR4 bS4 hown4 hvL bE4 e0 e1 e2 e3 cSt cRt fS3 fR3 bE3 bR3 bS3 hgW3 hEW3
                      go_wp2_with (at_builtin; refine wpList_append_lies _ rfl _ _ 32 rfl (w1.heap.size + 2) 3 i0 (.int .i64 0) 1 8 Try.underlying32 hi hz0 hz1 hz2 rfl (by decide) vL l.length (ints l) rfl hown4a ⟨W4.heap.size, 0, none⟩ 1 1 [.int .i64 (t : Int)] rfl rfl (World.news_of_block (cs := #[.int .i64 (t : Int)]) (t := 3) (fr := (0, 0)) (heapNew _ _)) (by simp [Value.oneCell']) (by decide) (by unfold maxLen; omega) (by omega) (by simp; omega) (W4.heap.size + 1) (by simp) ?_; intro g2 cap2 w7 hown7 hgrow hat7 hlt7)
                      rw [HVB.out] at hgrow hat7
                      have hs7 := hgrow.size
                      have HA7 := hid (HA5.out.grown hgrow hs7 (by
                        rcases hat7 with h | h
                        · exact .inl (by injection h with h; exact h.symm)
                        · right; rw [World.size_alloc, h]; exact Nat.le_refl _))
                      have bR7 := (hgrow.block w1.heap.size (by rw [World.size_alloc]; omega) (by intro e; injection e with e; omega)).trans bR5
                      have bS7 := (hgrow.block (w1.heap.size + 1) (by rw [World.size_alloc]; omega) (by intro e; injection e with e; omega)).trans bS5
                      have B7 := B5.grown hgrow B5.size (fun j hj => by injection hj with hj; omega)
                      go_roundw
                      case rel =>
                        refine ⟨i + 1, upF F (t : Int) ob, l ++ [(t : Int)], rs.set t ⟨ad, cp1, ob⟩, ss.set t true, g2, cap2, by go_num, ⟨by omega, by simp; omega⟩, by rw [List.length_append]; rfl, by simpa [ints] using hown7, bR7, bS7, by rw [List.length_set]; exact hlr, by rw [List.length_set]; exact hls, HA7, HKG, ?_, ?_, B7⟩
                        · exact HGR.out.weak (fun y _ h => Dq.step HQ.out (Dq.grow hit h))
                        · intro z hz
                          rcases List.mem_append.1 hz with hz | hz
                          · exact HRG.out z hz
                          · rw [List.mem_singleton.1 hz]; exact ⟨ht0, ht1⟩
                      case measure => simp [intOf]; omega
                    | some o2 =>
                      rw [hFt] at HKT
                      simp only [Option.isSome_some, Option.getD_some] at HKT
                      obtain ⟨hk1, hk2⟩ := HKT
                      rw [hk2] at cSt
                      have hxT := HA3'.out rs[t] (List.getElem_mem htL)
                      have cRt := (cellOf bR3 t).trans (show _ = some (Rw.val rs[t]) by simp [htL])
                      rcases hrt : rs[t] with ⟨tad, tcp, tl⟩
                      rw [hrt] at hk1 hxT cRt
                      simp only [Rw.val] at hk1 hxT cRt
                      subst hk1
                      have hqs := same_any ob tl ad tad cp1 tcp _ _ W3 hS3 hxT.1
                      unfold SameBack at hqs
                      rw [hobl] at hqs
                      clear hrt hxT hk2
                      by_cases he : ob = tl
                      · have HMO : Hid (Bi N es F l (fun y => Dq es l n i y ∨ y = X)) := HBI.out.more HOX.out HBB.out (by rw [HK.out.2.2.1, HOB.out, he]; exact hFt)
                        simp only [decide_eq_true he] at hqs
                        have HBR := hid bR3
                        have HBS := hid bS3
                        clear he hFt HBI
                        go_wp2_with (go_at_call 23; (with_reducible refine hqs.mono ?_); rintro r w4 ⟨rfl, nq4, rfl⟩)
                        go_roundw
                        case rel => exact ⟨i + 1, F, l, rs, ss, g, cp, by go_num, ⟨by omega, hit⟩, rfl, owns_below HOW3.out (below_drewN (Below.refl _ _) _), HBR.out, HBS.out, hlr, hls, HA3'.out.below (below_drewN (Below.refl _ _) _), HKE, HMO.out.weak (fun y _ h => Dq.step HQ.out h), HRG, below_drewN HBY3.out _⟩
                        case measure => simp [intOf]; omega
                      · have HNO : Hid (heldR ⟨name, star, (L : Int), some ⟨eb, eoff, none⟩, ecap, es, gad, gl, gc⟩ (N : Int) = none) := by
                          show _ = _
                          rw [HR.out, heldV_none (HBI.out.clash HXM.out HOX.out (o' := tl) (by rw [HK.out.2.2.1]; exact hFt) (by rw [HOB.out]; exact fun e => he e.symm))]
                        simp only [decide_eq_false he] at hqs
                        clear he hFt HBI
                        go_wp2_with (go_at_call 23; (with_reducible refine hqs.mono ?_); rintro r w4 ⟨rfl, nq4, rfl⟩)
                        go_ret2
                        exact .inr ⟨HNO.out, rfl, below_drewN (B2.tr le_rfl' HBY3.out) _⟩
                  · have hd5 : decide (z - 1 < 0) = true := by simp; omega
                    have HNO : Hid (heldR ⟨name, star, (L : Int), some ⟨eb, eoff, none⟩, ecap, es, gad, gl, gc⟩ (N : Int) = none) := by
                      show _ = _
                      rw [HR.out, heldV_none (HBI.out.bad HXM.out HOX.out (by rw [HBD.out]; simpa using hz1''))]
                    clear HBI hz1''
                    go_wp2_with fail
                    go_ret2
                    exact .inr ⟨HNO.out, rfl, (B2.tr le_rfl' HBY1.out).tr le_rfl' (B2'.setCell (p := ⟨g1, m, none⟩) hb1' _)⟩
                · have HOB : Hid (behL rl X = rl) := by
                    show _ = _
                    obtain ⟨k1, _⟩ := HK.out
                    unfold behL
                    rw [if_neg (by rw [k1]; exact h4), if_neg (by rw [k1]; exact h5)]
                  have HBB : Hid (behB rl X = true) := by
                    show _ = _
                    obtain ⟨k1, _⟩ := HK.out
                    unfold behB
                    rw [if_neg (by rw [k1]; exact h5)]
                  have hlt0 := fun g' (h : v1.ownBlock = some g') => (hown2.lt g' h).2
                  obtain ⟨ad, cp1, rfl, hS3, hA3⟩ := sl_own2 hown2
                  have hlt3 : ∀ a, ad = some a → a.block < w2.heap.size := by rintro a rfl; exact hlt0 a.block rfl
                  clear hlt0 hown2
                  have hd4 : (kind == 4) = false := by simpa using h4
                  have hd5 : (kind == 5) = false := by simpa using h5
                  have hd6 : decide (kind = 4) = false := by simpa using h4
                  have hd7 : decide (kind = 5) = false := by simpa using h5
                  go_upto_region 23 with fail
                  obtain ⟨W3, hW3⟩ : ∃ W3, w2 = W3 := ⟨_, rfl⟩
                  have hB3 := B2'
                  obtain ⟨ob, hob⟩ : ∃ ob, rl = ob := ⟨_, rfl⟩
                  have hobl : ob.length = rl.length := by rw [hob]
                  rw [hW3] at hS3 hlt3 hB3 ⊢
                  have HOB2 : Hid (behL rl X = ob) := HOB.out.trans hob
                  rw [hob] at hS3
                  clear HOB
                  have HOB := HOB2
                  clear hW3 hob HOB2 hd4 hd5 hd6 hd7
                  have hEW3 : wr.heap.size < W3.heap.size := by have := hB3.size; omega
                  have bE3 := (hB3.block wr.heap.size hz1W).trans bE1
                  obtain ⟨e0, e1, e2, e3, -⟩ := fifteen bE3
                  have bR3 := (hB3.block w1.heap.size hRW1).trans bR1
                  have bS3 := (hB3.block (w1.heap.size + 1) hSW1).trans bS1
                  have HOW3 := hid (owns_below HOW1.out hB3)
                  have HA3' := hid (HA1.out.below hB3)
                  have HBY3 := hid (HBY1.out.tr le_rfl' hB3)
                  have HKT := HKE.out t htL htS
                  have cSt := (cellOf bS3 t).trans (show _ = some (Value.bool ss[t]) by simp [htS])
                  have hgW3 : g < W3.heap.size := by have := hB3.size; omega
                  have hg2 : w1.heap.size + 2 ≤ g := (HOW1.out.lt g rfl).1
                  have hl6 : l.length ≤ 600 := by have := HLL.out; omega
                  cases hFt : F (t : Int) with
                  | none =>
                    rw [hFt] at HKT
                    simp only [Option.isSome_none, Option.getD_none] at HKT
                    rw [HKT.2] at cSt
                    have HGR : Hid (Bi N es (upF F (t : Int) ob) (l ++ [(t : Int)]) (fun y => Dq es l n i y ∨ y = X)) := by
                      have h := HBI.out.grow HXM.out HOX.out HBB.out (by rw [HK.out.2.2.1]; exact hFt)
                      rw [HK.out.2.2.1, HOB.out] at h
                      exact h
                    have HKG : Hid (Kept (upF F (t : Int) ob) (rs.set t ⟨ad, cp1, ob⟩) (ss.set t true)) := HKE.out.grow t ad cp1 ob
                    have cRt := (cellOf bR3 t).trans (show _ = some (Rw.val rs[t]) by simp [htL])
                    have fS3 : W3.frozen? ⟨w1.heap.size + 1, t, none⟩ = false := by simp [World.frozen?, bS3]
                    have fR3 : W3.frozen? ⟨w1.heap.size, t, none⟩ = false := by simp [World.frozen?, bR3]
                    have hne1 : wr.heap.size ≠ w1.heap.size := by omega
                    have hne2 : wr.heap.size ≠ w1.heap.size + 1 := by omega
                    clear HKT hFt HBI
                    go_upto_region 28 with fail
                    obtain ⟨W4, hW4⟩ : ∃ W4, (W3.setCell ⟨w1.heap.size + 1, t, none⟩ (.bool true)).setCell ⟨w1.heap.size, t, none⟩ (.slice ad rl.length cp1) = W4 := ⟨_, rfl⟩
                    have hz4 : W4.heap.size = W3.heap.size := by rw [← hW4]; simp only [World.setCell, Array.size_modify]
                    have B4 : Below w1.heap.size w1 W4 := by
                      rw [← hW4]
                      exact (HBY3.out.setCell (p := ⟨w1.heap.size + 1, t, none⟩) (Nat.le_succ _) _).setCell (p := ⟨w1.heap.size, t, none⟩) (Nat.le_refl _) _
                    have bR4 : W4.heap[w1.heap.size]? = some (.cells ((rs.set t ⟨ad, cp1, ob⟩).map Rw.val).toArray 32 (0, 0)) := by
                      rw [← hW4]
                      have h := setBox (i := t) ((Below.heap_setCell W3 ⟨w1.heap.size + 1, t, none⟩ (.bool true) w1.heap.size (by simp)).trans bR3) (Rw.val ⟨ad, cp1, ob⟩)
                      rw [rows_set] at h
                      simpa only [Rw.val, hobl] using h
                    have bS4 : W4.heap[w1.heap.size + 1]? = some (.cells ((ss.set t true).map Value.bool).toArray 4 (0, 0)) := by
                      rw [← hW4]
                      refine (Below.heap_setCell _ ⟨w1.heap.size, t, none⟩ _ (w1.heap.size + 1) (by simp)).trans ?_
                      have h := setBox (i := t) bS3 (Value.bool true)
                      rwa [bools_set] at h
                    have hat4 : ∀ j, j ≠ w1.heap.size → j ≠ w1.heap.size + 1 → W4.heap[j]? = W3.heap[j]? := fun j h1 h2 => by
                      rw [← hW4]
                      exact (Below.heap_setCell _ ⟨w1.heap.size, t, none⟩ _ j h1).trans (Below.heap_setCell W3 ⟨w1.heap.size + 1, t, none⟩ (.bool true) j h2)
                    have hown4 := owns_at HOW3.out (hat4 g (by omega) (by omega))
                    have bE4 := (hat4 wr.heap.size hne1 hne2).trans bE3
                    have HA4 : Hid (RowsApart W4 w1.heap.size (w1.heap.size + 1) (some g) (rs.set t ⟨ad, cp1, ob⟩)) := by
                      have h : RowsApart W4 w1.heap.size (w1.heap.size + 1) (some g) rs := by rw [← hW4]; exact (HA3'.out.set (.inr rfl) _).set (.inl rfl) _
                      refine h.put ⟨?_, fun a ha => ?_⟩ t
                      · have hx : SlAt 1 icell W3.heap.size W4 ad cp1 ob := by
                          rw [← hW4]
                          exact (hS3.set (fun a ha => by have := hA3 a ha; omega) _).set (fun a ha => by have := hA3 a ha; omega) _
                        exact hx.mono (Nat.le_of_eq hz4.symm)
                      · have h1 := hA3 a ha
                        have h2 := hlt3 a ha
                        exact ⟨by rw [hz4]; exact h2, by omega, by omega, fun e => by injection e with e; omega⟩
                    obtain ⟨f0, f1, -⟩ := fifteen bE4
                    rw [hW4]
                    obtain ⟨vL, hvL⟩ : ∃ vL, Value.slice (some ⟨g, 0, none⟩) l.length cp = vL := ⟨_, rfl⟩
                    have HVB : Hid (vL.ownBlock = some g) := by show _ = _; rw [← hvL]; rfl
                    rw [hvL] at hown4 ⊢
                    have hown4a := hown4.alloc (.cells #[.int .i64 (t : Int)] 3)
                    have hEW4 : wr.heap.size < W4.heap.size := by omega
                    have hRW4 : w1.heap.size < W4.heap.size := by omega
                    have hSW4 : w1.heap.size + 1 < W4.heap.size := by omega
                    have HA5 := hid (HA4.out.below ((Below.refl _ W4).al le_rfl' (.cells #[.int .i64 (t : Int)] 3)))
                    have bR5 := (Below.heap_alloc W4 (.cells #[.int .i64 (t : Int)] 3) _ hRW4).trans bR4
                    have bS5 := (Below.heap_alloc W4 (.cells #[.int .i64 (t : Int)] 3) _ hSW4).trans bS4
                    have B5 := B4.al le_rfl' (.cells #[.int .i64 (t : Int)] 3)
                    have hbs : w1.heap.size + 2 ≤ W4.heap.size := by omega
                    have HZ4 := hid hz4
                    clear hW4 hz4 hat4 bR4 bS4 hown4 hvL bE4 e0 e1 e2 e3 cSt cRt fS3 fR3 bE3 bR3 bS3 hgW3 hEW3
                    go_wp2_with (at_builtin; refine wpList_append_lies _ rfl _ _ 32 rfl (w1.heap.size + 2) 3 i0 (.int .i64 0) 1 8 Try.underlying32 hi hz0 hz1 hz2 rfl (by decide) vL l.length (ints l) rfl hown4a ⟨W4.heap.size, 0, none⟩ 1 1 [.int .i64 (t : Int)] rfl rfl (World.news_of_block (cs := #[.int .i64 (t : Int)]) (t := 3) (fr := (0, 0)) (heapNew _ _)) (by simp [Value.oneCell']) (by decide) (by unfold maxLen; omega) (by omega) (by simp; omega) (W4.heap.size + 1) (by simp) ?_; intro g2 cap2 w7 hown7 hgrow hat7 hlt7)
                    rw [HVB.out] at hgrow hat7
                    have hs7 := hgrow.size
                    have HA7 := hid (HA5.out.grown hgrow hs7 (by
                      rcases hat7 with h | h
                      · exact .inl (by injection h with h; exact h.symm)
                      · right; rw [World.size_alloc, h]; exact Nat.le_refl _))
                    have bR7 := (hgrow.block w1.heap.size (by rw [World.size_alloc]; omega) (by intro e; injection e with e; omega)).trans bR5
                    have bS7 := (hgrow.block (w1.heap.size + 1) (by rw [World.size_alloc]; omega) (by intro e; injection e with e; omega)).trans bS5
                    have B7 := B5.grown hgrow B5.size (fun j hj => by injection hj with hj; omega)
                    go_roundw
                    case rel =>
                      refine ⟨i + 1, upF F (t : Int) ob, l ++ [(t : Int)], rs.set t ⟨ad, cp1, ob⟩, ss.set t true, g2, cap2, by go_num, ⟨by omega, by simp; omega⟩, by rw [List.length_append]; rfl, by simpa [ints] using hown7, bR7, bS7, by rw [List.length_set]; exact hlr, by rw [List.length_set]; exact hls, HA7, HKG, ?_, ?_, B7⟩
                      · exact HGR.out.weak (fun y _ h => Dq.step HQ.out (Dq.grow hit h))
                      · intro z hz
                        rcases List.mem_append.1 hz with hz | hz
                        · exact HRG.out z hz
                        · rw [List.mem_singleton.1 hz]; exact ⟨ht0, ht1⟩
                    case measure => simp [intOf]; omega
                  | some o2 =>
                    rw [hFt] at HKT
                    simp only [Option.isSome_some, Option.getD_some] at HKT
                    obtain ⟨hk1, hk2⟩ := HKT
                    rw [hk2] at cSt
                    have hxT := HA3'.out rs[t] (List.getElem_mem htL)
                    have cRt := (cellOf bR3 t).trans (show _ = some (Rw.val rs[t]) by simp [htL])
                    rcases hrt : rs[t] with ⟨tad, tcp, tl⟩
                    rw [hrt] at hk1 hxT cRt
                    simp only [Rw.val] at hk1 hxT cRt
                    subst hk1
                    have hqs := same_any ob tl ad tad cp1 tcp _ _ W3 hS3 hxT.1
                    unfold SameBack at hqs
                    rw [hobl] at hqs
                    clear hrt hxT hk2
                    by_cases he : ob = tl
                    · have HMO : Hid (Bi N es F l (fun y => Dq es l n i y ∨ y = X)) := HBI.out.more HOX.out HBB.out (by rw [HK.out.2.2.1, HOB.out, he]; exact hFt)
                      simp only [decide_eq_true he] at hqs
                      have HBR := hid bR3
                      have HBS := hid bS3
                      clear he hFt HBI
                      go_wp2_with (go_at_call 23; (with_reducible refine hqs.mono ?_); rintro r w4 ⟨rfl, nq4, rfl⟩)
                      go_roundw
                      case rel => exact ⟨i + 1, F, l, rs, ss, g, cp, by go_num, ⟨by omega, hit⟩, rfl, owns_below HOW3.out (below_drewN (Below.refl _ _) _), HBR.out, HBS.out, hlr, hls, HA3'.out.below (below_drewN (Below.refl _ _) _), HKE, HMO.out.weak (fun y _ h => Dq.step HQ.out h), HRG, below_drewN HBY3.out _⟩
                      case measure => simp [intOf]; omega
                    · have HNO : Hid (heldR ⟨name, star, (L : Int), some ⟨eb, eoff, none⟩, ecap, es, gad, gl, gc⟩ (N : Int) = none) := by
                        show _ = _
                        rw [HR.out, heldV_none (HBI.out.clash HXM.out HOX.out (o' := tl) (by rw [HK.out.2.2.1]; exact hFt) (by rw [HOB.out]; exact fun e => he e.symm))]
                      simp only [decide_eq_false he] at hqs
                      clear he hFt HBI
                      go_wp2_with (go_at_call 23; (with_reducible refine hqs.mono ?_); rintro r w4 ⟨rfl, nq4, rfl⟩)
                      go_ret2
                      exact .inr ⟨HNO.out, rfl, below_drewN (B2.tr le_rfl' HBY3.out) _⟩
            · have hd : (src != p) = true := by simpa using hsp
              have HN : Hid (Bi N es F l (Dq es l n (i + 1))) := HBI.out.weak (fun y _ h => h.skip HQ.out (by rw [HP.out]; intro e; exact hsp (Option.some.inj e).symm))
              have hyE : Below wr.heap.size wr W0 := hBE
              have hB5 := hby.tr le_rfl' hyE
              have HOW := hid (owns_below hown hyE)
              have HR5 := hid ((hyE.block w1.heap.size (by omega)).trans bR)
              have HS5 := hid ((hyE.block (w1.heap.size + 1) (Array.getElem?_eq_some_iff.1 bS).1).trans bS)
              have HA5 := hid (HAP.out.below hyE)
              clear hsp HBI hown bR bS HAP
              go_quiet (fail)
              go_wp2
              go_roundw
              case rel => exact ⟨i + 1, F, l, rs, ss, g, cp, by go_num, ⟨by omega, hit⟩, rfl, (owns_below HOW.out (below_drewN (Below.refl _ _) _)), HR5.out, HS5.out, hlr, hls, HA5.out.below (below_drewN (Below.refl _ _) _), HKE, HN, HRG, below_drewN hB5 _⟩
              case measure => simp [intOf]; omega
          · have hcd : decide ((i : Int) < (es.length : Int)) = false := by simp; omega
            have hlb := nodup_bound L l HBI.out.nodup (fun z hz => by have := HRG.out z hz; omega)
            have HN : Hid (Bi N es F l (fun x => ∃ j, j < n + 1 ∧ l[j]? = some x.src)) := HBI.out.weak (fun y hy h => Dq.next (by omega) hy h)
            have hn9 : n ≤ 600 := by omega
            have HLL := hid hlb
            clear HBI hlb
            go_wp2
            go_roundw
            case rel => exact ⟨n + 1, F, l, rs, ss, g, cp, by go_num, by omega, rfl, hown, bR, bS, hlr, hls, HAP, HKE, HN, HRG, hby⟩
            case measure => simp [intOf]; have := HLL.out; omega
      · have hid2 : decide ((n : Int) < (l.length : Int)) = false := by simp; omega
        have HL : Hid (Lst N es F) := HBI.out.end (fun x hx hm => by
          obtain ⟨j, hj, e⟩ := List.getElem_of_mem hm
          exact ⟨j, by omega, by rw [List.getElem?_eq_getElem hj, e]⟩)
        have HV : Hid (heldR ⟨name, star, (L : Int), ead, ecap, es, gad, gl, gc⟩ (N : Int) = some (rowsOf F L)) := by show _ = _; rw [HR.out, heldV_some HL.out]
        clear HBI HRG HL hlb
        go_wp2
        go_loopw [13] (fun i' wx => ∃ (k : Nat) (rs' : List Rw), i' = .int .i64 k ∧ k ≤ L ∧ wx.heap[w1.heap.size]? = some (.cells (rs'.map Rw.val).toArray 32 (0, 0)) ∧ rs'.length = L ∧ wx.heap[w1.heap.size + 1]? = some (.cells (ss.map Value.bool).toArray 4 (0, 0)) ∧ Hid (RowsApart wx w1.heap.size (w1.heap.size + 1) (some g) rs') ∧ Hid (Kept F rs' ss) ∧ Below w1.heap.size w1 wx)
          (fun i' _ => L - (intOf i').toNat)
        case atStart => exact ⟨0, rs, rfl, by omega, bR, hlr, bS, HAP, HKE, hby⟩
        case round =>
          clear bR bS hlr HAP HKE hby hown
          obtain ⟨k, rs', rfl, hk, bR, hlr, bS, HAP, HKE, hby⟩ := hrel
          have hzy := hby.size
          have hbFr := (hby.block w.heap.size (by omega)).trans bF1
          obtain ⟨f2, f3⟩ := FBox.cells hbFr
          by_cases hkL : k < L
          · have hkd : decide ((k : Int) < (L : Int)) = true := by simp; omega
            have hks : k < ss.length := by omega
            have cSk := (cellOf bS k).trans (show _ = some (Value.bool ss[k]) by simp [hks])
            cases hst : ss[k]
            · rw [hst] at cSk
              have hkr : k < rs'.length := by omega
              have cRk := (cellOf bR k).trans (show _ = some (Rw.val rs'[k]) by simp [hkr])
              have fRk : wr.frozen? ⟨w1.heap.size, k, none⟩ = false := by simp [World.frozen?, bR]
              have HKC := hid (HKE.out.clear hks hst)
              have hR2 := setBox (i := k) bR (Rw.val ⟨none, 0, []⟩)
              rw [rows_set] at hR2
              have HR2 := hid hR2
              have HS2 := hid ((Below.heap_setCell wr ⟨w1.heap.size, k, none⟩ (Rw.val ⟨none, 0, []⟩) (w1.heap.size + 1) (by simp)).trans bS)
              have HB2 := hid (hby.setCell (p := ⟨w1.heap.size, k, none⟩) (Nat.le_refl _) (Rw.val ⟨none, 0, []⟩))
              have HA2 := hid (((HAP.out.set (b := w1.heap.size) (i := k) (.inl rfl) (Rw.val ⟨none, 0, []⟩))).put (r := ⟨none, 0, []⟩) ⟨⟨Nat.le_refl _, by unfold maxLen; simp, .inl rfl⟩, fun a ha => by cases ha⟩ k)
              have HLR := hid hlr
              clear hR2 hst
              go_wp2
              go_roundw
              case rel => exact ⟨k + 1, rs'.set k ⟨none, 0, []⟩, by go_num, by omega, HR2.out, by rw [List.length_set]; exact HLR.out, HS2.out, HA2, HKC, HB2.out⟩
              case measure => simp [intOf]; omega
            · rw [hst] at cSk
              clear hst
              go_wp2
              go_roundw
              case rel => exact ⟨k + 1, rs', by go_num, by omega, bR, hlr, bS, HAP, HKE, hby⟩
              case measure => simp [intOf]; omega
          · have hkd : decide ((k : Int) < (L : Int)) = false := by simp; omega
            have HV2 : Hid (heldR ⟨name, star, (L : Int), ead, ecap, es, gad, gl, gc⟩ (N : Int) = some (rs'.map Rw.l)) := by
              show _ = _
              rw [HV.out, HKE.out.rows (by omega), hlr]
            have HLR := hid hlr
            have HBR := hid bR
            have hRlt := (Array.getElem?_eq_some_iff.1 bR).1
            clear hlr bR
            go_wp2
            go_ret2
            refine .inl ⟨some ⟨w1.heap.size, 0, none⟩, L, rs', HV2.out, by rw [HLR.out]; rfl, ⟨⟨by rw [HLR.out]; exact Nat.le_refl _, by unfold maxLen; omega, .inr ⟨_, 0, rfl, hRlt, fun j hj i hi => ?_⟩⟩, fun x hx => (HAP.out x hx).1⟩, B2.tr le_rfl' hby⟩
            obtain rfl : i = 0 := by omega
            rw [Nat.zero_add, Nat.mul_one, Nat.add_zero, cellOf HBR.out]
            simp [Rw.cells, hj]
end Go.Proofs.Ythdkgfmlihgceaa
