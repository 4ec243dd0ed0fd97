/-
  The document's Sections.
-/
import Derived.Test.YthdkgfmlihgceaaHdW
namespace Go.Proofs.Ythdkgfmlihgceaa
open Go.RowKit
/-- What Held tells, place by place. -/
theorem heldR_reach {f : Fl} {mons : Int} {H : List (List Int)} (h : heldR f mons = some H) : ∃ G, Lst mons.toNat f.es G ∧ H = rowsOf G f.locs.toNat := by
  unfold heldR at h
  split at h
  · unfold heldV at h
    split at h
    · rename_i hx
      exact ⟨_, hx.choose_spec, (Option.some.inj h).symm⟩
    · cases h
  · cases h
theorem row_reach {f : Fl} {mons : Int} {H : List (List Int)} (h : heldR f mons = some H) (k : Nat) (hk : k < H.length) : (Reach f.es (k : Int) → H[k].length = mons.toNat) ∧ (¬ Reach f.es (k : Int) → H[k] = []) := by
  obtain ⟨G, hG, rfl⟩ := heldR_reach h
  have e : (rowsOf G f.locs.toNat)[k] = (G (k : Int)).getD [] := by simp [rowsOf]
  rw [e]
  constructor
  · intro hr
    obtain ⟨o, ho, hl⟩ := hG.con.reach hr
    rw [ho]; exact hl
  · intro hr
    cases hg : G (k : Int) with
    | none => rfl
    | some o => exact absurd (hG.only _ (by rw [hg]; rfl)) hr
theorem idxI_none {α : Type} {p : α → Bool} {l : List α} (h : ∀ x ∈ l, p x = false) : ∀ i, idxI p l i = [] := by
  induction l with
  | nil => intro i; rfl
  | cons x l ih =>
    intro i
    rw [idxI, h x (by simp), ih (fun y hy => h y (by simp [hy]))]
    rfl
theorem sec_out {f : Fl} {mons mon : Int} {H : List (List Int)} (h : heldR f mons = some H) (hm : ¬ (0 ≤ mon ∧ mon < mons)) : secR f mons mon = [] := by
  unfold secR
  rw [h]
  obtain ⟨hr, hN⟩ := heldR_rows h
  refine idxI_none (fun r hr2 => ?_) 0
  unfold secT
  have : isPl mon r.length = false := by
    cases e : isPl mon (r.length : Int)
    · rfl
    · exfalso
      have := isPl_iff.1 e
      rcases (hr.row r hr2).1 with rfl | h3
      · simp at this; omega
      · exact hm ⟨this.1, by omega⟩
  rw [this]; rfl
set_option maxRecDepth 100000 in
set_option maxHeartbeats 16000000 in
theorem docSections_any (f : Fl) (mons mon : Int) (n₀ : Nat) (w : World) (hn : n₀ ≤ w.heap.size) (hf : f.Is n₀ w) (hes : f.es.length ≤ 1000000) :
    Calls Try.prog 12 #[f.val, .int .i64 mons, .int .i64 mon] w fun r w' => OwnBack (secR f mons mon) w w' r := by
  have hB1 := (Below.refl w.heap.size w).al le_rfl' (.cells f.cells.toArray 25)
  have hqH := docHeld_any f mons n₀ (w.alloc (.cells f.cells.toArray 25)) (by rw [World.size_alloc]; omega) (hf.below (hB1.mono hn)) hes
  cases hH : heldR f mons with
  | none =>
    have HSC : Hid (secR f mons mon = []) := by show _ = _; unfold secR; rw [hH]; rfl
    have hq : Calls Try.prog 8 #[f.val, .int .i64 mons] (w.alloc (.cells f.cells.toArray 25)) fun r w' => r = .returned (.tuple #[.slice none 0 0, .bool false]) ∧ Below (w.alloc (.cells f.cells.toArray 25)).heap.size (w.alloc (.cells f.cells.toArray 25)) w' := hqH.mono (by
      rintro r w' (⟨_, _, _, h, _⟩ | ⟨_, h1, h2⟩)
      · rw [hH] at h; cases h
      · exact ⟨h1, h2⟩)
    obtain ⟨S, hS⟩ : ∃ S, secR f mons mon = S := ⟨_, rfl⟩
    rw [hS] at HSC ⊢
    clear hqH hH hS hf hes
    rcases f with ⟨name, star, locs, ead, ecap, es, gad, gl, gc⟩
    simp only [Fl.val, Fl.cells] at hq hB1 ⊢
    go_enter Try.func12, Try.ntmps12
    go_wp2_with (go_at_call 8; (with_reducible refine hq.mono ?_); rintro r w1 ⟨rfl, hb1⟩)
    go_ret
    exact ⟨.slice none 0 0, rfl, by rw [HSC.out]; exact World.ownsRow_nil _ _ _ _, hB1.tr le_rfl' hb1⟩
  | some H =>
    obtain ⟨hrows, hmN⟩ := heldR_rows hH
    obtain ⟨N, hN⟩ : ∃ N, mons.toNat = N := ⟨_, rfl⟩
    have HREACH := hid (fun k hk => row_reach hH k hk)
    rw [hN] at hrows hmN HREACH
    subst hmN
    have hq : Calls Try.prog 8 #[f.val, .int .i64 (N : Int)] (w.alloc (.cells f.cells.toArray 25)) fun r w' => ∃ ad cp rs, H = rs.map Rw.l ∧ r = .returned (.tuple #[.slice ad rs.length cp, .bool true]) ∧ RwsAt w'.heap.size w' ad cp rs ∧ Below (w.alloc (.cells f.cells.toArray 25)).heap.size (w.alloc (.cells f.cells.toArray 25)) w' := hqH.mono (by
      rintro r w' (⟨ad, cp, rs, h, h1, h2, h3⟩ | ⟨h, _, _⟩)
      · rw [hH] at h
        exact ⟨ad, cp, rs, Option.some.inj h, h1, h2, h3⟩
      · rw [hH] at h; cases h)
    by_cases hm : 0 ≤ mon ∧ mon < (N : Int)
    · obtain ⟨hm0, hm1⟩ := hm
      obtain ⟨m, rfl⟩ : ∃ m : Nat, mon = (m : Int) := ⟨mon.toNat, by omega⟩
      have HSC : Hid (secR f (N : Int) (m : Int) = idxI (secT (m : Int)) H 0) := by show _ = _; unfold secR; rw [hH]; rfl
      obtain ⟨S, hS⟩ : ∃ S, secR f (N : Int) (m : Int) = S := ⟨_, rfl⟩
      rw [hS] at HSC ⊢
      have hSd := hrows.sound
      have hlen := hrows.len
      obtain ⟨L, hL⟩ : ∃ L : Nat, f.locs.toNat = L := ⟨_, rfl⟩
      have hlL : f.locs = (L : Int) := by have := hSd.locs; omega
      rw [hL] at hlen
      have hL6 : L ≤ 600 := by have := hSd.locs; omega
      have hqR := fun (W : World) (hW : Below w.heap.size w W) => reached_any f N L n₀ W (by have := hW.size; omega) (hf.below (hW.mono hn)) hes hSd hlL
      unfold ReachBack at hqR
      clear hqH hH hS hf hSd hrows hL hN
      rcases f with ⟨name, star, locs, ead, ecap, es, gad, gl, gc⟩
      simp only at hlL
      subst hlL
      simp only [Fl.val, Fl.cells] at hq hB1 hqR HREACH ⊢
      obtain ⟨i0, hi, hz0, hz1, hz2⟩ := info_of info3
      have hd1 : decide ((m : Int) < 0) = false := by simp
      have hd2 : decide ((N : Int) ≤ (m : Int)) = false := by simp; omega
      go_enter Try.func12, Try.ntmps12
      go_wp2_with (first
        | (go_at_call 8; (with_reducible refine hq.mono ?_); rintro r w1 ⟨ad, cp, rs, hHr, rfl, hRs, hb1⟩; have HHR := hid hHr; clear hHr; have B1 := hB1.tr le_rfl' hb1; have bF1 := (hb1.block w.heap.size (by rw [World.size_alloc]; omega)).trans (heapNew w _); obtain ⟨f2, f3⟩ := FBox.cells bF1; have f0 := cellOf bF1 0; have f1 := cellOf bF1 1; have f4 := cellOf bF1 4; simp at f0 f1 f4; have hz1' : w.heap.size < w1.heap.size := (by have := hb1.size; rw [World.size_alloc] at this; omega))
        | (go_at_call 25; (with_reducible refine (hqR _ B1).mono ?_); rintro r w2 ⟨sb, ss, rfl, hsb, bS, hsl, hsR, hb2⟩; have HSL := hid hsl; have HSR := hid hsR; clear hsl hsR))
      clear f0 f1 f2 f3 f4
      have HRL : Hid (rs.length = L) := by show _ = _; rw [← hlen, HHR.out, List.length_map]
      have hrs6 : rs.length ≤ 600 := by have := HRL.out; omega
      have B2 := B1.tr le_rfl' hb2
      have hRs2 := (hRs.below hb2).mono hb2.size
      have bF2 := (hb2.block w.heap.size hz1').trans bF1
      have HSC2 : Hid (S = idxI (fun x : Rw => secT (m : Int) x.l) rs 0) := by show _ = _; rw [HSC.out, HHR.out, idxI_map]
      have HROW : Hid (∀ (k : Nat) (hk : k < rs.length), (Reach es (k : Int) → rs[k].l.length = N) ∧ (¬ Reach es (k : Int) → rs[k].l = [])) := fun k hk => by
        have h := HREACH.out k (by rw [HHR.out, List.length_map]; exact hk)
        have e : H[k]'(by rw [HHR.out, List.length_map]; exact hk) = rs[k].l := by
          have := HHR.out
          subst this
          simp
        rw [e] at h
        exact h
      clear HSC hRs hlen bF1 hq hqR
      have hsb2 : sb < w2.heap.size := (Array.getElem?_eq_some_iff.1 bS).1
      go_loopw [10, 11] (fun v i wr => ∃ (k : Nat) (v' : Value), v = v' ∧ i = .int .i64 k ∧ k ≤ L ∧ wr.ownsRow w2.heap.size 3 1 v' (idxI (fun x : Rw => secT (m : Int) x.l) (rs.take k) 0).length (ints (idxI (fun x : Rw => secT (m : Int) x.l) (rs.take k) 0)) ∧ Below w2.heap.size w2 wr)
        (fun _ i _ => L - (intOf i).toNat)
      case atStart => exact ⟨0, _, rfl, rfl, by omega, World.ownsRow_nil _ _ _ _, Below.refl _ _⟩
      case round =>
        obtain ⟨k, v, hv, rfl, hk, hown, hbw⟩ := hrel
        have hv2 := hv.symm
        subst hv2
        clear hv
        have hzw := hbw.size
        have hle := idxI_len (fun x : Rw => secT (m : Int) x.l) (rs.take k) 0
        rw [List.length_take] at hle
        have bF3 := (hbw.block w.heap.size (by have := hb2.size; omega)).trans bF2
        obtain ⟨f2, f3⟩ := FBox.cells bF3
        by_cases hlt : k < L
        · have hkd : decide ((k : Int) < (L : Int)) = true := by simp; omega
          have hkr : k < rs.length := by have := HRL.out; omega
          have hks : k < ss.length := by have := HSL.out; omega
          have HJ := hid (idxI_snoc (fun x : Rw => secT (m : Int) x.l) rs k hkr)
          obtain ⟨xs, hxs2⟩ : ∃ xs, idxI (fun x : Rw => secT (m : Int) x.l) (rs.take k) 0 = xs := ⟨_, rfl⟩
          rw [hxs2] at HJ hown hle
          clear hxs2
          have cSk := (cellOf ((hbw.block sb hsb2).trans bS) k).trans (show _ = some (Value.bool ss[k]) by simp [hks])
          have hsbw : sb < wr.heap.size := by omega
          have hRK := HROW.out k hkr
          have hSK := HSR.out k
          rw [getB hks] at hSK
          cases hst : ss[k]
          · rw [hst] at cSk hSK
            have hnil := hRK.2 (fun h => by have := hSK.2 h; cases this)
            have HJ2 : Hid (idxI (fun x : Rw => secT (m : Int) x.l) (rs.take (k + 1)) 0 = xs) := by
              show _ = _
              rw [HJ.out, hnil]
              simp [secT, isPl]
            clear hst hSK hRK hnil HJ
            go_wp2
            go_roundw
            case rel => exact ⟨k + 1, _, rfl, by go_num, by omega, by rw [HJ2.out]; exact hown, hbw⟩
            case measure => simp [intOf]; omega
          · rw [hst] at cSk hSK
            have hlN := hRK.1 (hSK.1 rfl)
            have hxs := hRs2.2 _ (List.getElem_mem hkr)
            rcases hRs2.1.2.2 with h | ⟨ab, aoff, rfl, habn, harow⟩
            · subst h; simp at hkr
            have c0 := (harow.below hbw habn) k hkr 0 (by omega)
            rcases hx : rs[k] with ⟨xad, xcap, xl⟩
            rw [hx] at hxs HJ c0 hlN
            simp only [Rw.cells, Rw.val] at c0 hxs HJ hlN
            simp at c0
            have habw : ab < wr.heap.size := by omega
            have hml2 : m < xl.length := by omega
            rcases hxs.2.2 with h | ⟨qb, qoff, rfl, hqn, hqrow⟩
            · subst h; simp at hml2
            have d0 := (hqrow.below hbw (by omega)) m hml2 0 (by omega)
            simp only [icell] at d0
            simp at d0
            have hqw : qb < wr.heap.size := by omega
            have hx1 := hxs.1; have hx2 := hxs.2.1
            unfold maxLen at hx2
            have HT : Hid (secT (m : Int) xl = decide (0 < xl[m])) := by
              show _ = _
              unfold secT
              rw [isPl_iff.2 ⟨by omega, by omega⟩, Bool.true_and, Int.toNat_natCast]
              simp [hml2]
            obtain ⟨z, hz⟩ : ∃ z, xl[m] = z := ⟨_, rfl⟩
            rw [hz] at d0 HT
            clear hz hxs hqrow hst hSK hRK hx hlN
            by_cases hz0' : 0 < z
            · have hzd : decide (0 < z) = true := by simpa using hz0'
              have HJ2 : Hid (idxI (fun x : Rw => secT (m : Int) x.l) (rs.take (k + 1)) 0 = xs ++ [(k : Int)]) := by show _ = _; rw [HJ.out, HT.out, hzd]; simp
              clear HT HJ
              go_wp2_with (at_builtin; refine wpList_append_lies _ rfl _ _ 32 rfl w2.heap.size 3 i0 (.int .i64 0) 1 8 Try.underlying32 hi hz0 hz1 hz2 rfl (by decide) v xs.length (ints xs) rfl (hown.alloc _) ⟨wr.heap.size, 0, none⟩ 1 1 [.int .i64 k] rfl rfl (World.news_of_block (cs := #[.int .i64 k]) (t := 3) (fr := (0, 0)) (heapNew _ _)) (by simp [Value.oneCell']) (by decide) (by unfold maxLen; omega) (by omega) (by simp; omega) (wr.heap.size + 1) (by simp) ?_; intro g cap w6 hown6 hgrow hat6 hlt6)
              go_roundw
              case rel => exact ⟨k + 1, _, rfl, by go_num, by omega, by rw [HJ2.out]; simpa [ints] using hown6, (hbw.al le_rfl' _).grown hgrow (hbw.al le_rfl' _).size (fun g hg => (hown.lt g hg).1)⟩
              case measure => simp [intOf]; omega
            · have hzd : decide (0 < z) = false := by simpa using hz0'
              have HJ2 : Hid (idxI (fun x : Rw => secT (m : Int) x.l) (rs.take (k + 1)) 0 = xs) := by show _ = _; rw [HJ.out, HT.out, hzd]; simp
              clear HT HJ
              go_wp2
              go_roundw
              case rel => exact ⟨k + 1, _, rfl, by go_num, by omega, by rw [HJ2.out]; exact hown, hbw⟩
              case measure => simp [intOf]; omega
        · have hkd : decide ((k : Int) < (L : Int)) = false := by simp; omega
          have HE : Hid (idxI (fun x : Rw => secT (m : Int) x.l) (rs.take k) 0 = S) := by show _ = _; rw [HSC2.out, List.take_of_length_le (by have := HRL.out; omega)]
          have hown2 := HE.out ▸ hown
          clear hle hown
          go_wp2
          go_ret
          refine ⟨v, rfl, ?_, B2.tr le_rfl' hbw⟩
          exact ⟨hown2.1, by
            rcases hown2.2 with h | ⟨g, cap, cur, h1, h2, h3⟩
            · exact .inl h
            · exact .inr ⟨g, cap, cur, h1, by have := B2.size; omega, h3⟩⟩
    · have HSC := hid (sec_out hH hm)
      obtain ⟨S, hS⟩ : ∃ S, secR f (N : Int) mon = S := ⟨_, rfl⟩
      rw [hS] at HSC ⊢
      clear hqH hH hS hf hes hrows HREACH hN
      rcases f with ⟨name, star, locs, ead, ecap, es, gad, gl, gc⟩
      simp only [Fl.val, Fl.cells] at hq hB1 ⊢
      by_cases h0 : 0 ≤ mon
      · have h1 : (N : Int) ≤ mon := by omega
        have hd1 : decide (mon < 0) = false := by simpa using h0
        have hd2 : decide ((N : Int) ≤ mon) = true := by simpa using h1
        clear hm
        go_enter Try.func12, Try.ntmps12
        go_wp2_with (go_at_call 8; (with_reducible refine hq.mono ?_); rintro r w1 ⟨ad, cp, rs, hHr, rfl, hRs, hb1⟩; clear hHr)
        go_ret
        exact ⟨.slice none 0 0, rfl, by rw [HSC.out]; exact World.ownsRow_nil _ _ _ _, hB1.tr le_rfl' hb1⟩
      · have hd1 : decide (mon < 0) = true := by simp; omega
        clear hm
        go_enter Try.func12, Try.ntmps12
        go_wp2_with (go_at_call 8; (with_reducible refine hq.mono ?_); rintro r w1 ⟨ad, cp, rs, hHr, rfl, hRs, hb1⟩; clear hHr)
        go_ret
        exact ⟨.slice none 0 0, rfl, by rw [HSC.out]; exact World.ownsRow_nil _ _ _ _, hB1.tr le_rfl' hb1⟩
end Go.Proofs.Ythdkgfmlihgceaa
