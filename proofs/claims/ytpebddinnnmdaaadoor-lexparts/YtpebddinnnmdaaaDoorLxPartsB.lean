/-
  For every two texts the statement LexParts hands back true (its walk): two texts with a note between tell the tokens of both.
-/
import Derived.Test.YtpebddinnnmdaaaDoorLxPartsA
namespace Go.Proofs.YtpebddinnnmdaaaDoor
open Go.RowKit
theorem cells_len (l : List Lx.Out) : (Lx.cellsOf l).length = l.length * 4 := flat4_length Lx.cells1 (fun _ => rfl) l
theorem cells_one (l : List Lx.Out) (u : Value) (h : u ∈ Lx.cellsOf l) : u.oneCell' = true := by
  obtain ⟨o, _, ho⟩ := List.mem_flatMap.1 h
  exact one4 o u ho
theorem cells_append (l m : List Lx.Out) : Lx.cellsOf (l ++ m) = Lx.cellsOf l ++ Lx.cellsOf m := by simp [Lx.cellsOf]
/-- The cells of the tokens that a slice holds, from its head on. -/
theorem owns_cells {w : World} {B : Nat} {g cap : Nat} {l : List Lx.Out} (h : w.ownsRow B 33 4 (.slice (some ⟨g, 0, none⟩) l.length cap) l.length (Lx.cellsOf l)) (j : Nat) (u : Value) (hu : (Lx.cellsOf l)[j]? = some u) : w.cell? ⟨g, j, none⟩ = some u := by
  have hj : j < l.length * 4 := by rw [← cells_len]; exact (List.getElem?_eq_some_iff.1 hu).1
  rw [h.cellAt j hj, hu]
set_option maxRecDepth 100000 in
set_option maxHeartbeats 2000000 in
theorem lexParts_walk (s t : ByteArray) (w : World) (hs : s.size ≤ 140737488351232) (ht : t.size ≤ 140737488351232) (hE : HasErr w) :
    Calls Tryd.prog 7 #[.string s, .string t] w fun e w' => e = .returned (.bool true) ∧ Below w.heap.size w w' := by
  obtain ⟨i0, hi, hz0, hz1, hz2⟩ := info_parts Tryd.info33
  by_cases hl : 4000 < s.size + t.size
  · go_enter Tryd.func7, Tryd.ntmps7
    go_wp2_with (go_at_call 9; refine (live_any _ hE).mono ?_; rintro e w1 ⟨rfl, hb⟩)
    go_ret
    exact ⟨rfl, hb⟩
  · go_enter Tryd.func7, Tryd.ntmps7
    go_wp2_with fail
    refine (scan_any s w (by omega) hE).mono ?_
    rintro e w1 ⟨v1, rfl, hown1, hb1⟩
    have HE1 : Hid (HasErr w1) := hE.after hb1
    go_wp2_with fail
    refine (scan_any t w1 (by omega) HE1.out).mono ?_
    rintro e w2 ⟨v2, rfl, hown2, hb2⟩
    have HE2 : Hid (HasErr w2) := HE1.out.after hb2
    have HB2 : Hid (Below w.heap.size w w2) := hb1.trans (hb2.mono hb1.size)
    cases hsc : Lx.scan s with
    | fail er k =>
      obtain ⟨r1, r2, r3⟩ := Lx.of_fail s er k hsc
      have hne := (Lx.scanF_fail s _ _ _ _ _ hsc).1
      have hneb : (er != 0) = true := by rw [bne_iff_ne]; exact hne
      rw [r2, r3]
      clear hown1 hown2 hsc r1 r2 r3 hne
      go_wp2_with (first
        | (go_at_call 13; refine (num_any _ _).mono ?_; rintro e w' ⟨rfl, hw'⟩; have hw2 := hw'.symm; subst hw2)
        | (go_at_call 9; refine (live_any _ (by exact HE2.out)).mono ?_; rintro e w3 ⟨rfl, hb3⟩))
      go_ret
      exact ⟨rfl, HB2.out.trans (hb3.mono HB2.out.size)⟩
    | done ls =>
      obtain ⟨r1, r2, r3⟩ := Lx.of_done s ls hsc
      rw [r1] at hown1
      rw [r2, r3]
      obtain ⟨g, cap, rfl, hB, hg, hcap, hmx, hcell⟩ := owns_shape hown1 (by simp)
      have hlen1 : (ls ++ [Lx.endTok s]).length = ls.length + 1 := by simp
      rw [hlen1] at hcap ⊢
      have hz := Lx.scan_sizes s ls hsc
      have HC1 : Hid (∀ (wx : World), Below w2.heap.size w2 wx → ∀ j u, (Lx.cellsOf ls)[j]? = some u → wx.cell? ⟨g, j, none⟩ = some u) := by
        intro wx hwx j u hu
        have hj : j < ls.length * 4 := by rw [← cells_len]; exact (List.getElem?_eq_some_iff.1 hu).1
        have h1 : w1.cell? ⟨g, j, none⟩ = some u := by
          rw [hcell j (by rw [hlen1]; omega), cells_append, List.getElem?_append_left (by rw [cells_len]; exact hj), hu]
        have h2 : w2.cell? ⟨g, j, none⟩ = some u := (hb2.cell (p := ⟨g, j, none⟩) hg).trans h1
        exact (hwx.cell (p := ⟨g, j, none⟩) (by have := hb2.size; show g < _; omega)).trans h2
      have HP1 := hid (Lx.parts_outs s t (s ++ ⟨#[35, 32, 97, 32, 110, 111, 116, 101, 10]⟩ ++ t) _ Lx.gap1 (by simp) ls hsc)
      have HP2 := hid (Lx.parts_outs s t (s ++ ⟨#[10, 35, 32, 97, 32, 110, 111, 116, 101, 10]⟩ ++ t) _ Lx.gap2 (by simp) ls hsc)
      have hz1' : (s ++ ⟨#[35, 32, 97, 32, 110, 111, 116, 101, 10]⟩ ++ t : ByteArray).size ≤ 20000 := by simp [ByteArray.size_append]; show s.size + 9 + t.size ≤ 20000; omega
      have hz2' : (s ++ ⟨#[10, 35, 32, 97, 32, 110, 111, 116, 101, 10]⟩ ++ t : ByteArray).size ≤ 20000 := by simp [ByteArray.size_append]; show s.size + 10 + t.size ≤ 20000; omega
      have HZ1 := hid hz1'
      have HZ2 := hid hz2'
      clear hown1 hcell hsc r1 r2 r3 hlen1 hz1' hz2'
      go_wp2_with (first
        | (go_at_call 13; refine (num_any _ _).mono ?_; rintro e w' ⟨rfl, hw'⟩; have hw2 := hw'.symm; subst hw2)
        | fail)
      cases hst : Lx.scan t with
      | fail er2 k2 =>
        obtain ⟨r1, r2, r3⟩ := Lx.of_fail t er2 k2 hst
        have hne2 := (Lx.scanF_fail t _ _ _ _ _ hst).1
        have hneb2 : (er2 != 0) = true := by rw [bne_iff_ne]; exact hne2
        obtain ⟨_, p2, p3⟩ := Lx.of_fail _ _ _ (HP1.out.1 er2 k2 hst)
        obtain ⟨_, q2, q3⟩ := Lx.of_fail _ _ _ (HP2.out.1 er2 k2 hst)
        have hk2 := (Lx.scanF_fail t _ _ _ _ _ hst).2
        clear hown2 hne2
        rw [r2, r3]
        refine (scan_any _ w2 HZ1.out HE2.out).mono ?_
        rw [p2, p3]
        rintro e w3 ⟨v3, rfl, hown3, hb3⟩
        have HE3 : Hid (HasErr w3) := HE2.out.after hb3
        have HB3 : Hid (Below w.heap.size w w3) := HB2.out.trans (hb3.mono HB2.out.size)
        clear hown3 p2 p3 r1 r2 r3 hst HP1 HP2 HC1
        go_wp2_with fail
        refine (hashed_any s w3 (by omega)).mono ?_
        rintro e w' ⟨⟨b, rfl⟩, hw'⟩
        have hw2 := hw'.symm
        subst hw2
        cases b
        · have HEC := HE3
          have HBC := HB3
          go_wp2_with (first
            | (go_at_call 13; refine (num_any _ _).mono ?_; rintro e w' ⟨rfl, hw'⟩; have hw2 := hw'.symm; subst hw2)
            | (go_at_call 9; refine (live_any _ (by exact HEC.out)).mono ?_; rintro e w9 ⟨rfl, hb9⟩))
          go_ret
          exact ⟨rfl, HBC.out.trans (hb9.mono HBC.out.size)⟩
        · go_wp2_with fail
          refine (scan_any _ w3 HZ2.out HE3.out).mono ?_
          rw [q2, q3]
          rintro e w4 ⟨v4, rfl, hown4, hb4⟩
          have HEC : Hid (HasErr w4) := HE3.out.after hb4
          have HBC : Hid (Below w.heap.size w w4) := HB3.out.trans (hb4.mono HB3.out.size)
          clear hown4 q2 q3
          go_wp2_with (first
            | (go_at_call 13; refine (num_any _ _).mono ?_; rintro e w' ⟨rfl, hw'⟩; have hw2 := hw'.symm; subst hw2)
            | (go_at_call 9; refine (live_any _ (by exact HEC.out)).mono ?_; rintro e w9 ⟨rfl, hb9⟩))
          go_ret
          exact ⟨rfl, HBC.out.trans (hb9.mono HBC.out.size)⟩
      | done lt =>
        obtain ⟨r1, r2, r3⟩ := Lx.of_done t lt hst
        obtain ⟨lj, p0, p9⟩ := HP1.out.2 lt hst
        obtain ⟨lk, q0, q9⟩ := HP2.out.2 lt hst
        obtain ⟨p1, p2, p3⟩ := Lx.of_done _ _ p0
        obtain ⟨q1, q2, q3⟩ := Lx.of_done _ _ q0
        have hzt := Lx.scan_sizes t lt hst
        have hzj := Lx.scan_sizes _ lj p0
        have hzk := Lx.scan_sizes _ lk q0
        rw [r1] at hown2
        rw [r2, r3]
        obtain ⟨g2, cap2, rfl, hB2, hg2, hcap2, hmx2, hcell2⟩ := owns_shape hown2 (by simp)
        have hlen2 : (lt ++ [Lx.endTok t]).length = lt.length + 1 := by simp
        rw [hlen2] at hcap2 ⊢
        have HC2 : Hid (∀ (wx : World), Below w2.heap.size w2 wx → ∀ j u, (Lx.cellsOf (lt ++ [Lx.endTok t]))[j]? = some u → wx.cell? ⟨g2, j, none⟩ = some u) := by
          intro wx hwx j u hu
          have hj : j < (lt ++ [Lx.endTok t]).length * 4 := by rw [← cells_len]; exact (List.getElem?_eq_some_iff.1 hu).1
          have h2 : w2.cell? ⟨g2, j, none⟩ = some u := by rw [hcell2 j hj, hu]
          exact (hwx.cell (p := ⟨g2, j, none⟩) hg2).trans h2
        have HALp : Hid (AlikeTk ((lj ++ [Lx.endTok (s ++ ⟨#[35, 32, 97, 32, 110, 111, 116, 101, 10]⟩ ++ t)]).map toTk) ((ls ++ (lt ++ [Lx.endTok t])).map toTk)) :=
          Lx.alike_of _ _ (by rw [← List.append_assoc, List.map_append, ← p9, List.map_append]; rfl)
        have HALq : Hid (AlikeTk ((lk ++ [Lx.endTok (s ++ ⟨#[10, 35, 32, 97, 32, 110, 111, 116, 101, 10]⟩ ++ t)]).map toTk) ((ls ++ (lt ++ [Lx.endTok t])).map toTk)) :=
          Lx.alike_of _ _ (by rw [← List.append_assoc, List.map_append, ← q9, List.map_append]; rfl)
        have hlj : ((lj ++ [Lx.endTok (s ++ ⟨#[35, 32, 97, 32, 110, 111, 116, 101, 10]⟩ ++ t)]).map toTk).length ≤ 1000000 := by have := HZ1.out; simp only [List.length_map, List.length_append, List.length_cons, List.length_nil]; omega
        have hlk : ((lk ++ [Lx.endTok (s ++ ⟨#[10, 35, 32, 97, 32, 110, 111, 116, 101, 10]⟩ ++ t)]).map toTk).length ≤ 1000000 := by have := HZ2.out; simp only [List.length_map, List.length_append, List.length_cons, List.length_nil]; omega
        have HLJ := hid hlj
        have HLK := hid hlk
        have HPO := hid p1
        have HQO := hid q1
        have hltb : lt.length ≤ 4000 := by omega
        have hlsb : ls.length ≤ 4000 := by omega
        clear hown2 hcell2 hst r1 r2 r3 p0 q0 p9 q9 p1 q1 hlj hlk hzj hzk hzt hz HP1 HP2 hlen2
        refine (scan_any _ w2 HZ1.out HE2.out).mono ?_
        rw [p2, p3]
        rintro e w3 ⟨v3, rfl, hown3, hb3⟩
        rw [HPO.out] at hown3
        have HSC3 := hid (sliceOf_owns hown3)
        have HE3 : Hid (HasErr w3) := HE2.out.after hb3
        have HB3 : Hid (Below w.heap.size w w3) := HB2.out.trans (hb3.mono HB2.out.size)
        have hs23 := hb3.size
        clear hown3 p2 p3
        go_wp2_with fail
        refine (hashed_any s w3 (by omega)).mono ?_
        rintro e w' ⟨⟨b, rfl⟩, hw'⟩
        have hw2 := hw'.symm
        subst hw2
        cases b
        · have HEC := HE3
          have HBC := HB3
          have HSC := HSC3
          have HCA := hid (HC1.out w3 hb3)
          have HCB := hid (HC2.out w3 hb3)
          have hg2C : g2 < w3.heap.size := by omega
          have hgC : g < w3.heap.size := by have := hb2.size; omega
          have HAL := HALp
          have hljb := HLJ.out
          clear HLJ
          obtain ⟨wC, hwC⟩ : ∃ wC, wC = w3 := ⟨_, rfl⟩
          subst hwC
          go_wp2_with (first
            | (go_at_call 13; refine (num_any _ _).mono ?_; rintro e w' ⟨rfl, hw'⟩; have hw2 := hw'.symm; subst hw2)
            | (at_builtin; refine wpList_append_wanted ?e1 (.tmp 94) (.tmp 99) 23 rfl wC.heap.size 33 i0 (.agg #[.int .i64 0, .string ⟨#[]⟩, .int .i64 0, .int .i64 0]) 4 40 Tryd.underlying23 hi hz0 hz1 hz2 rfl (by decide) _ 0 [] rfl ?e2 ⟨g, 0, none⟩ ls.length cap (Lx.cellsOf ls) rfl (cells_len ls) ?e3 (cells_one ls) ?e4 ?e5 ?e6 ?e7))
          case e2 => exact owns_empty wC
          case e3 => exact fun j u hu => by rw [Go.WideShapes.add_plain, Nat.zero_add, World.cell?_alloc_past _ _ _ hgC]; exact HCA.out j u hu
          case e4 => unfold maxLen; omega
          case e5 => omega
          case e6 => simp
          case e7 =>
            intro v5 w5 hown5 hgrow5 hnn5
            have hb5 : Below wC.heap.size wC w5 := ((Below.refl _ wC).alloc (Nat.le_refl _) _).grown hgrow5 (by simp) (fun k hk => by simp [Value.ownBlock] at hk; omega)
            have HCB5 : Hid (∀ j u, (Lx.cellsOf (lt ++ [Lx.endTok t]))[j]? = some u → w5.cell? ⟨g2, j, none⟩ = some u) := fun j u hu => (hb5.cell (p := ⟨g2, j, none⟩) hg2C).trans (HCB.out j u hu)
            have hsz5 := hb5.size
            clear hgrow5 hnn5
            go_wp2_with (at_builtin; refine wpList_append_wanted ?f1 (.tmp 100) (.tmp 101) 23 rfl wC.heap.size 33 i0 (.agg #[.int .i64 0, .string ⟨#[]⟩, .int .i64 0, .int .i64 0]) 4 40 Tryd.underlying23 hi hz0 hz1 hz2 rfl (by decide) _ ls.length (Lx.cellsOf ls) rfl ?f2 ⟨g2, 0, none⟩ (lt.length + 1) cap2 (Lx.cellsOf (lt ++ [Lx.endTok t])) rfl ?f0 ?f3 (cells_one _) ?f4 ?f5 ?f6 ?f7)
            case f0 => rw [cells_len]; simp
            case f2 => exact hown5
            case f3 => exact fun j u hu => by rw [Go.WideShapes.add_plain, Nat.zero_add]; exact HCB5.out j u hu
            case f4 => unfold maxLen; omega
            case f5 => omega
            case f6 => omega
            case f7 =>
              intro v6 w6 hown6 hgrow6 _
              have hb6 : Below wC.heap.size wC w6 := hb5.grown hgrow6 hsz5 (fun k hk => (hown5.lt k hk).1)
              have hown7 : w6.ownsRow wC.heap.size 33 4 v6 (ls ++ (lt ++ [Lx.endTok t])).length (Lx.cellsOf (ls ++ (lt ++ [Lx.endTok t]))) := by
                rw [cells_append]; simp only [List.length_append, List.length_cons, List.length_nil]; exact hown6
              have HS6 := hid (sliceOf_owns hown7)
              have HSC6 := hid (HSC.out.below hb6)
              clear hown5 hown6 hown7 hgrow6 hb5
              go_wp2_with (first
                | (go_at_call 20; refine (alike_any _ _ _ v6 _ hljb HSC6.out HS6.out HAL.out).mono ?_; rintro e w' ⟨rfl, n, rfl⟩)
                | (go_at_call 9; refine (live_any _ (by have h := HEC.out.after hb6; exact h)).mono ?_; rintro e w9 ⟨rfl, hb9⟩))
              go_ret
              have sC := HBC.out.size
              have s6 := hb6.size
              exact ⟨rfl, (below_drewN (HBC.out.trans (hb6.mono sC)) n).trans (hb9.mono (by simp; omega))⟩
        · go_wp2_with fail
          refine (scan_any _ w3 HZ2.out HE3.out).mono ?_
          rw [q2, q3]
          rintro e w4 ⟨v4, rfl, hown4, hb4⟩
          rw [HQO.out] at hown4
          have HSC := hid (sliceOf_owns hown4)
          have HEC : Hid (HasErr w4) := HE3.out.after hb4
          have HBC : Hid (Below w.heap.size w w4) := HB3.out.trans (hb4.mono HB3.out.size)
          have hb24 : Below w2.heap.size w2 w4 := hb3.trans (hb4.mono hs23)
          have HCA := hid (HC1.out w4 hb24)
          have HCB := hid (HC2.out w4 hb24)
          have hs24 := hb24.size
          have hg2C : g2 < w4.heap.size := by omega
          have hgC : g < w4.heap.size := by have := hb2.size; omega
          have HAL := HALq
          have hljb := HLK.out
          clear hown4 q2 q3 HLK
          obtain ⟨wC, hwC⟩ : ∃ wC, wC = w4 := ⟨_, rfl⟩
          subst hwC
          go_wp2_with (first
            | (go_at_call 13; refine (num_any _ _).mono ?_; rintro e w' ⟨rfl, hw'⟩; have hw2 := hw'.symm; subst hw2)
            | (at_builtin; refine wpList_append_wanted ?eq1 (.tmp 94) (.tmp 99) 23 rfl wC.heap.size 33 i0 (.agg #[.int .i64 0, .string ⟨#[]⟩, .int .i64 0, .int .i64 0]) 4 40 Tryd.underlying23 hi hz0 hz1 hz2 rfl (by decide) _ 0 [] rfl ?eq2 ⟨g, 0, none⟩ ls.length cap (Lx.cellsOf ls) rfl (cells_len ls) ?eq3 (cells_one ls) ?eq4 ?eq5 ?eq6 ?eq7))
          case eq2 => exact owns_empty wC
          case eq3 => exact fun j u hu => by rw [Go.WideShapes.add_plain, Nat.zero_add, World.cell?_alloc_past _ _ _ hgC]; exact HCA.out j u hu
          case eq4 => unfold maxLen; omega
          case eq5 => omega
          case eq6 => simp
          case eq7 =>
            intro v5 w5 hown5 hgrow5 hnn5
            have hb5 : Below wC.heap.size wC w5 := ((Below.refl _ wC).alloc (Nat.le_refl _) _).grown hgrow5 (by simp) (fun k hk => by simp [Value.ownBlock] at hk; omega)
            have HCB5 : Hid (∀ j u, (Lx.cellsOf (lt ++ [Lx.endTok t]))[j]? = some u → w5.cell? ⟨g2, j, none⟩ = some u) := fun j u hu => (hb5.cell (p := ⟨g2, j, none⟩) hg2C).trans (HCB.out j u hu)
            have hsz5 := hb5.size
            clear hgrow5 hnn5
            go_wp2_with (at_builtin; refine wpList_append_wanted ?fq1 (.tmp 100) (.tmp 101) 23 rfl wC.heap.size 33 i0 (.agg #[.int .i64 0, .string ⟨#[]⟩, .int .i64 0, .int .i64 0]) 4 40 Tryd.underlying23 hi hz0 hz1 hz2 rfl (by decide) _ ls.length (Lx.cellsOf ls) rfl ?fq2 ⟨g2, 0, none⟩ (lt.length + 1) cap2 (Lx.cellsOf (lt ++ [Lx.endTok t])) rfl ?fq0 ?fq3 (cells_one _) ?fq4 ?fq5 ?fq6 ?fq7)
            case fq0 => rw [cells_len]; simp
            case fq2 => exact hown5
            case fq3 => exact fun j u hu => by rw [Go.WideShapes.add_plain, Nat.zero_add]; exact HCB5.out j u hu
            case fq4 => unfold maxLen; omega
            case fq5 => omega
            case fq6 => omega
            case fq7 =>
              intro v6 w6 hown6 hgrow6 _
              have hb6 : Below wC.heap.size wC w6 := hb5.grown hgrow6 hsz5 (fun k hk => (hown5.lt k hk).1)
              have hown7 : w6.ownsRow wC.heap.size 33 4 v6 (ls ++ (lt ++ [Lx.endTok t])).length (Lx.cellsOf (ls ++ (lt ++ [Lx.endTok t]))) := by
                rw [cells_append]; simp only [List.length_append, List.length_cons, List.length_nil]; exact hown6
              have HS6 := hid (sliceOf_owns hown7)
              have HSC6 := hid (HSC.out.below hb6)
              clear hown5 hown6 hown7 hgrow6 hb5
              go_wp2_with (first
                | (go_at_call 20; refine (alike_any _ _ _ v6 _ hljb HSC6.out HS6.out HAL.out).mono ?_; rintro e w' ⟨rfl, n, rfl⟩)
                | (go_at_call 9; refine (live_any _ (by have h := HEC.out.after hb6; exact h)).mono ?_; rintro e w9 ⟨rfl, hb9⟩))
              go_ret
              have sC := HBC.out.size
              have s6 := hb6.size
              exact ⟨rfl, (below_drewN (HBC.out.trans (hb6.mono sC)) n).trans (hb9.mono (by simp; omega))⟩
end Go.Proofs.YtpebddinnnmdaaaDoor
