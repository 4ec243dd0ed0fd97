/-
  The document's shaped tells what isSound tells.
-/
import Derived.Test.YthdkgfmlihgceaaHdN
namespace Go.Proofs.Ythdkgfmlihgceaa
open Go.RowKit
theorem bad_src {locs mons : Int} {x : Eg} (h : ¬ (0 ≤ x.src ∧ x.src < locs)) : edgeOk locs mons x = false := by
  have : isPl x.src locs = false := by
    cases e : isPl x.src locs
    · rfl
    · exact absurd (isPl_iff.1 e) h
  unfold edgeOk; rw [this]; rfl
theorem bad_dst {locs mons : Int} {x : Eg} (h : ¬ (0 ≤ x.dst ∧ x.dst < locs)) : edgeOk locs mons x = false := by
  have : isPl x.dst locs = false := by
    cases e : isPl x.dst locs
    · rfl
    · exact absurd (isPl_iff.1 e) h
  unfold edgeOk; rw [this, Bool.and_false]; rfl
theorem bad_mon {locs mons : Int} {x : Eg} (h1 : 4 ≤ x.kind ∧ x.kind ≤ 8) (h : ¬ (0 ≤ x.mon ∧ x.mon < mons)) : edgeOk locs mons x = false := by
  have : isPl x.mon mons = false := by
    cases e : isPl x.mon mons
    · rfl
    · exact absurd (isPl_iff.1 e) h
  unfold edgeOk; rw [this, hasM_iff.2 h1]; simp
theorem good_edge {locs mons : Int} {x : Eg} (h1 : 0 ≤ x.src ∧ x.src < locs) (h2 : 0 ≤ x.dst ∧ x.dst < locs) (h3 : (4 ≤ x.kind ∧ x.kind ≤ 8) → 0 ≤ x.mon ∧ x.mon < mons) : edgeOk locs mons x = true := by
  unfold edgeOk
  rw [isPl_iff.2 h1, isPl_iff.2 h2]
  cases e : hasM x.kind
  · rfl
  · rw [isPl_iff.2 (h3 (hasM_iff.1 e))]; rfl
set_option maxRecDepth 100000 in
set_option maxHeartbeats 8000000 in
theorem shaped_any (f : Fl) (mons : Int) (n₀ : Nat) (w : World) (hn : n₀ ≤ w.heap.size) (hf : f.Is n₀ w) :
    Calls Try.prog 22 #[f.val, .int .i64 mons] w fun r w' => SoundBack f mons w w' r := by
  rcases f with ⟨name, star, locs, ead, ecap, es, gad, gl, gc⟩
  obtain ⟨hsl, hlo, hfi⟩ := hf
  simp only at hsl hlo hfi
  simp only [Fl.val, Fl.cells]
  have HS := hid (show soundF ⟨name, star, locs, ead, ecap, es, gad, gl, gc⟩ mons = (sizesOk locs mons && es.all (edgeOk locs mons)) from rfl)
  rw [anyBad_all] at HS
  have HZ := hid (show sizesOk locs mons = (decide (1 ≤ locs) && decide (locs ≤ 600) && decide (0 ≤ mons) && decide (mons ≤ 8)) from rfl)
  obtain ⟨bF, hBF, hzF⟩ := one_box w #[.string name, .bool star, .int .i64 locs, .slice ead es.length ecap, .slice gad gl gc] 25
  clear hfi hlo
  by_cases h1 : 1 ≤ locs
  · by_cases h2 : locs ≤ 600
    · by_cases h3 : 0 ≤ mons
      · by_cases h4 : mons ≤ 8
        · have HZ2 : Hid (sizesOk locs mons = true) := by show _ = _; rw [HZ.out]; simp [h1, h2, h3, h4]
          have hl1 := hsl.1; have hl2 := hsl.2.1
          unfold maxLen at hl2
          have HZF := hid hzF
          clear HZ hzF
          go_enter Try.func22, Try.ntmps22
          go_upto_region 1 with fail
          obtain ⟨W0, hW0⟩ : ∃ W0, w.alloc (.cells #[.string name, .bool star, .int .i64 locs, .slice ead es.length ecap, .slice gad gl gc] 25) = W0 := ⟨_, rfl⟩
          rw [hW0] at bF hBF HZF ⊢
          clear hW0
          have hwW : w.heap.size < W0.heap.size := by have := HZF.out; omega
          obtain ⟨f2, f3⟩ := FBox.cells bF
          go_wp2
          go_loopw [5] (fun i wr => ∃ k : Nat, k ≤ es.length ∧ i = .int .i64 k ∧ Hid (anyBad locs mons (es.take k) = false) ∧ Below W0.heap.size W0 wr)
            (fun i _ => es.length - (intOf i).toNat)
          case atStart => exact ⟨0, by omega, rfl, rfl, Below.refl _ _⟩
          case round =>
            obtain ⟨k, hk, rfl, HK, hby⟩ := hrel
            have hzw := hby.size
            have hbw := hBF.trans (hby.mono hBF.size)
            have hFw : w.heap.size < wr.heap.size := by omega
            obtain ⟨g2, g3⟩ := FBox.cells ((hby.block _ hwW).trans bF)
            by_cases hlt : k < es.length
            · have hkd : decide ((k : Int) < (es.length : Int)) = true := by simp; omega
              rcases hsl.2.2 with h | ⟨eb, eoff, rfl, hen, herow⟩
              · subst h; simp at hlt
              have hr2 := herow.below (hbw.mono hn) hen
              have HSN := hid (anyBad_snoc locs mons es k hlt)
              have HA := hid (anyBad_at locs mons es k hlt)
              have hew : eb < wr.heap.size := by omega
              have BS := hid (bad_src (locs := locs) (mons := mons) (x := es[k]))
              have BD := hid (bad_dst (locs := locs) (mons := mons) (x := es[k]))
              have BM := hid (bad_mon (locs := locs) (mons := mons) (x := es[k]))
              have GE := hid (good_edge (locs := locs) (mons := mons) (x := es[k]))
              rcases hx : es[k] with ⟨src, dst, kind, mon, var, op, s1, s2, kk, kad, kl, kc, epos, n, site, out, pos⟩
              obtain ⟨d0, d1, d2, d3, d4, d5, d6, d7, d8, d9, d10, d11, d12, d13, d14⟩ := row15 hr2 k hlt hx
              rw [hx] at HSN HA BS BD BM GE
              simp only at d0 d1 d2 d3 d4 d5 d6 d7 d8 d9 d10 d11 d12 d13 d14 BS BD BM GE
              clear hx hr2 herow f2 f3 hsl
              have HB : Hid (Below wr.heap.size wr (wr.alloc (.cells #[.int .i64 src, .int .i64 dst, .int .i64 kind, .int .i64 mon, .int .i64 var, .int .i64 op, .string s1, .string s2, .int .i64 kk, .slice kad kl kc, .int .i64 epos, .int .i64 n, .int .i64 site, .int .i64 out, .int .i64 pos] 57))) := (Below.refl _ _).al le_rfl' _
              by_cases ha : 0 ≤ src
              ·
                have ha2 : decide (src < 0) = false := by simp; omega
                by_cases hb : src < locs
                ·
                  have hb2 : decide (locs ≤ src) = false := by simp; omega
                  by_cases hc : 0 ≤ dst
                  ·
                    have hc2 : decide (dst < 0) = false := by simp; omega
                    by_cases hd : dst < locs
                    ·
                      have hd2 : decide (locs ≤ dst) = false := by simp; omega
                      by_cases he : 4 ≤ kind
                      ·
                        have he2 : decide (4 ≤ kind) = true := by simp; omega
                        by_cases hg : kind ≤ 8
                        ·
                          have hg2 : decide (kind ≤ 8) = true := by simp; omega
                          by_cases hm : 0 ≤ mon
                          ·
                            have hm2 : decide (mon < 0) = false := by simp; omega
                            by_cases ho : mon < mons
                            ·
                              have ho2 : decide (mons ≤ mon) = false := by simp; omega
                              have HX : Hid (anyBad locs mons (es.take (k + 1)) = false) := by show _ = _; rw [HSN.out, HK.out, GE.out ⟨ha, hb⟩ ⟨hc, hd⟩ (fun _ => ⟨hm, ho⟩)]; rfl
                              clear HA HSN BS BD BM GE HK
                              go_wp2
                              go_roundw
                              case rel => exact ⟨k + 1, by omega, by go_num, HX, hby.trans (HB.out.mono hzw)⟩
                              case measure => simp [intOf]; omega
                            ·
                              have ho2 : decide (mons ≤ mon) = true := by simp; omega
                              have HX := hid (HA.out (BM.out ⟨he, hg⟩ (fun h => ho h.2)))
                              clear HA HSN BS BD BM GE
                              go_wp2
                              go_ret
                              exact ⟨ret_b (by rw [HS.out, HX.out]; simp), hbw.tr le_rfl' HB.out⟩
                          ·
                            have hm2 : decide (mon < 0) = true := by simp; omega
                            have HX := hid (HA.out (BM.out ⟨he, hg⟩ (fun h => hm h.1)))
                            clear HA HSN BS BD BM GE
                            go_wp2
                            go_ret
                            exact ⟨ret_b (by rw [HS.out, HX.out]; simp), hbw.tr le_rfl' HB.out⟩
                        ·
                          have hg2 : decide (kind ≤ 8) = false := by simp; omega
                          have HX : Hid (anyBad locs mons (es.take (k + 1)) = false) := by show _ = _; rw [HSN.out, HK.out, GE.out ⟨ha, hb⟩ ⟨hc, hd⟩ (fun h => absurd h.2 hg)]; rfl
                          clear HA HSN BS BD BM GE HK
                          go_wp2
                          go_roundw
                          case rel => exact ⟨k + 1, by omega, by go_num, HX, hby.trans (HB.out.mono hzw)⟩
                          case measure => simp [intOf]; omega
                      ·
                        have he2 : decide (4 ≤ kind) = false := by simp; omega
                        have HX : Hid (anyBad locs mons (es.take (k + 1)) = false) := by show _ = _; rw [HSN.out, HK.out, GE.out ⟨ha, hb⟩ ⟨hc, hd⟩ (fun h => absurd h.1 he)]; rfl
                        clear HA HSN BS BD BM GE HK
                        go_wp2
                        go_roundw
                        case rel => exact ⟨k + 1, by omega, by go_num, HX, hby.trans (HB.out.mono hzw)⟩
                        case measure => simp [intOf]; omega
                    ·
                      have hd2 : decide (locs ≤ dst) = true := by simp; omega
                      have HX := hid (HA.out (BD.out (fun h => hd h.2)))
                      clear HA HSN BS BD BM GE
                      go_wp2
                      go_ret
                      exact ⟨ret_b (by rw [HS.out, HX.out]; simp), hbw.tr le_rfl' HB.out⟩
                  ·
                    have hc2 : decide (dst < 0) = true := by simp; omega
                    have HX := hid (HA.out (BD.out (fun h => hc h.1)))
                    clear HA HSN BS BD BM GE
                    go_wp2
                    go_ret
                    exact ⟨ret_b (by rw [HS.out, HX.out]; simp), hbw.tr le_rfl' HB.out⟩
                ·
                  have hb2 : decide (locs ≤ src) = true := by simp; omega
                  have HX := hid (HA.out (BS.out (fun h => hb h.2)))
                  clear HA HSN BS BD BM GE
                  go_wp2
                  go_ret
                  exact ⟨ret_b (by rw [HS.out, HX.out]; simp), hbw.tr le_rfl' HB.out⟩
              ·
                have ha2 : decide (src < 0) = true := by simp; omega
                have HX := hid (HA.out (BS.out (fun h => ha h.1)))
                clear HA HSN BS BD BM GE
                go_wp2
                go_ret
                exact ⟨ret_b (by rw [HS.out, HX.out]; simp), hbw.tr le_rfl' HB.out⟩
            · have hkd : decide ((k : Int) < (es.length : Int)) = false := by simp; omega
              have HE : Hid (anyBad locs mons es = false) := by
                have := HK.out
                rwa [List.take_of_length_le (by omega)] at this
              go_wp2
              go_ret
              exact ⟨ret_b (by rw [HS.out, HZ2.out, HE.out]; rfl), hbw⟩
        · have HZ2 : Hid (sizesOk locs mons = false) := by show _ = _; rw [HZ.out]; simp [h4]
          clear HZ
          go_enter Try.func22, Try.ntmps22
          go_wp2
          go_ret
          exact ⟨ret_b (by rw [HS.out, HZ2.out]; rfl), hBF⟩
      · have HZ2 : Hid (sizesOk locs mons = false) := by show _ = _; rw [HZ.out]; simp [h3]
        clear HZ
        go_enter Try.func22, Try.ntmps22
        go_wp2
        go_ret
        exact ⟨ret_b (by rw [HS.out, HZ2.out]; rfl), hBF⟩
    · have HZ2 : Hid (sizesOk locs mons = false) := by show _ = _; rw [HZ.out]; simp [h2]
      clear HZ
      go_enter Try.func22, Try.ntmps22
      go_wp2
      go_ret
      exact ⟨ret_b (by rw [HS.out, HZ2.out]; rfl), hBF⟩
  · have HZ2 : Hid (sizesOk locs mons = false) := by show _ = _; rw [HZ.out]; simp [h1]
    clear HZ
    go_enter Try.func22, Try.ntmps22
    go_wp2
    go_ret
    exact ⟨ret_b (by rw [HS.out, HZ2.out]; rfl), hBF⟩
end Go.Proofs.Ythdkgfmlihgceaa
