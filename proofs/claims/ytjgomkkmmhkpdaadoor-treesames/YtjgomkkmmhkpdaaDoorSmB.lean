/-
  The statement TreeSames: its walk.
-/
import Derived.Test.YtjgomkkmmhkpdaaDoorSmP
import Derived.Test.YtjgomkkmmhkpdaaDoorSzB
import Derived.Test.YtjgomkkmmhkpdaaDoorIcA
import Derived.Test.YtjgomkkmmhkpdaaDoorLvB
namespace Go.Proofs.YtjgomkkmmhkpdaaDoor
open Go.RowKit
theorem duo_new {W : World} {c0 c1 : Value} {t : TypeId} {p : Nat} (hp : W.heap.size = p) : (W.alloc (.cells #[c0, c1] t)).cell? ⟨p, 0, none⟩ = some c0 ∧ (W.alloc (.cells #[c0, c1] t)).cell? ⟨p, 1, none⟩ = some c1 := by
  have h : (W.alloc (.cells #[c0, c1] t)).heap[p]? = some (.cells #[c0, c1] t (0, 0)) := heapAt _ hp
  exact ⟨cell_of' h 0, cell_of' h 1⟩
theorem duo_keep {W W' : World} {p : Nat} {c0 c1 : Value} (h : W.cell? ⟨p, 0, none⟩ = some c0 ∧ W.cell? ⟨p, 1, none⟩ = some c1) (hb : Below W.heap.size W W') : W'.cell? ⟨p, 0, none⟩ = some c0 ∧ W'.cell? ⟨p, 1, none⟩ = some c1 := by
  have hp := lt_of_cell h.1
  exact ⟨(hb.cell (p := ⟨p, 0, none⟩) hp).trans h.1, (hb.cell (p := ⟨p, 1, none⟩) hp).trans h.2⟩
theorem smallOr {p : Pr} {w w' : World} {r : Ending} (h : SmallBack p w w' r) : (r = .returned (.bool true) ∧ Hid (p.size ≤ 400) ∧ Below w.heap.size w w') ∨ (r = .returned (.bool false) ∧ Below w.heap.size w w') := by
  obtain ⟨c, rfl, h1, h2⟩ := h
  cases c
  · exact .inr ⟨rfl, h2⟩
  · exact .inl ⟨rfl, h1 rfl, h2⟩
theorem mixedR : Tryd.prog.follows .mixedOrders = true := by kernel_rfl
set_option maxRecDepth 100000 in
set_option maxHeartbeats 16000000 in
theorem treeSames_walk (x y : Pr) (w : World) (hS : Shapes w) (hx : x.Is w.heap.size w) (hy : y.Is w.heap.size w) :
    Calls Tryd.prog 5 #[x.val, y.val] w fun e w' => e = .returned (.bool true) ∧ Below w.heap.size w w' := by
  have hs2 := hS.size
  have h8x : ∀ W, Below w.heap.size w W → Calls Tryd.prog 8 #[x.val, .int .i64 400] W fun r w' => (r = .returned (.bool true) ∧ Hid (x.size ≤ 400) ∧ Below W.heap.size W w') ∨ (r = .returned (.bool false) ∧ Below W.heap.size W w') := fun W hW => (small_any w.heap.size x W hW.size (hx.below hW)).mono fun r w' h => smallOr h
  have h8y : ∀ W, Below w.heap.size w W → Calls Tryd.prog 8 #[y.val, .int .i64 400] W fun r w' => (r = .returned (.bool true) ∧ Hid (y.size ≤ 400) ∧ Below W.heap.size W w') ∨ (r = .returned (.bool false) ∧ Below W.heap.size W w') := fun W hW => (small_any w.heap.size y W hW.size (hy.below hW)).mono fun r w' h => smallOr h
  have h9 : ∀ W, Below w.heap.size w W → Calls Tryd.prog 9 #[] W fun r w' => r = .returned (.bool true) ∧ Below W.heap.size W w' := fun W hW => live_any W (hS.below hW hs2)
  have h20 : ∀ W, Below w.heap.size w W → Calls Tryd.prog 20 #[x.val, y.val] W fun r w' => r = .returned (.bool (x.same y)) ∧ Below W.heap.size W w' := fun W hW => same_any w.heap.size x y W hW.size (hx.below hW) (hy.below hW)
  have h21 : ∀ W, Below w.heap.size w W → Calls Tryd.prog 21 #[x.val, y.val] W fun r w' => r = .returned (.bool (x.same y)) ∧ Below W.heap.size W w' := fun W hW => refSame_any w.heap.size x y W hW.size (hx.below hW) (hy.below hW)
  have h11 : ∀ W, Below w.heap.size w W → Calls Tryd.prog 11 #[x.val] W fun r w' => r = .returned (.bool x.ok) ∧ Below W.heap.size W w' := fun W hW => refIs_any w.heap.size x W hW.size (hx.below hW)
  have h24 : x.size ≤ 400 → ∀ W, Below w.heap.size w W → Calls Tryd.prog 24 #[x.val] W fun r w' => r = .returned (.int .i64 (x.size : Nat)) ∧ Below W.heap.size W w' := fun hz W hW => size_any x w.heap.size W hW.size (hx.below hW) (by omega)
  have h25 : x.size ≤ 400 → ∀ W, Below w.heap.size w W → Calls Tryd.prog 25 #[x.val] W fun r w' => r = .returned (.int .i64 (x.size : Nat)) ∧ Below W.heap.size W w' := fun hz W hW => refSize_any w.heap.size x W hW.size (hx.below hW) (by omega)
  have h22 : ∀ (c d : Bl), (∀ W, Below w.heap.size w W → c.Is w.heap.size W ∧ d.Is w.heap.size W) → ∀ W, Below w.heap.size w W → Calls Tryd.prog 22 #[c.slice, d.slice] W fun r w' => r = .returned (.bool (c.same d)) ∧ Below W.heap.size W w' := fun c d h W hW => sameStmts_any w.heap.size c d W hW.size (h W hW).1 (h W hW).2
  have h23 : ∀ (c d : Bl), (∀ W, Below w.heap.size w W → c.Is w.heap.size W ∧ d.Is w.heap.size W) → ∀ W, Below w.heap.size w W → Calls Tryd.prog 23 #[c.slice, d.slice] W fun r w' => r = .returned (.bool (c.same d)) ∧ Below W.heap.size W w' := fun c d h W hW => refSameStmts_any w.heap.size c d W hW.size (h W hW).1 (h W hW).2
  obtain ⟨sm, hsm⟩ : ∃ sm, x.same y = sm := ⟨_, rfl⟩
  simp only [hsm] at h20 h21
  clear hsm
  obtain ⟨ok, hok⟩ : ∃ ok, x.ok = ok := ⟨_, rfl⟩
  simp only [hok] at h11
  clear hok
  obtain ⟨sz, hsz⟩ : ∃ sz, x.size = sz := ⟨_, rfl⟩
  simp only [hsz] at h24 h25 h8x
  clear hsz
  rcases x with ⟨xmad, xmcap, xmons, xrad, xrcap, xroles⟩
  rcases y with ⟨ymad, ymcap, ymons, yrad, yrcap, yroles⟩
  simp only [Pr.val] at h8x h8y h20 h21 h11 h24 h25 ⊢
  obtain ⟨_, hx5, hx6⟩ := hx
  obtain ⟨_, hy5, hy6⟩ := hy
  simp only at hx5 hx6 hy5 hy6
  have l3 := hx5.1; have l4 := hx5.2.1; have l7 := hy5.1; have l8 := hy5.2.1
  unfold maxLen at l4 l8
  have B1 : Below w.heap.size w ((w.alloc (.cells #[.slice xmad xmons.length xmcap, .slice xrad xroles.length xrcap] 25)).alloc (.cells #[.slice ymad ymons.length ymcap, .slice yrad yroles.length yrcap] 25)) := ((Below.refl _ w).al le_rfl' _).al le_rfl' _
  have hcX := duo_keep (duo_new (W := w) (t := 25) (c0 := .slice xmad xmons.length xmcap) (c1 := .slice xrad xroles.length xrcap) rfl) ((Below.refl _ _).al le_rfl' (.cells #[.slice ymad ymons.length ymcap, .slice yrad yroles.length yrcap] 25))
  have hcY := duo_new (W := w.alloc (.cells #[.slice xmad xmons.length xmcap, .slice xrad xroles.length xrcap] 25)) (t := 25) (c0 := .slice ymad ymons.length ymcap) (c1 := .slice yrad yroles.length yrcap) (p := w.heap.size + 1) (by simp)
  go_enter Tryd.func5, Tryd.ntmps5
  go_upto_region 1 with fail
  go_cut [12] (fun t wx => (t = .bool true ∧ Below (w.heap.size + 1 + 1) ((w.alloc (.cells #[.slice xmad xmons.length xmcap, .slice xrad xroles.length xrcap] 25)).alloc (.cells #[.slice ymad ymons.length ymcap, .slice yrad yroles.length yrcap] 25)) wx) ∨ (t = .bool false ∧ Hid (sz ≤ 400) ∧ Below (w.heap.size + 1 + 1) ((w.alloc (.cells #[.slice xmad xmons.length xmcap, .slice xrad xroles.length xrcap] 25)).alloc (.cells #[.slice ymad ymons.length ymcap, .slice yrad yroles.length yrcap] 25)) wx))
  case first =>
    go_wp2_with (first
      | (go_at_call 8; have := M1; refine (h8y _ (B1.tr le_rfl' bb1)).mono ?_; rintro r w2 (⟨rfl, -, bb2⟩ | ⟨rfl, bb2⟩))
      | (go_at_call 8; refine (h8x _ B1).mono ?_; rintro r w1 (⟨rfl, hc1, bb1⟩ | ⟨rfl, bb1⟩) <;> (have M1 : True := trivial; obtain ⟨z0, z1⟩ := duo_keep hcY bb1)))
    · go_meet
      exact .inr ⟨rfl, hc1, (bb1.tr le_rfl' bb2).mono (by simp)⟩
    · go_meet
      exact .inl ⟨rfl, (bb1.tr le_rfl' bb2).mono (by simp)⟩
    · go_meet
      exact .inl ⟨rfl, bb1.mono (by simp)⟩
  case rest =>
    rcases hcut with ⟨rfl, Bc0⟩ | ⟨rfl, HSZ, Bc0⟩
    · have Bc := Bc0.mono (B' := ((w.alloc (.cells #[.slice xmad xmons.length xmcap, .slice xrad xroles.length xrcap] 25)).alloc (.cells #[.slice ymad ymons.length ymcap, .slice yrad yroles.length yrcap] 25)).heap.size) (by simp)
      go_wp2_with (go_at_call 9; refine (h9 _ (B1.tr le_rfl' Bc)).mono ?_; rintro r w2 ⟨rfl, bb2⟩)
      go_ret
      exact ⟨rfl, (B1.tr le_rfl' Bc).tr le_rfl' bb2⟩
    · have Bc := Bc0.mono (B' := ((w.alloc (.cells #[.slice xmad xmons.length xmcap, .slice xrad xroles.length xrcap] 25)).alloc (.cells #[.slice ymad ymons.length ymcap, .slice yrad yroles.length yrcap] 25)).heap.size) (by simp)
      have BC := B1.tr le_rfl' Bc
      have XC := duo_keep hcX Bc
      have YC := duo_keep hcY Bc
      obtain ⟨wa, hwa⟩ : ∃ wa : World, wa = wc := ⟨_, rfl⟩
      subst hwa
      clear h8x h8y Bc Bc0 hcX hcY
      go_upto_region 3 with fail
      go_cut [20] (fun t wx => t = .bool false ∧ Below wa.heap.size wa wx)
      case first =>
        have B := below_drewS (Below.refl wa.heap.size wa)
        have XD := XC
        have YD := YC
        have XE := duo_keep XD B
        have YE := duo_keep YD B
        have Q20 := fun W (hW : Below wa.heap.size wa W) => h20 W (BC.tr le_rfl' hW)
        have Q21 := fun W (hW : Below wa.heap.size wa W) => h21 W (BC.tr le_rfl' hW)
        clear h9 h11 h20 h21 h22 h23 h24 h25
        cases sm
        all_goals
          go_region_held3 (fun W => (W.cell? ⟨w.heap.size, 0, none⟩ = some (.slice xmad xmons.length xmcap) ∧ W.cell? ⟨w.heap.size, 1, none⟩ = some (.slice xrad xroles.length xrcap)) ∧ (W.cell? ⟨w.heap.size + 1, 0, none⟩ = some (.slice ymad ymons.length ymcap) ∧ W.cell? ⟨w.heap.size + 1, 1, none⟩ = some (.slice yrad yroles.length yrcap))) (exact ⟨XE, YE⟩)
            (first
              | (go_at_call 20; refine (Q20 _ B).mono ?_; rintro r u1 ⟨rfl, bb⟩; have B := B.tr le_rfl' bb; have XE := duo_keep XD B; have YE := duo_keep YD B)
              | (go_at_call 21; refine (Q21 _ B).mono ?_; rintro r u2 ⟨rfl, bb⟩; have B := B.tr le_rfl' bb; have XE := duo_keep XD B; have YE := duo_keep YD B))
          go_wp2_with fail
          go_meet
          exact ⟨rfl, B⟩
      case rest =>
        obtain ⟨rfl, Bb⟩ := hcut
        have XC2 := duo_keep XC Bb
        have YC2 := duo_keep YC Bb
        have BC2 := BC.tr le_rfl' Bb
        obtain ⟨wb, hwb⟩ : ∃ wb : World, wb = wc := ⟨_, rfl⟩
        subst hwb
        clear h20 h21 XC YC BC Bb
        go_upto_region 5 with fail
        go_cut [55] (fun t wx => t = .bool false ∧ Below wb.heap.size wb wx)
        case first =>
          obtain ⟨x0, x1⟩ := XC2
          obtain ⟨y0, y1⟩ := YC2
          by_cases hxr : 0 < xroles.length
          · by_cases hyr : 0 < yroles.length
            · rcases hx5.2.2 with h | ⟨b, off, rfl, hbn, hrow⟩
              · subst h; simp at hxr
              rcases hy5.2.2 with h | ⟨b', off', rfl, hbn', hrow'⟩
              · subst h; simp at hyr
              have hr := hrow.below BC2 hbn
              have hr' := hrow'.below BC2 hbn'
              have hI := hx6 _ (List.getElem_mem hxr)
              have hI' := hy6 _ (List.getElem_mem hyr)
              rcases he : xroles[0] with ⟨unm, ust, uct, ubl, ups⟩
              rcases he' : yroles[0] with ⟨vnm, vst, vct, vbl, vps⟩
              rw [he] at hI
              rw [he'] at hI'
              have hBI : ∀ W, Below w.heap.size w W → ubl.Is w.heap.size W ∧ vbl.Is w.heap.size W := fun W hW => ⟨hI.2.2.2.below hW, hI'.2.2.2.below hW⟩
              have Q22 := fun W (hW : Below wb.heap.size wb W) => h22 ubl vbl hBI W (BC2.tr le_rfl' hW)
              have Q23 := fun W (hW : Below wb.heap.size wb W) => h23 ubl vbl hBI W (BC2.tr le_rfl' hW)
              obtain ⟨bs, hbs⟩ : ∃ bs, ubl.same vbl = bs := ⟨_, rfl⟩
              simp only [hbs] at Q22 Q23
              obtain ⟨_, _, _, c3, _⟩ := row5 hr 0 hxr (by rw [he]; rfl)
              obtain ⟨_, _, _, d3, _⟩ := row5 hr' 0 hyr (by rw [he']; rfl)
              clear he he' hbs hBI hI hI'
              rcases ubl with ⟨uad, ucap, ubody⟩
              rcases vbl with ⟨vad, vcap, vbody⟩
              simp only [Bl.slice, Nat.zero_mul, Nat.add_zero] at Q22 Q23 c3 d3
              have hx0 : (0 : Int) < (xroles.length : Int) := by omega
              have hy0 : (0 : Int) < (yroles.length : Int) := by omega
              have hz2 := BC2.size
              have lb : b < wb.heap.size := by omega
              have lb' : b' < wb.heap.size := by omega
              have lx := lt_of_cell x1
              have ly := lt_of_cell y1
              have hkeep : ∀ W, Below wb.heap.size wb W → (W.cell? ⟨w.heap.size, 1, none⟩ = some (.slice (some ⟨b, off, none⟩) xroles.length xrcap) ∧ W.cell? ⟨w.heap.size + 1, 1, none⟩ = some (.slice (some ⟨b', off', none⟩) yroles.length yrcap) ∧ W.cell? ⟨b, off + 3, none⟩ = some (.slice uad ubody.length ucap) ∧ W.cell? ⟨b', off' + 3, none⟩ = some (.slice vad vbody.length vcap)) := fun W hW =>
                ⟨(hW.cell (p := ⟨w.heap.size, 1, none⟩) lx).trans x1, (hW.cell (p := ⟨w.heap.size + 1, 1, none⟩) ly).trans y1, (hW.cell (p := ⟨b, off + 3, none⟩) lb).trans c3, (hW.cell (p := ⟨b', off' + 3, none⟩) lb').trans d3⟩
              have HK := hid hkeep
              have B := below_drewS (Below.refl wb.heap.size wb)
              clear hkeep h9 h11 h22 h23 h24 h25 x0 x1 y0 y1 c3 d3
              cases bs
              all_goals
                go_region_held3 (fun W => W.cell? ⟨w.heap.size, 1, none⟩ = some (.slice (some ⟨b, off, none⟩) xroles.length xrcap) ∧ W.cell? ⟨w.heap.size + 1, 1, none⟩ = some (.slice (some ⟨b', off', none⟩) yroles.length yrcap) ∧ W.cell? ⟨b, off + 3, none⟩ = some (.slice uad ubody.length ucap) ∧ W.cell? ⟨b', off' + 3, none⟩ = some (.slice vad vbody.length vcap)) (exact HK.out _ B)
                  (first
                    | (go_at_call 22; refine (Q22 _ B).mono ?_; rintro r u1 ⟨rfl, bb⟩; have B := B.tr le_rfl' bb)
                    | (go_at_call 23; refine (Q23 _ B).mono ?_; rintro r u2 ⟨rfl, bb⟩; have B := B.tr le_rfl' bb))
                go_wp2_with fail
                go_meet
                exact ⟨rfl, B⟩
            · have hx0 : decide ((0 : Int) < (xroles.length : Int)) = true := decide_eq_true (by omega)
              have hy0 : decide ((0 : Int) < (yroles.length : Int)) = false := decide_eq_false (by omega)
              have hx0' : decide (0 < xroles.length) = true := decide_eq_true (by omega)
              have hy0' : decide (0 < yroles.length) = false := decide_eq_false (by omega)
              go_quiet (fail)
              go_wp2_with fail
              go_meet
              exact ⟨rfl, below_drewNS (Below.refl _ _) _⟩
          · have hx0 : decide ((0 : Int) < (xroles.length : Int)) = false := decide_eq_false (by omega)
            have hx0' : decide (0 < xroles.length) = false := decide_eq_false (by omega)
            go_quiet (fail)
            go_wp2_with fail
            go_meet
            exact ⟨rfl, below_drewNS (Below.refl _ _) _⟩
        case rest =>
          obtain ⟨rfl, Bd⟩ := hcut
          have XD := duo_keep XC2 Bd
          have YD := duo_keep YC2 Bd
          have BD := BC2.tr le_rfl' Bd
          obtain ⟨wd, hwd⟩ : ∃ wd : World, wd = wc := ⟨_, rfl⟩
          subst hwd
          have Q11 := fun W (hW : Below wd.heap.size wd W) => h11 W (BD.tr le_rfl' hW)
          have Q24 := fun W (hW : Below wd.heap.size wd W) => h24 HSZ.out W (BD.tr le_rfl' hW)
          have Q25 := fun W (hW : Below wd.heap.size wd W) => h25 HSZ.out W (BD.tr le_rfl' hW)
          have Q9 := fun W (hW : Below wd.heap.size wd W) => h9 W (BD.tr le_rfl' hW)
          have B := below_drewS (Below.refl wd.heap.size wd)
          clear h9 h11 h22 h23 h24 h25 XC2 YC2 BC2 Bd
          cases ok
          · clear Q24 Q25
            go_upto_region 7 with fail
            refine wp_region_held_drew (S := fun W => (W.cell? ⟨w.heap.size, 0, none⟩ = some (.slice xmad xmons.length xmcap) ∧ W.cell? ⟨w.heap.size, 1, none⟩ = some (.slice xrad xroles.length xrcap)) ∧ (W.cell? ⟨w.heap.size + 1, 0, none⟩ = some (.slice ymad ymons.length ymcap) ∧ W.cell? ⟨w.heap.size + 1, 1, none⟩ = some (.slice yrad yroles.length yrcap))) mixedR ⟨duo_keep XD B, duo_keep YD B⟩ (fun hSS => ?_)
            show wpAnyH Tryd.prog .any _ _ _ 14 #[false, false, false, false, false, false, false, false, false, false, false, false, false, false] _ _
            refine wpAnyH_take (i := 0) (oi := { dst := some 56, op := Op.load 25 (Operand.tmp 2), type := 25, pos := "law.go:49", after := #[], guard := none }) (v := .agg #[.slice xmad xmons.length xmcap, .slice xrad xroles.length xrcap]) rfl (by kernel_rfl) (by kernel_rfl) (by kernel_rfl) (fun _ _ _ h => h) (Or.inl ⟨by rfl, ?_⟩) hSS ?_
            · rintro w ⟨⟨z1, z2⟩, z3, z4⟩
              go_simp
            simp only [Act.put, List.setIfInBounds_toArray, List.set_cons_zero, List.set_cons_succ]
            refine wpAnyH_ready (rs := [1]) (by kernel_rfl) (by simp) ?_
            refine AllReadyH.cons (o := { dst := some 57, op := Op.call { callee := Callee.value (Operand.func 11), args := #[Operand.tmp 56], argTypes := #[25] }, type := 4, pos := "law.go:49", after := #[{ on := 0, ground := Ground.data }], guard := none }) rfl (fun K hK => ?_) AllReadyH.nil
            rw [if_pos (show Region.wanted _ _ = true from rfl)]
            go_wp2_with (go_at_call 11; refine (Q11 _ B).mono ?_; rintro r u1 ⟨rfl, bb⟩; have B := B.tr le_rfl' bb)
            refine hK.out _ _ ⟨duo_keep XD B, duo_keep YD B⟩ (fun hSS => ?_)
            simp only [List.setIfInBounds_toArray, List.set_cons_zero, List.set_cons_succ]
            refine wpAnyH_take (i := 2) (oi := { dst := some 58, op := Op.unOp UnOp.not 4 (Operand.tmp 57), type := 4, pos := "law.go:49", after := #[{ on := 1, ground := Ground.data }], guard := none }) (v := .bool true) rfl (by kernel_rfl) (by kernel_rfl) (by kernel_rfl) (fun _ _ _ h => h) (Or.inl ⟨by rfl, ?_⟩) hSS ?_
            · rintro w ⟨⟨z1, z2⟩, z3, z4⟩
              go_simp
            simp only [Act.put, List.setIfInBounds_toArray, List.set_cons_zero, List.set_cons_succ]
            refine wpAnyH_take (i := 3) (oi := { dst := some 59, op := Op.move (Operand.tmp 58), type := 4, pos := "law.go:49", after := #[{ on := 2, ground := Ground.data }, { on := 1, ground := Ground.chain }], guard := none }) (v := .bool true) rfl (by kernel_rfl) (by kernel_rfl) (by kernel_rfl) (fun _ _ _ h => h) (Or.inl ⟨by rfl, ?_⟩) hSS ?_
            · rintro w ⟨⟨z1, z2⟩, z3, z4⟩
              go_simp
            simp only [Act.put, List.setIfInBounds_toArray, List.set_cons_zero, List.set_cons_succ]
            refine wpAnyH_take (i := 4) (oi := { dst := some 60, op := Op.load 25 (Operand.tmp 2), type := 25, pos := "law.go:49", after := #[{ on := 3, ground := Ground.guard }], guard := some (3, false) }) (v := undef) rfl (by kernel_rfl) (by kernel_rfl) (by kernel_rfl) (fun _ _ _ h => h) (Or.inr ⟨by rfl, rfl⟩) hSS ?_
            simp only [Act.put, List.setIfInBounds_toArray, List.set_cons_zero, List.set_cons_succ]
            refine wpAnyH_take (i := 5) (oi := { dst := some 61, op := Op.call { callee := Callee.value (Operand.func 24), args := #[Operand.tmp 60], argTypes := #[25] }, type := 3, pos := "law.go:49", after := #[{ on := 4, ground := Ground.data }, { on := 3, ground := Ground.chain }, { on := 3, ground := Ground.guard }], guard := some (3, false) }) (v := undef) rfl (by kernel_rfl) (by kernel_rfl) (by kernel_rfl) (fun _ _ _ h => h) (Or.inr ⟨by rfl, rfl⟩) hSS ?_
            simp only [Act.put, List.setIfInBounds_toArray, List.set_cons_zero, List.set_cons_succ]
            refine wpAnyH_take (i := 6) (oi := { dst := some 62, op := Op.load 25 (Operand.tmp 2), type := 25, pos := "law.go:49", after := #[{ on := 3, ground := Ground.guard }], guard := some (3, false) }) (v := undef) rfl (by kernel_rfl) (by kernel_rfl) (by kernel_rfl) (fun _ _ _ h => h) (Or.inr ⟨by rfl, rfl⟩) hSS ?_
            simp only [Act.put, List.setIfInBounds_toArray, List.set_cons_zero, List.set_cons_succ]
            refine wpAnyH_take (i := 7) (oi := { dst := some 63, op := Op.call { callee := Callee.value (Operand.func 25), args := #[Operand.tmp 62], argTypes := #[25] }, type := 3, pos := "law.go:49", after := #[{ on := 6, ground := Ground.data }, { on := 5, ground := Ground.chain }, { on := 3, ground := Ground.guard }], guard := some (3, false) }) (v := undef) rfl (by kernel_rfl) (by kernel_rfl) (by kernel_rfl) (fun _ _ _ h => h) (Or.inr ⟨by rfl, rfl⟩) hSS ?_
            simp only [Act.put, List.setIfInBounds_toArray, List.set_cons_zero, List.set_cons_succ]
            refine wpAnyH_take (i := 8) (oi := { dst := some 64, op := Op.binOp BinOp.eql 3 (Operand.tmp 61) (Operand.tmp 63) 3, type := 4, pos := "law.go:49", after := #[{ on := 5, ground := Ground.data }, { on := 7, ground := Ground.data }, { on := 3, ground := Ground.guard }], guard := some (3, false) }) (v := undef) rfl (by kernel_rfl) (by kernel_rfl) (by kernel_rfl) (fun _ _ _ h => h) (Or.inr ⟨by rfl, rfl⟩) hSS ?_
            simp only [Act.put, List.setIfInBounds_toArray, List.set_cons_zero, List.set_cons_succ]
            refine wpAnyH_take (i := 9) (oi := { dst := some 65, op := Op.pick (Operand.tmp 59) (Operand.const (Value.bool true)) (Operand.tmp 64), type := 4, pos := "law.go:49", after := #[{ on := 3, ground := Ground.data }, { on := 8, ground := Ground.data }], guard := none }) (v := .bool true) rfl (by kernel_rfl) (by kernel_rfl) (by kernel_rfl) (fun _ _ _ h => h) (Or.inl ⟨by rfl, ?_⟩) hSS ?_
            · rintro w ⟨⟨z1, z2⟩, z3, z4⟩
              go_simp
            simp only [Act.put, List.setIfInBounds_toArray, List.set_cons_zero, List.set_cons_succ]
            refine wpAnyH_take (i := 10) (oi := { dst := some 66, op := Op.move (Operand.tmp 65), type := 4, pos := "law.go:49", after := #[{ on := 9, ground := Ground.data }, { on := 7, ground := Ground.chain }], guard := none }) (v := .bool true) rfl (by kernel_rfl) (by kernel_rfl) (by kernel_rfl) (fun _ _ _ h => h) (Or.inl ⟨by rfl, ?_⟩) hSS ?_
            · rintro w ⟨⟨z1, z2⟩, z3, z4⟩
              go_simp
            simp only [Act.put, List.setIfInBounds_toArray, List.set_cons_zero, List.set_cons_succ]
            refine wpAnyH_ready (rs := [11]) (by kernel_rfl) (by simp) ?_
            refine AllReadyH.cons (o := { dst := some 67, op := Op.call { callee := Callee.value (Operand.func 9), args := #[], argTypes := #[] }, type := 4, pos := "law.go:49", after := #[{ on := 10, ground := Ground.chain }, { on := 10, ground := Ground.guard }], guard := some (10, true) }) rfl (fun K hK => ?_) AllReadyH.nil
            rw [if_pos (show Region.wanted _ _ = true from rfl)]
            go_wp2_with (go_at_call 9; refine (Q9 _ B).mono ?_; rintro r u11 ⟨rfl, bb⟩; have B := B.tr le_rfl' bb)
            refine hK.out _ _ ⟨duo_keep XD B, duo_keep YD B⟩ (fun hSS => ?_)
            simp only [List.setIfInBounds_toArray, List.set_cons_zero, List.set_cons_succ]
            refine wpAnyH_take (i := 12) (oi := { dst := some 68, op := Op.pick (Operand.tmp 66) (Operand.tmp 67) (Operand.const (Value.bool false)), type := 4, pos := "law.go:49", after := #[{ on := 10, ground := Ground.data }, { on := 11, ground := Ground.data }], guard := none }) (v := .bool true) rfl (by kernel_rfl) (by kernel_rfl) (by kernel_rfl) (fun _ _ _ h => h) (Or.inl ⟨by rfl, ?_⟩) hSS ?_
            · rintro w ⟨⟨z1, z2⟩, z3, z4⟩
              go_simp
            simp only [Act.put, List.setIfInBounds_toArray, List.set_cons_zero, List.set_cons_succ]
            refine wpAnyH_take (i := 13) (oi := { dst := some 4, op := Op.assign (Operand.tmp 68), type := 4, pos := "law.go:49", after := #[{ on := 12, ground := Ground.data }, { on := 11, ground := Ground.chain }, { on := 0, ground := Ground.phase }, { on := 1, ground := Ground.phase }, { on := 2, ground := Ground.phase }, { on := 3, ground := Ground.phase }, { on := 4, ground := Ground.phase }, { on := 5, ground := Ground.phase }, { on := 6, ground := Ground.phase }, { on := 7, ground := Ground.phase }, { on := 8, ground := Ground.phase }, { on := 9, ground := Ground.phase }, { on := 10, ground := Ground.phase }, { on := 11, ground := Ground.phase }, { on := 12, ground := Ground.phase }], guard := none }) (v := .bool true) rfl (by kernel_rfl) (by kernel_rfl) (by kernel_rfl) (fun _ _ _ h => h) (Or.inl ⟨by rfl, ?_⟩) hSS ?_
            · rintro w ⟨⟨z1, z2⟩, z3, z4⟩
              go_simp
            simp only [Act.put, List.setIfInBounds_toArray, List.set_cons_zero, List.set_cons_succ]
            refine wpAnyH_done (by kernel_rfl) ?_ _
            go_wp2
            go_ret
            exact ⟨rfl, BD.tr le_rfl' B⟩
          · have XE := duo_keep XD B
            have YE := duo_keep YD B
            go_upto_region 7 with fail
            go_region_held3 (fun W => (W.cell? ⟨w.heap.size, 0, none⟩ = some (.slice xmad xmons.length xmcap) ∧ W.cell? ⟨w.heap.size, 1, none⟩ = some (.slice xrad xroles.length xrcap)) ∧ (W.cell? ⟨w.heap.size + 1, 0, none⟩ = some (.slice ymad ymons.length ymcap) ∧ W.cell? ⟨w.heap.size + 1, 1, none⟩ = some (.slice yrad yroles.length yrcap))) (exact ⟨XE, YE⟩)
              (first
                | (go_at_call 11; refine (Q11 _ B).mono ?_; rintro r u1 ⟨rfl, bb⟩; have B := B.tr le_rfl' bb; have XE := duo_keep XD B; have YE := duo_keep YD B)
                | (go_at_call 24; refine (Q24 _ B).mono ?_; rintro r u2 ⟨rfl, bb⟩; have B := B.tr le_rfl' bb; have XE := duo_keep XD B; have YE := duo_keep YD B)
                | (go_at_call 25; refine (Q25 _ B).mono ?_; rintro r u3 ⟨rfl, bb⟩; have B := B.tr le_rfl' bb; have XE := duo_keep XD B; have YE := duo_keep YD B)
                | (go_at_call 9; refine (Q9 _ B).mono ?_; rintro r u4 ⟨rfl, bb⟩; have B := B.tr le_rfl' bb; have XE := duo_keep XD B; have YE := duo_keep YD B))
            go_wp2
            go_ret
            exact ⟨rfl, BD.tr le_rfl' B⟩
end Go.Proofs.YtjgomkkmmhkpdaaDoor
