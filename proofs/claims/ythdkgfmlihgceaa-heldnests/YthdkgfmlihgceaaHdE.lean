/-
  isSound of package held, whole: the search for an edge that speaks of what is not there.
-/
import Derived.Test.YthdkgfmlihgceaaHdD
namespace Go.Proofs.Ythdkgfmlihgceaa
open Go.RowKit
def anyBad (locs mons : Int) (l : List Eg) : Bool := l.any fun x => !edgeOk locs mons x
theorem anyBad_snoc (locs mons : Int) (l : List Eg) (k : Nat) (h : k < l.length) : anyBad locs mons (l.take (k + 1)) = (anyBad locs mons (l.take k) || !edgeOk locs mons l[k]) := by
  rw [List.take_succ_eq_append_getElem h]; simp only [anyBad, List.any_append, List.any_cons, List.any_nil, Bool.or_false]
theorem anyBad_at (locs mons : Int) (l : List Eg) (k : Nat) (h : k < l.length) (hb : edgeOk locs mons l[k] = false) : anyBad locs mons l = true :=
  List.any_eq_true.2 ⟨l[k], List.getElem_mem h, by rw [hb]; rfl⟩
theorem anyBad_all (locs mons : Int) (l : List Eg) : l.all (edgeOk locs mons) = !anyBad locs mons l := by
  induction l with
  | nil => rfl
  | cons x l ih => rw [List.all_cons, ih, anyBad, anyBad, List.any_cons, Bool.not_or, Bool.not_not]
def IxBack (b : Bool) (w : World) (r : Ending) (w' : World) : Prop := (∃ i : Int, r = .returned (.int .i64 i) ∧ decide (0 ≤ i) = b) ∧ Below w.heap.size w w'
set_option maxRecDepth 100000 in
set_option maxHeartbeats 4000000 in
theorem indexFunc_any (es : List Eg) (ad : Option Addr) (cap n₀ : Nat) (locs mons : Int) (bF bM : Nat) (w : World) (hn : n₀ ≤ w.heap.size) (hsl : SlAt 15 Eg.cells n₀ w ad cap es) (hF : w.cell? ⟨bF, 2, none⟩ = some (.int .i64 locs)) (hM : w.cell? ⟨bM, 0, none⟩ = some (.int .i64 mons)) (lF : bF < w.heap.size) (lM : bM < w.heap.size) :
    Calls Try.prog 30 #[.slice ad es.length cap, .func (.func 27) #[] #[.pointer (some ⟨bF, 0, none⟩), .pointer (some ⟨bM, 0, none⟩)]] w fun r w' => IxBack (anyBad locs mons es) w r w' := by
  have hl1 := hsl.1; have hl2 := hsl.2.1
  unfold maxLen at hl2
  have hq := fun (x : Eg) (W : World) (h1 : W.cell? ⟨bF, 2, none⟩ = some (.int .i64 locs)) (h2 : W.cell? ⟨bM, 0, none⟩ = some (.int .i64 mons)) (h3 : bF < W.heap.size) (h4 : bM < W.heap.size) => sound1_any x locs mons bF bM W h1 h2 h3 h4
  go_enter Try.func30, Try.ntmps30
  go_wp2
  go_loopw [8] (fun i wr => ∃ k : Nat, k ≤ es.length ∧ i = .int .i64 k ∧ Hid (anyBad locs mons (es.take k) = false) ∧ Below w.heap.size w wr)
    (fun i _ => es.length - (intOf i).toNat)
  case atStart => exact ⟨0, by omega, rfl, rfl, Below.refl _ _⟩
  case round =>
    obtain ⟨k, hk, rfl, HK, hbw⟩ := hrel
    have hzw := hbw.size
    by_cases hlt : k < es.length
    · rcases hsl.2.2 with h | ⟨eb, eoff, rfl, hen, herow⟩
      · subst h; simp at hlt
      have hr2 := herow.below (hbw.mono hn) hen
      have hF2 := (hbw.cell (p := ⟨bF, 2, none⟩) lF).trans hF
      have hM2 := (hbw.cell (p := ⟨bM, 0, none⟩) lM).trans hM
      have HS := hid (anyBad_snoc locs mons es k hlt)
      have HA := hid (anyBad_at locs mons es k hlt)
      have hew : eb < wr.heap.size := by omega
      rcases hx : es[k] with ⟨src, dst, kind, mon, var, op, s1, s2, kk, kad, kl, kc, epos, n, site, out, pos⟩
      obtain ⟨d0, d1, d2, d3, d4, d5, d6, d7, d8, d9, d10, d11, d12, d13, d14⟩ := row15 hr2 k hlt hx
      rw [hx] at HS HA
      have hq2 := fun W (hW : Below wr.heap.size wr W) => hq ⟨src, dst, kind, mon, var, op, s1, s2, kk, kad, kl, kc, epos, n, site, out, pos⟩ W ((hW.cell (p := ⟨bF, 2, none⟩) (by show bF < _; omega)).trans hF2) ((hW.cell (p := ⟨bM, 0, none⟩) (by show bM < _; omega)).trans hM2) (by have := hW.size; omega) (by have := hW.size; omega)
      simp only [Eg.val, Eg.cells] at hq2 d0 d1 d2 d3 d4 d5 d6 d7 d8 d9 d10 d11 d12 d13 d14
      have hq3 := hq2 wr (Below.refl _ _)
      obtain ⟨b, hb⟩ : ∃ b, edgeOk locs mons ⟨src, dst, kind, mon, var, op, s1, s2, kk, kad, kl, kc, epos, n, site, out, pos⟩ = b := ⟨_, rfl⟩
      rw [hb] at hq3 HS HA
      clear hb hx hq2 hq hsl herow hr2 hF2 hM2 hF hM
      cases b
      · have HA2 := hid (HA.out rfl)
        go_wp2_with (go_at_call 27; (with_reducible refine hq3.mono ?_); rintro r w1 ⟨rfl, hb1⟩)
        go_ret
        exact ⟨⟨_, rfl, by rw [HA2.out]; simp⟩, hbw.tr le_rfl' hb1⟩
      · have HS2 : Hid (anyBad locs mons (es.take (k + 1)) = false) := by show _ = _; rw [HS.out, HK.out]; rfl
        clear HA HS HK
        go_wp2_with (go_at_call 27; (with_reducible refine hq3.mono ?_); rintro r w1 ⟨rfl, hb1⟩)
        go_roundw
        case rel => exact ⟨k + 1, by omega, by go_num, HS2, hbw.tr le_rfl' hb1⟩
        case measure => simp [intOf]; omega
    · have hkd : decide ((k : Int) < (es.length : Int)) = false := by simp; omega
      have HE : Hid (anyBad locs mons es = false) := by
        have := HK.out
        rwa [List.take_of_length_le (by omega)] at this
      go_wp2
      go_ret
      exact ⟨⟨_, rfl, by rw [HE.out]; rfl⟩, hbw⟩
set_option maxHeartbeats 1000000 in
theorem containsFunc_any (es : List Eg) (ad : Option Addr) (cap n₀ : Nat) (locs mons : Int) (bF bM : Nat) (w : World) (hn : n₀ ≤ w.heap.size) (hsl : SlAt 15 Eg.cells n₀ w ad cap es) (hF : w.cell? ⟨bF, 2, none⟩ = some (.int .i64 locs)) (hM : w.cell? ⟨bM, 0, none⟩ = some (.int .i64 mons)) (lF : bF < w.heap.size) (lM : bM < w.heap.size) :
    Calls Try.prog 26 #[.slice ad es.length cap, .func (.func 27) #[] #[.pointer (some ⟨bF, 0, none⟩), .pointer (some ⟨bM, 0, none⟩)]] w fun r w' => r = .returned (.bool (anyBad locs mons es)) ∧ Below w.heap.size w w' := by
  have hq := indexFunc_any es ad cap n₀ locs mons bF bM w hn hsl hF hM lF lM
  go_enter Try.func26, Try.ntmps26
  go_wp2_with (go_at_call 30; (with_reducible refine hq.mono ?_); rintro r w1 ⟨⟨i, rfl, hi⟩, hb⟩; have HI := hid hi; clear hi)
  go_ret
  exact ⟨ret_b HI.out, hb⟩
/-- isSound tells whether a flow's sizes and edges are fine. -/
def SoundBack (f : Fl) (mons : Int) (w w' : World) (r : Ending) : Prop := r = .returned (.bool (soundF f mons)) ∧ Below w.heap.size w w'
set_option maxRecDepth 100000 in
set_option maxHeartbeats 4000000 in
theorem isSound_any (f : Fl) (mons : Int) (n₀ : Nat) (w : World) (hn : n₀ ≤ w.heap.size) (hf : f.Is n₀ w) :
    Calls Try.prog 19 #[f.val, .int .i64 mons] w fun r w' => SoundBack f mons w w' r := by
  rcases f with ⟨name, star, locs, ead, ecap, es, gad, gl, gc⟩
  obtain ⟨hsl, hlo, hfi⟩ := hf
  simp only at hsl hlo hfi
  simp only [Fl.val, Fl.cells]
  have HS := hid (show soundF ⟨name, star, locs, ead, ecap, es, gad, gl, gc⟩ mons = (sizesOk locs mons && es.all (edgeOk locs mons)) from rfl)
  rw [anyBad_all] at HS
  have HZ := hid (show sizesOk locs mons = (decide (1 ≤ locs) && decide (locs ≤ 600) && decide (0 ≤ mons) && decide (mons ≤ 8)) from rfl)
  have hB1 := (Below.refl w.heap.size w).al le_rfl' (.cells #[.string name, .bool star, .int .i64 locs, .slice ead es.length ecap, .slice gad gl gc] 25)
  have hB := hB1.al le_rfl' (.cells #[.int .i64 mons] 3)
  by_cases h1 : 1 ≤ locs
  · by_cases h2 : locs ≤ 600
    · by_cases h3 : 0 ≤ mons
      · by_cases h4 : mons ≤ 8
        · have HZ2 : Hid (sizesOk locs mons = true) := by show _ = _; rw [HZ.out]; simp [h1, h2, h3, h4]
          clear HZ
          have c0 : ((w.alloc (.cells #[.string name, .bool star, .int .i64 locs, .slice ead es.length ecap, .slice gad gl gc] 25)).alloc (.cells #[.int .i64 mons] 3)).cell? ⟨w.heap.size, 2, none⟩ = some (.int .i64 locs) := by
            have e1 := ((Below.refl _ (w.alloc (.cells #[.string name, .bool star, .int .i64 locs, .slice ead es.length ecap, .slice gad gl gc] 25))).al le_rfl' (.cells #[.int .i64 mons] 3)).cell (p := ⟨w.heap.size, 2, none⟩) (by show w.heap.size < _; rw [World.size_alloc]; omega)
            exact e1.trans (cellOf (heapNew w _) 2)
          have c1 : ((w.alloc (.cells #[.string name, .bool star, .int .i64 locs, .slice ead es.length ecap, .slice gad gl gc] 25)).alloc (.cells #[.int .i64 mons] 3)).cell? ⟨w.heap.size + 1, 0, none⟩ = some (.int .i64 mons) := by
            have := cellOf (heapNew (w.alloc (.cells #[.string name, .bool star, .int .i64 locs, .slice ead es.length ecap, .slice gad gl gc] 25)) (.cells #[.int .i64 mons] 3)) 0
            rw [World.size_alloc] at this
            rw [this]; rfl
          have hq := containsFunc_any es ead ecap n₀ locs mons w.heap.size (w.heap.size + 1) ((w.alloc (.cells #[.string name, .bool star, .int .i64 locs, .slice ead es.length ecap, .slice gad gl gc] 25)).alloc (.cells #[.int .i64 mons] 3)) (by rw [World.size_alloc, World.size_alloc]; omega) (hsl.below (hB.mono hn)) c0 c1 (by rw [World.size_alloc, World.size_alloc]; omega) (by rw [World.size_alloc, World.size_alloc]; omega)
          clear c0 c1 hsl hfi
          go_enter Try.func19, Try.ntmps19
          go_wp2_with (go_at_call 26; (with_reducible refine hq.mono ?_); rintro r w1 ⟨rfl, hb⟩)
          go_ret
          exact ⟨ret_b (by rw [HS.out, HZ2.out]; rfl), hB.tr le_rfl' hb⟩
        · have HZ2 : Hid (sizesOk locs mons = false) := by show _ = _; rw [HZ.out]; simp [h4]
          have hd : ¬ mons ≤ 8 := h4
          clear HZ
          go_enter Try.func19, Try.ntmps19
          go_wp2
          go_ret
          exact ⟨ret_b (by rw [HS.out, HZ2.out]; rfl), hB⟩
      · have HZ2 : Hid (sizesOk locs mons = false) := by show _ = _; rw [HZ.out]; simp [h3]
        clear HZ
        go_enter Try.func19, Try.ntmps19
        go_wp2
        go_ret
        exact ⟨ret_b (by rw [HS.out, HZ2.out]; rfl), hB⟩
    · have HZ2 : Hid (sizesOk locs mons = false) := by show _ = _; rw [HZ.out]; simp [h2]
      clear HZ
      go_enter Try.func19, Try.ntmps19
      go_wp2
      go_ret
      exact ⟨ret_b (by rw [HS.out, HZ2.out]; rfl), hB⟩
  · have HZ2 : Hid (sizesOk locs mons = false) := by show _ = _; rw [HZ.out]; simp [h1]
    clear HZ
    go_enter Try.func19, Try.ntmps19
    go_wp2
    go_ret
    exact ⟨ret_b (by rw [HS.out, HZ2.out]; rfl), hB⟩
end Go.Proofs.Ythdkgfmlihgceaa
