/-
  HeldNests, walked.
-/
import Derived.Test.YthdkgfmlihgceaaHeB
import Derived.Test.YthdkgfmlihgceaaHdY
import Derived.Test.YthdkgfmlihgceaaHeA
import Derived.Test.YthdkgfmlihgceaaHdS
namespace Go.Proofs.Ythdkgfmlihgceaa
open Go.RowKit
theorem NestBack.sl {l : List (Int × Int)} {w w' : World} {r : Ending} (h : NestBack l w w' r) : ∃ ad cp, r = .returned (.slice ad l.length cp) ∧ SlAt 2 ncells w'.heap.size w' ad cp l ∧ Below w.heap.size w w' := by
  obtain ⟨v, rfl, h2, h3⟩ := h
  obtain ⟨ad, cp, rfl, hs⟩ := sl_ownN h2
  exact ⟨ad, cp, rfl, hs, h3⟩
theorem step_append_nestsG {w : World} {ops : Array Go.Oper} {o : Go.Oper} {a : Act} {K : Act → World → Prop} {Q : Exit → Act → World → Prop} {E : Prop} (hw : Region.wanted o (yielded ops a.tmps) = true) (s x : Operand)
    (ho : o.op = .call { callee := .builtin .append, args := #[s, x], argTypes := #[35, 35] }) (base : Nat) (v : Value) (hs : a.eval s = v) (hown : w.ownsRow base 42 2 v 0 []) (hv : v ≠ .slice none 0 0) (n : Nat) (ad : Option Addr) (c : Nat) (r : List (Int × Int))
    (hx : a.eval x = .slice ad r.length c) (hsl : SlAt 2 ncells n w ad c r) (hn : r.length ≤ 1000000) (hbase : base ≤ w.heap.size)
    (h : ∀ v' w', w'.ownsRow base 42 2 v' r.length (r.flatMap ncells) → w.grownBy w' v.ownBlock → K (a.put o.dst v') w') : if Region.wanted o (yielded ops a.tmps) = true then Oper.wp Try.prog o a w K Q else E := by
  rw [if_pos hw]
  obtain ⟨v', w', hr, h2, h3⟩ := run_append_nests w base o.type v hown hv n ad c r hsl hn hbase
  unfold Go.Oper.wp execOp
  simp only [ho, resolve, invoke, builtin, Sem.run_bind, Sem.run_pure, Result.andThen_ok, List.map_toArray, List.map_cons, List.map_nil, hs, hx, hr]
  exact h v' w' h2 h3
set_option maxRecDepth 100000 in
set_option maxHeartbeats 16000000 in
theorem heldNests_walk (f : Fl) (mons : Int) (l : List (Int × Int)) (ad : Option Addr) (cap : Nat) (n₀ : Nat) (w : World) (hn : n₀ ≤ w.heap.size) (hf : f.Is n₀ w) (hsl : SlAt 2 ncells n₀ w ad cap l) :
    Calls Try.prog 4 #[f.val, .int .i64 mons, .slice ad l.length cap] w fun r w' => r = .returned (.bool true) ∧ Below w.heap.size w w' := by
  have hq6 := live_any
  have hB1 := (Below.refl w.heap.size w).al le_rfl' (.cells f.cells.toArray 25)
  have hl1 := hsl.1; have hl2 := hsl.2.1
  unfold maxLen at hl2
  by_cases hbig : 100 < f.es.length
  · rcases f with ⟨name, star, locs, ead, ecap, es, gad, gl, gc⟩
    simp only [Fl.val, Fl.cells] at hB1 hbig ⊢
    have hd : decide ((100 : Int) < (es.length : Int)) = true := by simp; omega
    clear hf hsl
    go_enter Try.func4, Try.ntmps4
    go_wp2_with (go_at_call 6; (with_reducible refine (hq6 _).mono ?_); rintro r w1 ⟨rfl, hb1⟩)
    go_ret
    exact ⟨rfl, hB1.tr le_rfl' hb1⟩
  by_cases hmid : 100 < f.locs ∧ f.locs ≤ 600
  · rcases f with ⟨name, star, locs, ead, ecap, es, gad, gl, gc⟩
    simp only [Fl.val, Fl.cells] at hB1 hbig hmid ⊢
    have hd : decide ((100 : Int) < (es.length : Int)) = false := by simp; omega
    obtain ⟨hm1, hm2⟩ := hmid
    have hd1 : decide ((100 : Int) < locs) = true := by simpa using hm1
    have hd2 : decide (locs ≤ 600) = true := by simpa using hm2
    clear hf hsl
    go_enter Try.func4, Try.ntmps4
    go_wp2_with (go_at_call 6; (with_reducible refine (hq6 _).mono ?_); rintro r w1 ⟨rfl, hb1⟩)
    go_ret
    exact ⟨rfl, hB1.tr le_rfl' hb1⟩
  by_cases hlong : 100 < l.length
  · rcases f with ⟨name, star, locs, ead, ecap, es, gad, gl, gc⟩
    simp only [Fl.val, Fl.cells] at hB1 hbig hmid ⊢
    have hd : decide ((100 : Int) < (es.length : Int)) = false := by simp; omega
    have hd3 : decide ((100 : Int) < (l.length : Int)) = true := by simp; omega
    by_cases hm1 : 100 < locs
    all_goals
      first
        | have hd1 : decide ((100 : Int) < locs) = true := by simpa using hm1
          have hd2 : decide (locs ≤ 600) = false := by simp; omega
        | have hd1 : decide ((100 : Int) < locs) = false := by simpa using hm1
      clear hf hsl hmid hbig hlong
      go_enter Try.func4, Try.ntmps4
      go_wp2_with (go_at_call 6; (with_reducible refine (hq6 _).mono ?_); rintro r w1 ⟨rfl, hb1⟩)
      go_ret
      exact ⟨rfl, hB1.tr le_rfl' hb1⟩
  have hes : f.es.length ≤ 1000000 := by omega
  have hl6 : l.length ≤ 1000000 := by omega
  have hq14 := fun (W : World) (hW : Below w.heap.size w W) => (nests_any f mons n₀ W (by have := hW.size; omega) (hf.below (hW.mono hn)) hes).mono (fun r w' h => h.sl)
  have hq15 := fun (W : World) (hW : Below w.heap.size w W) => (docNests_any f mons n₀ W (by have := hW.size; omega) (hf.below (hW.mono hn)) hes).mono (fun r w' h => h.sl)
  obtain ⟨D, hD⟩ : ∃ D, nestR f mons = D := ⟨_, rfl⟩
  rw [hD] at hq14 hq15
  have h13 : ∀ (W : World) (a1 a2 : Option Addr) (c1 c2 n1 n2 : Nat), SlAt 2 ncells n1 W a1 c1 D → SlAt 2 ncells n2 W a2 c2 D → Calls Try.prog 13 #[.slice a1 D.length c1, .slice a2 D.length c2] W fun r w' => r = .returned (.bool true) ∧ Below W.heap.size W w' := fun W a1 a2 c1 c2 n1 n2 h1 h2 => (all_any D D a1 a2 c1 c2 n1 n2 W h1 h2).mono (by
    rintro r w' ⟨rfl, n, rfl⟩
    exact ⟨by simp, below_drewN (Below.refl _ _) _⟩)
  obtain ⟨A, hA⟩ : ∃ A : Bool, (A = true ↔ Rnd l) := by classical exact ⟨decide (Rnd l), by simp⟩
  have q16 : ∀ (W : World) (a : Option Addr) (c : Nat), SlAt 2 ncells W.heap.size W a c l → Calls Try.prog 16 #[.slice a l.length c] W fun r w' => r = .returned (.bool A) ∧ Below W.heap.size W w' := fun W a c hW => (round_any l a c _ W (Nat.le_refl _) hW hl6).mono (by
    rintro r w' ⟨b, rfl, h2, h3⟩
    refine ⟨?_, h3⟩
    have : b = A := by rw [Bool.eq_iff_iff, h2, hA]
    rw [this])
  have q17 : ∀ (W : World), Below w.heap.size w W → Calls Try.prog 17 #[.slice ad l.length cap] W fun r w' => r = .returned (.bool A) ∧ Below W.heap.size W w' := fun W hW => (docRound_any l ad cap n₀ W (by have := hW.size; omega) (hsl.below (hW.mono hn)) hl6).mono (by
    rintro r w' ⟨b, rfl, h2, h3⟩
    refine ⟨?_, h3⟩
    have : b = A := by rw [Bool.eq_iff_iff, h2, hA]
    rw [this])
  have HSL : Hid (∀ W, Below w.heap.size w W → SlAt 2 ncells n₀ W ad cap l) := fun W hW => hsl.below (hW.mono hn)
  have HL6 := hid hl6
  clear hD hes hf hA hsl
  rcases f with ⟨name, star, locs, ead, ecap, es, gad, gl, gc⟩
  simp only [Fl.val, Fl.cells] at hB1 hbig hmid hq14 hq15 ⊢
  have hd : decide ((100 : Int) < (es.length : Int)) = false := by simp; omega
  have hd3 : decide ((100 : Int) < (l.length : Int)) = false := by simp; omega
  obtain ⟨bF, hBF, hzF⟩ := one_box w #[.string name, .bool star, .int .i64 locs, .slice ead es.length ecap, .slice gad gl gc] 25
  have HK : Hid (∀ W, Below (w.heap.size + 1) (w.alloc (.cells #[.string name, .bool star, .int .i64 locs, .slice ead es.length ecap, .slice gad gl gc] 25)) W → BoxIs w.heap.size name star locs ead es.length ecap gad gl gc W) := fun W hW => boxIs ((hW.block w.heap.size (Nat.lt_succ_self _)).trans bF)
  have HW : Hid (∀ W, Below (w.heap.size + 1) (w.alloc (.cells #[.string name, .bool star, .int .i64 locs, .slice ead es.length ecap, .slice gad gl gc] 25)) W → Below w.heap.size w W) := fun W hW => hBF.trans (hW.mono (Nat.le_succ _))
  have B : Below (w.heap.size + 1) (w.alloc (.cells #[.string name, .bool star, .int .i64 locs, .slice ead es.length ecap, .slice gad gl gc] 25)) (w.alloc (.cells #[.string name, .bool star, .int .i64 locs, .slice ead es.length ecap, .slice gad gl gc] 25)) := Below.refl _ _
  have hsz : w.heap.size + 1 ≤ (w.alloc (.cells #[.string name, .bool star, .int .i64 locs, .slice ead es.length ecap, .slice gad gl gc] 25)).heap.size := by rw [World.size_alloc]; exact Nat.le_refl _
  have HSZ := hid hsz
  clear hsz hzF bF hBF hl6
  have hmain : Calls Try.prog 4 #[.agg #[.string name, .bool star, .int .i64 locs, .slice ead es.length ecap, .slice gad gl gc], .int .i64 mons, .slice ad l.length cap] w fun r w' => r = .returned (.bool true) ∧ Below w.heap.size w w' := by
    by_cases hm1 : 100 < locs
    all_goals
      first
        | have hd1 : decide ((100 : Int) < locs) = true := by simpa using hm1
          have hd2 : decide (locs ≤ 600) = false := by simp; omega
        | have hd1 : decide ((100 : Int) < locs) = false := by simpa using hm1
      clear hmid hbig hlong hB1
      cases A
      all_goals
        go_enter Try.func4, Try.ntmps4
        go_upto_region 3 with fail
        go_region_held3 (fun W => W.cell? ⟨w.heap.size, 0, none⟩ = some (.string name) ∧ W.cell? ⟨w.heap.size, 1, none⟩ = some (.bool star) ∧ W.cell? ⟨w.heap.size, 2, none⟩ = some (.int .i64 locs) ∧ W.cell? ⟨w.heap.size, 3, none⟩ = some (.slice ead es.length ecap) ∧ W.cell? ⟨w.heap.size, 4, none⟩ = some (.slice gad gl gc)) (first | exact HK.out _ B | exact HK.out _ B.drew | exact HK.out _ (B.al HSZ.out _) | exact HK.out _ (B.drew.al HSZ.out _)) (first
          | (go_at_call 14; (with_reducible refine (hq14 _ (HW.out _ (by first | exact B | exact B.drew))).mono ?_); rintro r u1 ⟨a1, c1, rfl, hs1, bb⟩; have B := (show Below _ _ _ from (by first | exact B | exact B.drew)).tr HSZ.out bb)
          | (go_at_call 15; (with_reducible refine (hq15 _ (HW.out _ B)).mono ?_); rintro r u2 ⟨a2, c2, rfl, hs2, bb⟩; have B := B.tr HSZ.out bb; have hs1 := hs1.on bb)
          | (go_at_call 13; (with_reducible refine (h13 _ _ _ _ _ _ _ hs1 hs2).mono ?_); rintro r u3 ⟨rfl, bb⟩; have B := B.tr HSZ.out bb)
          | (refine step_append_nestsG (by kernel_rfl) _ _ (by rfl) (w.heap.size + 1) _ (by rfl) (World.ownsRow_made (base := w.heap.size + 1) (e := 42) (size := 2) _ #[] 0 (Nat.le_trans HSZ.out B.size) (by unfold maxLen; omega) rfl) slice_ne n₀ ad cap l (by rfl) (HSL.out _ (HW.out _ (B.al HSZ.out _))) HL6.out (Nat.le_trans HSZ.out (B.al HSZ.out _).size) ?_; intro v4 u4 hown4 hg4; have B := (B.al HSZ.out (.cells #[] 42)).grown hg4 (Nat.le_trans HSZ.out (B.al HSZ.out _).size) (fun k hk => by cases hk; exact Nat.le_trans HSZ.out B.size); obtain ⟨a4, c4, rfl, hs4⟩ := sl_ownN hown4; clear hown4 hg4)
          | (go_at_call 16; (with_reducible refine (q16 _ _ _ hs4).mono ?_); rintro r u5 ⟨rfl, bb⟩; have B := B.tr HSZ.out bb)
          | (go_at_call 17; (with_reducible refine (q17 _ (HW.out _ B)).mono ?_); rintro r u6 ⟨rfl, bb⟩; have B := B.tr HSZ.out bb)
          | (go_at_call 6; (with_reducible refine (hq6 _).mono ?_); rintro r u7 ⟨rfl, bb⟩; have B := B.tr HSZ.out bb))
        all_goals go_wp2
        all_goals go_ret
        all_goals exact ⟨rfl, HW.out _ B⟩
  exact hmain
end Go.Proofs.Ythdkgfmlihgceaa
