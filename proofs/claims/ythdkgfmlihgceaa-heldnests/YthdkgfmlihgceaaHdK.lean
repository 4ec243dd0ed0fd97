/-
  Held of package held: what is owned at each place, or that it can't be told.
-/
import Derived.Test.YthdkgfmlihgceaaHdI
import Derived.Test.YthdkgfmlihgceaaHdJ
namespace Go.Proofs.Ythdkgfmlihgceaa
open Go.RowKit
/-- Held's answer. -/
noncomputable def heldR (f : Fl) (mons : Int) : Option (List (List Int)) := if soundF f mons = true then heldV mons.toNat f.locs.toNat f.es else none
def HeldBack (f : Fl) (mons : Int) (w w' : World) (r : Ending) : Prop :=
  (∃ ad cp rs, heldR f mons = some (rs.map Rw.l) ∧ r = .returned (.tuple #[.slice ad rs.length cp, .bool true]) ∧ RwsAt w'.heap.size w' ad cp rs ∧ Below w.heap.size w w') ∨
  (heldR f mons = none ∧ r = .returned (.tuple #[.slice none 0 0, .bool false]) ∧ Below w.heap.size w w')
theorem IRan.left_eq {W : World} {k r : Nat} {V : Int → Option Value} {left : Int → Prop} {cnt : Nat} (h : IRan W k r V left cnt) : W.rangeLeft k r = cnt := by
  obtain ⟨es, clock, since, seen, c0, hb, hr, _, _, _, _, _, _, hc, _⟩ := h
  simp only [World.rangeLeft, hb, hr]
  exact hc
/-- The rows that are laid so far. -/
def Laid (F : Int → Option (List Int)) (left : Int → Prop) (rs : List Rw) : Prop := ∀ (k : Nat) (h : k < rs.length), (left (k : Int) → rs[k].l = []) ∧ (¬ left (k : Int) → rs[k].l = (F (k : Int)).getD [])
theorem Laid.first {F : Int → Option (List Int)} {left : Int → Prop} (n : Nat) (hl : ∀ k, (F k).isSome = true → left k) : Laid F left (List.replicate n ⟨none, 0, []⟩) := by
  intro k h
  have e : (List.replicate n (⟨none, 0, []⟩ : Rw))[k] = ⟨none, 0, []⟩ := by simp
  rw [e]
  refine ⟨fun _ => rfl, fun hn => ?_⟩
  cases hF : F k with
  | none => rfl
  | some o => exact absurd (hl k (by rw [hF]; rfl)) hn
theorem Laid.next {F : Int → Option (List Int)} {left : Int → Prop} {rs : List Rw} (h : Laid F left rs) {m : Nat} {o : List Int} (hF : F (m : Int) = some o) (ad : Option Addr) (cp : Nat) : Laid F (fun k => left k ∧ k ≠ (m : Int)) (rs.set m ⟨ad, cp, o⟩) := by
  intro k hk
  have hk2 : k < rs.length := by simpa using hk
  rw [List.getElem_set]
  by_cases e : m = k
  · subst e
    rw [if_pos rfl]
    refine ⟨fun hl => absurd rfl hl.2, fun _ => by rw [hF]; rfl⟩
  · rw [if_neg e]
    refine ⟨fun hl => (h k hk2).1 hl.1, fun hl => (h k hk2).2 (fun hl2 => hl ⟨hl2, fun e2 => e (by omega)⟩)⟩
theorem Laid.end {F : Int → Option (List Int)} {left : Int → Prop} {rs : List Rw} (h : Laid F left rs) (hl : ∀ k, ¬ left k) : rs.map Rw.l = rowsOf F rs.length := by
  apply List.ext_getElem
  · simp [rowsOf]
  · intro k h1 h2
    have hk : k < rs.length := by simpa using h1
    rw [List.getElem_map, (h k hk).2 (hl _)]
    simp [rowsOf]
theorem rows_set (rs : List Rw) (m : Nat) (r : Rw) : ((rs.map Rw.val).toArray).setIfInBounds m r.val = ((rs.set m r).map Rw.val).toArray := by
  simp [List.map_set]
theorem info3k : Try.prog.arrayLen 50 = 8 := by kernel_rfl
theorem slice8 (b N : Nat) (h : N ≤ 8) (W : World) : (Instr.sliceAt 50 (.pointer (some ⟨b, 0, none⟩)) none (some (.int .i64 (N : Int))) none).run Try.prog W = .ok (.slice (some ⟨b, 0, none⟩) N 8) W := by
  obtain ⟨i, hi⟩ := info3'
  have he : Try.prog.elem 50 = 3 := by kernel_rfl
  have ht : Try.prog.underlying 50 = some (.array (Try.prog.arrayLen 50) (Try.prog.elem 50)) := by rw [info3k, he]; exact Try.underlying50
  rw [run_sliceAt_array_h W 50 ⟨b, 0, none⟩ ht .i64 (N : Int) (by omega) (by rw [info3k]; omega), he, run_sizeOf W hi, info3k]
  simp [Result.andThen, slicedAt, Addr.add]
set_option maxRecDepth 100000 in
set_option maxHeartbeats 8000000 in
theorem held_any (f : Fl) (mons : Int) (n₀ : Nat) (w : World) (hn : n₀ ≤ w.heap.size) (hf : f.Is n₀ w) (hes : f.es.length ≤ 1000000) :
    Calls Try.prog 7 #[f.val, .int .i64 mons] w fun r w' => HeldBack f mons w w' r := by
  have hB1 := (Below.refl w.heap.size w).al le_rfl' (.cells f.cells.toArray 25)
  have hqS := isSound_any f mons n₀ (w.alloc (.cells f.cells.toArray 25)) (by rw [World.size_alloc]; omega) (hf.below (hB1.mono hn))
  have hqA := fun (W : World) (hW : Below w.heap.size w W) (hS : Sound f mons.toNat) => along_any f mons.toNat n₀ W (by have := hW.size; omega) (hf.below (hW.mono hn)) hes hS
  unfold SoundBack at hqS
  cases hs : soundF f mons
  · have HR : Hid (heldR f mons = none) := by show _ = _; unfold heldR; rw [if_neg (by rw [hs]; decide)]
    rw [hs] at hqS
    rcases f with ⟨name, star, locs, ead, ecap, es, gad, gl, gc⟩
    simp only [Fl.val, Fl.cells] at hqS hB1 ⊢
    clear hqA hs hf
    go_enter Try.func7, Try.ntmps7
    go_wp2_with (go_at_call 19; (with_reducible refine hqS.mono ?_); rintro r w1 ⟨rfl, hb1⟩)
    go_ret2
    exact .inr ⟨HR.out, rfl, hB1.tr le_rfl' hb1⟩
  · obtain ⟨hSd, hm0⟩ := sound_of hs
    have HR : Hid (heldR f mons = heldV mons.toNat f.locs.toNat f.es) := by show _ = _; unfold heldR; rw [if_pos hs]
    have hqA2 := fun W hW => hqA W hW hSd
    rw [hs] at hqS
    have hlo := hSd.locs
    have hN8 := hSd.le8
    rcases f with ⟨name, star, locs, ead, ecap, es, gad, gl, gc⟩
    simp only [Fl.val, Fl.cells] at hqS hB1 hqA2 hlo HR ⊢
    obtain ⟨N, hN⟩ : ∃ N, mons.toNat = N := ⟨_, rfl⟩
    obtain ⟨L, hL⟩ : ∃ L : Nat, locs.toNat = L := ⟨_, rfl⟩
    have hmN : mons = (N : Int) := by omega
    have hlL : locs = (L : Int) := by omega
    rw [hN, hL] at HR
    simp only [hN] at hqA2
    rw [hN] at hN8
    subst hmN hlL
    clear hqA hs hSd hf hN hL
    have hL6 : 1 ≤ L ∧ L ≤ 600 := by omega
    have hmk := make_run (T := 27) (e := 32) (b := 24) Try.underlying27 info32 rfl L (by omega) (by omega)
    by_cases hC : ∃ G, Con N es G
    · have hqA3 : ∀ W, Below w.heap.size w W → Calls Try.prog 20 #[.agg #[.string name, .bool star, .int .i64 (L : Int), .slice ead es.length ecap, .slice gad gl gc]] W fun r w' => ∃ b F, r = .returned (.tuple #[.map (some b), .bool true]) ∧ IMap w' b (mapV F) ∧ Lst N es F ∧ (∀ k o, F k = some o → o.length = N ∧ 0 ≤ k ∧ k < (L : Int)) ∧ Below W.heap.size W w' := fun W hW => (hqA2 W hW).mono (by
        rintro r w' (⟨b, F, h1, h2, _, h3, h4, h5⟩ | ⟨_, h, _⟩)
        · exact ⟨b, F, h1, h2, h3, h4, h5⟩
        · exact absurd hC h)
      clear hqA2 hC
      go_enter Try.func7, Try.ntmps7
      go_wp2_with (first
        | (go_at_call 19; (with_reducible refine hqS.mono ?_); rintro r w1 ⟨rfl, hb1⟩; have B2 := hB1.tr le_rfl' hb1; have bF1 := (hb1.block w.heap.size (by rw [World.size_alloc]; omega)).trans (heapNew w _); obtain ⟨f2, f3⟩ := FBox.cells bF1; have f0 := cellOf bF1 0; have f1 := cellOf bF1 1; have f4 := cellOf bF1 4; simp at f0 f1 f4; have hz1 : w.heap.size < w1.heap.size := (by have := hb1.size; rw [World.size_alloc] at this; omega))
        | (go_at_call 20; (with_reducible refine (hqA3 _ B2).mono ?_); rintro r w2 ⟨b, F, rfl, hM, hLs, hsz, hb2⟩; have bF2 := (hb2.block w.heap.size hz1).trans bF1; obtain ⟨g2, g3⟩ := FBox.cells bF2; obtain ⟨W4, cnt, hrg, hRan, hb4, hz4⟩ := (hM.al (.cells (Array.replicate L (.slice none 0 0)) 32)).range Try.underlying46; rw [World.size_alloc] at hRan; have B4 := ((B2.tr le_rfl' hb2).al le_rfl' (.cells (Array.replicate L (.slice none 0 0)) 32)).tr le_rfl' hb4; have HLS := hid hLs; have HSZ := hid hsz; have bR := (hb4.block w2.heap.size (by rw [World.size_alloc]; omega)).trans (heapNew w2 _); have hbl := hM.lt; have HZ4 := hid hz4; clear hLs hsz hz4 hM))
      have hrep : Array.replicate L (Value.slice none 0 0) = ((List.replicate L (⟨none, 0, []⟩ : Rw)).map Rw.val).toArray := by simp [Rw.val]
      rw [hrep] at bR
      clear hrep hrg hmk f0 f1 f2 f3 f4 g2 g3
      have hzz : w2.heap.size + 1 < W4.heap.size := by rw [HZ4.out, World.size_alloc]; omega
      go_loopw [28] (fun _ wr => ∃ left cnt rs, IRan wr b (w2.heap.size + 1) (mapV F) left cnt ∧ wr.heap[w2.heap.size]? = some (.cells (rs.map Rw.val).toArray 32 (0, 0)) ∧ rs.length = L ∧ Hid (Laid F left rs) ∧ Hid (∀ x ∈ rs, SlAt 1 icell wr.heap.size wr x.ad x.cap x.l ∧ ∀ a, x.ad = some a → a.block ≠ w2.heap.size ∧ a.block ≠ w2.heap.size + 1) ∧ Below w.heap.size w wr)
        (fun _ w' => w'.rangeLeft b (w2.heap.size + 1))
      case atStart =>
        refine ⟨_, cnt, List.replicate L ⟨none, 0, []⟩, hRan, bR, by simp, Laid.first L (fun k hk => (by unfold mapV; simpa using hk : (mapV F k).isSome = true)), fun x hx => ?_, B4⟩
        obtain ⟨_, rfl⟩ := List.mem_replicate.1 hx
        exact ⟨⟨Nat.le_refl _, by unfold maxLen; simp, .inl rfl⟩, fun a ha => by cases ha⟩
      case round =>
        obtain ⟨left, cnt, rs, hR, bRr, hrl, HLD, HSL, hbw⟩ := hrel
        have hzw := hbw.size
        have hRlt := (Array.getElem?_eq_some_iff.1 bRr).1
        rcases hR.next 0 with ⟨h0, hnone, hrun⟩ | ⟨n, v, W', cnt', hln, hVn, hrun, hR', hcl, hg', hs', hent⟩
        · have HE := hid (HLD.out.end hnone)
          have HV : Hid (heldR ⟨name, star, (L : Int), ead, ecap, es, gad, gl, gc⟩ (N : Int) = some (rs.map Rw.l)) := by
            show _ = _
            rw [HR.out, heldV_some HLS.out, HE.out, hrl]
          have HRL := hid hrl
          clear hrl h0 hnone
          go_wp2
          go_ret2
          refine .inl ⟨some ⟨w2.heap.size, 0, none⟩, L, rs, HV.out, by rw [HRL.out]; rfl, ⟨⟨by rw [HRL.out]; exact Nat.le_refl _, by unfold maxLen; omega, .inr ⟨_, 0, rfl, hRlt, fun j hj i hi => ?_⟩⟩, fun x hx => (HSL.out x hx).1⟩, hbw⟩
          obtain rfl : i = 0 := by omega
          rw [Nat.zero_add, Nat.mul_one, Nat.add_zero, cellOf bRr]
          simp [Rw.cells, hj]
        · obtain ⟨o, ho, rfl⟩ : ∃ o, F n = some o ∧ v = .agg (ints (pad o)).toArray := by
            unfold mapV at hVn
            cases e : F n with
            | none => rw [e] at hVn; cases hVn
            | some o => rw [e] at hVn; exact ⟨o, rfl, (Option.some.inj hVn).symm⟩
          obtain ⟨hol, hn0, hnL⟩ := HSZ.out n o ho
          obtain ⟨m, rfl⟩ : ∃ m : Nat, n = (m : Int) := ⟨n.toNat, by omega⟩
          obtain ⟨p0, p1, p2, p3, p4, p5, p6, p7, hP8⟩ := list8 (pad_len (o := o) (by omega))
          have hW'R := (hg'.block w2.heap.size hRlt (by intro e; injection e with e; omega)).trans bRr
          have hpre : SlAt 1 icell (W'.alloc (.cells (ints (pad o)).toArray 50)).heap.size (W'.alloc (.cells (ints (pad o)).toArray 50)) (some ⟨W'.heap.size, 0, none⟩) 8 o := by
            refine ⟨by omega, by unfold maxLen; omega, .inr ⟨_, 0, rfl, by rw [World.size_alloc]; omega, fun j hj i hi => ?_⟩⟩
            obtain rfl : i = 0 := by omega
            rw [Nat.zero_add, Nat.mul_one, Nat.add_zero, cellOf (heapNew W' _), List.getElem?_toArray]
            unfold pad ints icell
            rw [List.map_append, List.getElem?_append_left (by simpa using hj)]
            simp [hj]
          have hqc := clone_any o ⟨W'.heap.size, 0, none⟩ 8 _ (W'.alloc (.cells (ints (pad o)).toArray 50)) (Nat.le_refl _) hpre (by omega)
          unfold IntBack at hqc
          rw [hol, hP8] at hqc
          rw [hP8] at hrun hent
          simp only [ints, List.map_cons, List.map_nil] at hqc hrun hent
          have HO := hid ho
          have HOL := hid hol
          have HP8 := hid hP8
          have HS' := hid hs'
          have hRW : w2.heap.size < W'.heap.size := by rw [hs']; exact hRlt
          have hmr : m < rs.length := by omega
          have HRL := hid hrl
          have HBW' : Hid (Below w.heap.size w W') := hbw.grown hg' hzw (fun j hj => by cases hj; have := B2.size; have := hb2.size; omega)
          have HR'1 := hid hR.left_eq
          clear ho hol hP8 hpre hs' hrl hVn
          have hbW : b < W'.heap.size := by omega
          have hsl8 := slice8 W'.heap.size N hN8
          have hiW : w2.heap.size + 1 < W'.heap.size := by have := hR'.lt; omega
          go_wp2_with (go_at_call 21; go_loud ((with_reducible refine hqc.mono ?_); rintro r w5 ⟨ad, cp, rfl, hs5, ha5, hb5⟩; have bR5 := (hb5.block w2.heap.size (by rw [World.size_alloc]; omega)).trans ((Below.heap_alloc W' _ _ hRW).trans hW'R); have cR5 := (cellOf bR5 m).trans (by simp [hmr] : (rs.map Rw.val).toArray[m]? = some rs[m].val); have fR5 : w5.frozen? ⟨w2.heap.size, m, none⟩ = false := (by simp [World.frozen?, bR5])))
          have bR6 := setBox (i := m) bR5 (.slice ad N cp)
          have hval : Rw.val ⟨ad, cp, o⟩ = .slice ad N cp := by unfold Rw.val; rw [HOL.out]
          rw [← hval, rows_set] at bR6
          have hit : ∀ j, j < W'.heap.size → j ≠ w2.heap.size → (w5.setCell ⟨w2.heap.size, m, none⟩ (.slice ad N cp)).heap[j]? = W'.heap[j]? := fun j hj hne =>
            (Below.heap_setCell w5 ⟨w2.heap.size, m, none⟩ _ j hne).trans ((hb5.block j (by rw [World.size_alloc]; omega)).trans (Below.heap_alloc W' _ _ hj))
          have hR6 := hR'.kept (hit b hbW (by omega)) (hit (w2.heap.size + 1) hiW (by omega))
          have hle1 := HR'1.out
          have hle2 := hR6.left_eq
          rw [hval] at bR6
          go_roundw
          case rel =>
            refine ⟨_, cnt', rs.set m ⟨ad, cp, o⟩, hR6, bR6, by rw [List.length_set]; exact HRL.out, HLD.out.next HO.out ad cp, fun x hx => ?_, ?_⟩
            · rcases List.mem_or_eq_of_mem_set hx with hx | rfl
              · obtain ⟨x1, x2⟩ := HSL.out x hx
                refine ⟨?_, x2⟩
                have y1 := (x1.grown (Nat.le_refl _) hg' (fun a ha => (x2 a ha).2)).mono (Nat.le_of_eq HS'.out.symm)
                have y2 := y1.below ((((Below.refl _ _).al le_rfl' _).tr le_rfl' hb5))
                refine ((y2.set (fun a ha => (x2 a ha).1) _).mono ?_)
                have h9 := hb5.size
                rw [World.size_alloc] at h9
                simp only [World.setCell, Array.size_modify]
                omega
              · refine ⟨?_, fun a ha => by have := ha5 a ha; rw [World.size_alloc] at this; omega⟩
                have y2 := hs5
                refine (y2.set (fun a ha => by have := ha5 a ha; rw [World.size_alloc] at this; omega) _).mono ?_
                simp only [World.setCell, Array.size_modify]
                exact Nat.le_refl _
            · exact (((HBW'.out.al le_rfl' _).tr le_rfl' hb5).setCell (p := ⟨w2.heap.size, m, none⟩) (by have := B2.size; have := hb2.size; show w.heap.size ≤ w2.heap.size; omega) _)
          case measure => rw [hle2, hle1]; exact hcl
    · have HR2 : Hid (heldR ⟨name, star, (L : Int), ead, ecap, es, gad, gl, gc⟩ (N : Int) = none) := by show _ = _; rw [HR.out, heldV_none hC]
      have hqA3 : ∀ W, Below w.heap.size w W → Calls Try.prog 20 #[.agg #[.string name, .bool star, .int .i64 (L : Int), .slice ead es.length ecap, .slice gad gl gc]] W fun r w' => r = .returned (.tuple #[.map none, .bool false]) ∧ Below W.heap.size W w' := fun W hW => (hqA2 W hW).mono (by
        rintro r w' (⟨b, F, _, _, _, h3, _⟩ | ⟨h1, _, h5⟩)
        · exact absurd ⟨F, h3.con⟩ hC
        · exact ⟨h1, h5⟩)
      clear hqA2 hC
      go_enter Try.func7, Try.ntmps7
      go_wp2_with (first
        | (go_at_call 19; (with_reducible refine hqS.mono ?_); rintro r w1 ⟨rfl, hb1⟩; have B2 := hB1.tr le_rfl' hb1; have bF1 := (hb1.block w.heap.size (by rw [World.size_alloc]; omega)).trans (heapNew w _); obtain ⟨f2, f3⟩ := FBox.cells bF1; have f0 := cellOf bF1 0; have f1 := cellOf bF1 1; have f4 := cellOf bF1 4; simp at f0 f1 f4)
        | (go_at_call 20; (with_reducible refine (hqA3 _ B2).mono ?_); rintro r w2 ⟨rfl, hb2⟩))
      go_ret2
      exact .inr ⟨HR2.out, rfl, B2.tr le_rfl' hb2⟩
end Go.Proofs.Ythdkgfmlihgceaa
