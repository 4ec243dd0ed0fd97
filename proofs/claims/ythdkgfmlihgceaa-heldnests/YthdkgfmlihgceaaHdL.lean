/-
  Sections of package held: the places at which a monitor is owned.
-/
import Derived.Test.YthdkgfmlihgceaaHdK
namespace Go.Proofs.Ythdkgfmlihgceaa
open Go.RowKit
/-- The numbers of those of a list of which p is so. -/
def idxI {α : Type} (p : α → Bool) : List α → Nat → List Int
  | [], _ => []
  | x :: l, i => (if p x then [(i : Int)] else []) ++ idxI p l (i + 1)
theorem idxI_app {α : Type} (p : α → Bool) (l m : List α) : ∀ i, idxI p (l ++ m) i = idxI p l i ++ idxI p m (i + l.length) := by
  induction l with
  | nil => intro i; simp [idxI]
  | cons x l ih => intro i; rw [List.cons_append, idxI, idxI, ih, List.length_cons, List.append_assoc, show i + 1 + l.length = i + (l.length + 1) by omega]
theorem idxI_snoc {α : Type} (p : α → Bool) (l : List α) (j : Nat) (h : j < l.length) : idxI p (l.take (j + 1)) 0 = idxI p (l.take j) 0 ++ if p l[j] then [(j : Int)] else [] := by
  rw [List.take_succ_eq_append_getElem h, idxI_app]
  simp [idxI, Nat.min_eq_left (Nat.le_of_lt h)]
theorem idxI_len {α : Type} (p : α → Bool) (l : List α) : ∀ i, (idxI p l i).length ≤ l.length := by
  induction l with
  | nil => intro i; simp [idxI]
  | cons x l ih =>
    intro i
    rw [idxI, List.length_append, List.length_cons]
    have := ih (i + 1)
    split <;> simp <;> omega
theorem idxI_map {α β : Type} (p : β → Bool) (g : α → β) (l : List α) : ∀ i, idxI p (l.map g) i = idxI (fun x => p (g x)) l i := by
  induction l with
  | nil => intro i; rfl
  | cons x l ih => intro i; rw [List.map_cons, idxI, idxI, ih]
/-- Held's answer, told for both ways at once. -/
theorem HeldBack.uni {f : Fl} {mons : Int} {w w' : World} {r : Ending} (h : HeldBack f mons w w' r) :
    ∃ ad cp rs, (heldR f mons).getD [] = rs.map Rw.l ∧ r = .returned (.tuple #[.slice ad rs.length cp, .bool (heldR f mons).isSome]) ∧ RwsAt w'.heap.size w' ad cp rs ∧ Below w.heap.size w w' := by
  rcases h with ⟨ad, cp, rs, h1, h2, h3, h4⟩ | ⟨h1, h2, h4⟩
  · exact ⟨ad, cp, rs, by rw [h1]; rfl, by rw [h1]; exact h2, h3, h4⟩
  · exact ⟨none, 0, [], by rw [h1]; rfl, by rw [h1]; exact h2, ⟨⟨by simp, by unfold maxLen; omega, .inl rfl⟩, fun r hr => by cases hr⟩, h4⟩
def secT (mon : Int) (r : List Int) : Bool := isPl mon r.length && decide (0 < r.getD mon.toNat 0)
/-- The places at which it is owned. -/
noncomputable def secR (f : Fl) (mons mon : Int) : List Int := idxI (secT mon) ((heldR f mons).getD []) 0
theorem heldR_len {f : Fl} {mons : Int} : ((heldR f mons).getD []).length ≤ 600 ∧ ∀ r ∈ (heldR f mons).getD [], r.length ≤ 8 := by
  unfold heldR
  split
  · rename_i hs
    obtain ⟨hS, h0⟩ := sound_of hs
    unfold heldV
    split
    · rename_i hx
      have hG := hx.choose_spec
      refine ⟨?_, fun r hr => ?_⟩
      · have := hS.locs.2; simp [rowsOf]; omega
      · simp only [Option.getD_some, rowsOf, List.mem_map] at hr
        obtain ⟨k, _, rfl⟩ := hr
        cases e : hx.choose (k : Int) with
        | none => simp
        | some o =>
          obtain ⟨o', h1, h2⟩ := hG.con.reach (hG.only _ (by rw [e]; rfl))
          rw [e] at h1
          obtain rfl := Option.some.inj h1
          have := hS.le8
          simp; omega
    · simp
  · simp
def OwnBack (l : List Int) (w w' : World) (r : Ending) : Prop := ∃ v, r = .returned v ∧ w'.ownsRow w.heap.size 3 1 v l.length (ints l) ∧ Below w.heap.size w w'
set_option maxRecDepth 100000 in
set_option maxHeartbeats 8000000 in
theorem sections_any (f : Fl) (mons mon : Int) (n₀ : Nat) (w : World) (hn : n₀ ≤ w.heap.size) (hf : f.Is n₀ w) (hes : f.es.length ≤ 1000000) :
    Calls Try.prog 11 #[f.val, .int .i64 mons, .int .i64 mon] w fun r w' => OwnBack (secR f mons mon) w w' r := by
  have hB1 := (Below.refl w.heap.size w).al le_rfl' (.cells f.cells.toArray 25)
  have hqH := held_any f mons n₀ (w.alloc (.cells f.cells.toArray 25)) (by rw [World.size_alloc]; omega) (hf.below (hB1.mono hn)) hes
  have hlen := heldR_len (f := f) (mons := mons)
  have HSC := hid (show secR f mons mon = idxI (secT mon) ((heldR f mons).getD []) 0 from rfl)
  obtain ⟨H, hH⟩ : ∃ H, (heldR f mons).getD [] = H := ⟨_, rfl⟩
  have hq2 : Calls Try.prog 7 #[f.val, .int .i64 mons] (w.alloc (.cells f.cells.toArray 25)) fun r w' => ∃ ad cp rs ok, H = rs.map Rw.l ∧ r = .returned (.tuple #[.slice ad rs.length cp, .bool ok]) ∧ RwsAt w'.heap.size w' ad cp rs ∧ Below (w.alloc (.cells f.cells.toArray 25)).heap.size (w.alloc (.cells f.cells.toArray 25)) w' := hqH.mono (fun r w' h => by
    obtain ⟨ad, cp, rs, h1, h2, h3, h4⟩ := h.uni
    exact ⟨ad, cp, rs, _, hH ▸ h1, h2, h3, h4⟩)
  rw [hH] at HSC hlen
  obtain ⟨hl6, hl8⟩ := hlen
  obtain ⟨S, hS⟩ : ∃ S, secR f mons mon = S := ⟨_, rfl⟩
  rw [hS] at HSC
  rw [hS]
  clear hqH hH hS hf hes
  rcases f with ⟨name, star, locs, ead, ecap, es, gad, gl, gc⟩
  simp only [Fl.val, Fl.cells] at hq2 hB1 ⊢
  obtain ⟨i0, hi, hz0, hz1, hz2⟩ := info_of info3
  go_enter Try.func11, Try.ntmps11
  go_wp2_with (go_at_call 7; (with_reducible refine hq2.mono ?_); rintro r w1 ⟨ad, cp, rs, ok, hHr, rfl, hRs, hb1⟩; have HHR := hid hHr; clear hHr; have hR1 := hRs.1.1; have hR2 := hRs.1.2.1)
  unfold maxLen at hR2
  have B1 := hB1.tr le_rfl' hb1
  have HL8 : Hid (∀ x ∈ rs, x.l.length ≤ 8) := fun x hx => hl8 _ (by rw [HHR.out]; exact List.mem_map.2 ⟨x, hx, rfl⟩)
  have hrs6 : rs.length ≤ 600 := by rw [HHR.out, List.length_map] at hl6; exact hl6
  have HSC2 : Hid (S = idxI (fun x : Rw => secT mon x.l) rs 0) := by show _ = _; rw [HSC.out, HHR.out, idxI_map]
  clear hl8 hl6 HSC hq2
  go_loopw [9, 20] (fun v i wr => ∃ (k : Nat) (v' : Value), v = v' ∧ i = .int .i64 k ∧ k ≤ rs.length ∧ wr.ownsRow w1.heap.size 3 1 v' (idxI (fun x : Rw => secT mon x.l) (rs.take k) 0).length (ints (idxI (fun x : Rw => secT mon x.l) (rs.take k) 0)) ∧ Below w1.heap.size w1 wr)
    (fun _ i _ => rs.length - (intOf i).toNat)
  case atStart => exact ⟨0, _, rfl, rfl, by omega, World.ownsRow_nil _ _ _ _, Below.refl _ _⟩
  case round =>
    obtain ⟨k, v, hv, rfl, hk, hown, hbw⟩ := hrel
    have hv2 := hv.symm
    subst hv2
    clear hv
    have hzw := hbw.size
    have hle := idxI_len (fun x : Rw => secT mon x.l) (rs.take k) 0
    rw [List.length_take] at hle
    by_cases hlt : k < rs.length
    · have hkd : decide ((k : Int) < (rs.length : Int)) = true := by simp; omega
      have HJ := hid (idxI_snoc (fun x : Rw => secT mon x.l) rs k hlt)
      have hx8 := HL8.out _ (List.getElem_mem hlt)
      have hxs := hRs.2 _ (List.getElem_mem hlt)
      rcases hRs.1.2.2 with h | ⟨ab, aoff, rfl, habn, harow⟩
      · subst h; simp at hlt
      have c0 := (harow.below hbw habn) k hlt 0 (by omega)
      obtain ⟨xs, hxs2⟩ : ∃ xs, idxI (fun x : Rw => secT mon x.l) (rs.take k) 0 = xs := ⟨_, rfl⟩
      rw [hxs2] at HJ hown hle
      clear hxs2
      rcases hx : rs[k] with ⟨xad, xcap, xl⟩
      rw [hx] at hx8 hxs HJ c0
      simp only [Rw.cells, Rw.val] at c0 hx8 hxs HJ
      simp at c0
      have habw : ab < wr.heap.size := by omega
      have hqP := fun W => isPlace_any mon (xl.length : Int) W
      have HT := hid (show secT mon xl = (isPl mon xl.length && decide (0 < xl.getD mon.toNat 0)) from rfl)
      clear hx harow
      cases hp : isPl mon (xl.length : Int)
      · rw [hp, Bool.false_and] at HT
        simp only [hp] at hqP
        have HJ2 : Hid (idxI (fun x : Rw => secT mon x.l) (rs.take (k + 1)) 0 = xs) := by show _ = _; rw [HJ.out, HT.out]; simp
        clear hp hxs HT HJ
        go_wp2_with (go_at_call 24; (with_reducible refine (hqP _).mono ?_); rintro r w2 ⟨rfl, hw'⟩; have hw2 := hw'.symm; subst hw2)
        go_roundw
        case rel => exact ⟨k + 1, _, rfl, by go_num, by omega, by rw [HJ2.out]; exact hown, hbw⟩
        case measure => simp [intOf]; omega
      · rw [hp, Bool.true_and] at HT
        simp only [hp] at hqP
        obtain ⟨hm0, hml⟩ := isPl_iff.1 hp
        obtain ⟨m, rfl⟩ : ∃ m : Nat, mon = (m : Int) := ⟨mon.toNat, by omega⟩
        have hml2 : m < xl.length := by omega
        rw [Int.toNat_natCast] at HT
        rcases hxs.2.2 with h | ⟨qb, qoff, rfl, hqn, hqrow⟩
        · subst h; simp at hml2
        have d0 := (hqrow.below hbw hqn) m hml2 0 (by omega)
        have hgd : xl.getD m 0 = xl[m] := by simp [hml2]
        simp only [icell] at d0
        simp at d0
        have hqw : qb < wr.heap.size := by omega
        have hx1 := hxs.1; have hx2 := hxs.2.1
        unfold maxLen at hx2
        rw [hgd] at HT
        obtain ⟨z, hz⟩ : ∃ z, xl[m] = z := ⟨_, rfl⟩
        rw [hz] at d0 HT
        clear hz hgd hxs hqrow hp
        by_cases hz0' : 0 < z
        · have hzd : decide (0 < z) = true := by simpa using hz0'
          have HJ2 : Hid (idxI (fun x : Rw => secT (m : Int) x.l) (rs.take (k + 1)) 0 = xs ++ [(k : Int)]) := by show _ = _; rw [HJ.out, HT.out, hzd]; simp
          clear HT HJ
          go_wp2_with (first
            | (go_at_call 24; (with_reducible refine (hqP _).mono ?_); rintro r w2 ⟨rfl, hw'⟩; have hw2 := hw'.symm; subst hw2)
            | (at_builtin; refine wpList_append_lies _ rfl _ _ 32 rfl w1.heap.size 3 i0 (.int .i64 0) 1 8 Try.underlying32 hi hz0 hz1 hz2 rfl (by decide) v xs.length (ints xs) rfl (hown.alloc _) ⟨wr.heap.size, 0, none⟩ 1 1 [.int .i64 k] rfl rfl (World.news_of_block (cs := #[.int .i64 k]) (t := 3) (fr := (0, 0)) (heapNew _ _)) (by simp [Value.oneCell']) (by decide) (by unfold maxLen; omega) (by omega) (by simp; omega) (wr.heap.size + 1) (by simp) ?_; intro g cap w6 hown6 hgrow hat6 hlt6))
          go_roundw
          case rel => exact ⟨k + 1, _, rfl, by go_num, by omega, by rw [HJ2.out]; simpa [ints] using hown6, (hbw.al le_rfl' _).grown hgrow (hbw.al le_rfl' _).size (fun g hg => (hown.lt g hg).1)⟩
          case measure => simp [intOf]; omega
        · have hzd : decide (0 < z) = false := by simpa using hz0'
          have HJ2 : Hid (idxI (fun x : Rw => secT (m : Int) x.l) (rs.take (k + 1)) 0 = xs) := by show _ = _; rw [HJ.out, HT.out, hzd]; simp
          clear HT HJ
          go_wp2_with (go_at_call 24; (with_reducible refine (hqP _).mono ?_); rintro r w2 ⟨rfl, hw'⟩; have hw2 := hw'.symm; subst hw2)
          go_roundw
          case rel => exact ⟨k + 1, _, rfl, by go_num, by omega, by rw [HJ2.out]; exact hown, hbw⟩
          case measure => simp [intOf]; omega
    · have hkd : decide ((k : Int) < (rs.length : Int)) = false := by simp; omega
      have HE : Hid (idxI (fun x : Rw => secT mon x.l) (rs.take k) 0 = S) := by show _ = _; rw [HSC2.out, List.take_of_length_le (by omega)]
      have hown2 := HE.out ▸ hown
      clear hle hown
      go_wp2
      go_ret
      refine ⟨v, rfl, ?_, B1.tr le_rfl' hbw⟩
      exact ⟨hown2.1, by
        rcases hown2.2 with h | ⟨g, cap, cur, h1, h2, h3⟩
        · exact .inl h
        · exact .inr ⟨g, cap, cur, h1, by have := B1.size; omega, h3⟩⟩
end Go.Proofs.Ythdkgfmlihgceaa
