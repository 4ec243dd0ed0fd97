/-
  The statements' own flow (two), and what each statement ends with (live).
-/
import Derived.Test.YthdkgfmlihgceaaHdQ
namespace Go.Proofs.Ythdkgfmlihgceaa
open Go.RowKit
theorem flatGet {α : Type} (size : Nat) (cells : α → List Value) (hlen : ∀ x, (cells x).length = size) (i : Nat) (hi : i < size) : ∀ (l : List α) (j : Nat) (hj : j < l.length), (l.flatMap cells)[j * size + i]? = (cells l[j])[i]? := by
  intro l
  induction l with
  | nil => intro j hj; simp at hj
  | cons a l ih =>
    intro j hj
    rw [List.flatMap_cons]
    cases j with
    | zero => rw [List.getElem?_append_left (by rw [hlen]; omega)]; simp
    | succ j => rw [List.getElem?_append_right (by rw [hlen, Nat.add_mul]; omega), hlen, show (j + 1) * size + i - size = j * size + i by rw [Nat.add_mul]; omega, ih j (by simpa using hj)]; simp
/-- A block that is made of such rows, and a slice of all of it. -/
theorem SlAt.block {α : Type} {size : Nat} {cells : α → List Value} (hlen : ∀ x, (cells x).length = size) {n : Nat} {W : World} {b : Nat} {t : TypeId} {z : Nat × Nat} {l : List α} (h : W.heap[b]? = some (.cells (l.flatMap cells).toArray t z)) (hb : b < n) (hl : l.length ≤ maxLen) : SlAt size cells n W (some ⟨b, 0, none⟩) l.length l := by
  refine ⟨Nat.le_refl _, hl, .inr ⟨b, 0, rfl, hb, fun j hj i hi => ?_⟩⟩
  rw [Nat.zero_add, cellOf h, List.getElem?_toArray, flatGet size cells hlen i hi l j hj]
theorem sl_ownN {w : World} {base : Nat} {v : Value} {r : List (Int × Int)} (h : w.ownsRow base 42 2 v r.length (r.flatMap ncells)) : ∃ ad cp, v = .slice ad r.length cp ∧ SlAt 2 ncells w.heap.size w ad cp r := by
  have h0 := h
  obtain ⟨hl, ⟨rfl, hn⟩ | ⟨g, cap, cur, rfl, hB, hh, hc, hm, hcs, hx⟩⟩ := h
  · have : r = [] := List.eq_nil_of_length_eq_zero hn
    subst this
    exact ⟨none, 0, rfl, by simp, by unfold maxLen; omega, .inl rfl⟩
  · refine ⟨_, cap, rfl, hc, hm, .inr ⟨g, 0, rfl, (Array.getElem?_eq_some_iff.1 hh).1, fun j hj i hi => ?_⟩⟩
    have e := flatGet 2 ncells (fun _ => rfl) i hi r j hj
    obtain ⟨u, hu⟩ : ∃ u, (ncells r[j])[i]? = some u := by
      rcases i with _ | _ | i
      · exact ⟨_, rfl⟩
      · exact ⟨_, rfl⟩
      · omega
    have := h0.cells (g := g) rfl (j * 2 + i) u (e.trans hu)
    rw [Addr.add_lit] at this
    rw [hu, Nat.add_assoc]
    exact this
def eg (s d k m : Int) : Eg := ⟨s, d, k, m, 0, 0, ⟨#[]⟩, ⟨#[]⟩, 0, none, 0, 0, 0, 0, 0, 0, 0⟩
def twoEs : List Eg := [eg 0 1 4 0, eg 1 2 4 1, eg 2 3 5 1, eg 3 4 5 0]
def twoFl (b : Nat) : Fl := ⟨⟨#[]⟩, false, 5, some ⟨b, 0, none⟩, 4, twoEs, none, 0, 0⟩
theorem two_is {b n : Nat} {W : World} (h : W.heap[b]? = some (.cells (twoEs.flatMap Eg.cells).toArray 57 (0, 0))) (hb : b < n) : (twoFl b).Is n W := by
  refine ⟨SlAt.block (size := 15) (cells := Eg.cells) (l := twoEs) (fun _ => rfl) h hb (by unfold maxLen; decide), (by unfold I64; decide : I64 5), fun x hx => ?_⟩
  simp only [twoFl, twoEs, List.mem_cons, List.not_mem_nil, or_false] at hx
  rcases hx with rfl | rfl | rfl | rfl <;> (unfold Eg.Fine I64 eg; simp)
def twoG : Int → Option (List Int) := fun k => if k = 0 then some [0, 0] else if k = 1 then some [1, 0] else if k = 2 then some [1, 1] else if k = 3 then some [1, 0] else if k = 4 then some [0, 0] else none
theorem two_lst : Lst 2 twoEs twoG := by
  refine ⟨⟨rfl, fun x hx o ho => ?_⟩, fun k hk => ?_⟩
  · simp only [twoEs, List.mem_cons, List.not_mem_nil, or_false] at hx
    rcases hx with rfl | rfl | rfl | rfl
    · have : o = [0, 0] := (Option.some.inj ho).symm
      subst this; exact ⟨rfl, rfl⟩
    · have : o = [1, 0] := (Option.some.inj ho).symm
      subst this; exact ⟨rfl, rfl⟩
    · have : o = [1, 1] := (Option.some.inj ho).symm
      subst this; exact ⟨rfl, rfl⟩
    · have : o = [1, 0] := (Option.some.inj ho).symm
      subst this; exact ⟨rfl, rfl⟩
  · have r0 : Reach twoEs 0 := .zero
    have r1 : Reach twoEs 1 := .next (eg 0 1 4 0) (by simp [twoEs]) r0
    have r2 : Reach twoEs 2 := .next (eg 1 2 4 1) (by simp [twoEs]) r1
    have r3 : Reach twoEs 3 := .next (eg 2 3 5 1) (by simp [twoEs]) r2
    have r4 : Reach twoEs 4 := .next (eg 3 4 5 0) (by simp [twoEs]) r3
    unfold twoG at hk
    by_cases h0 : k = 0
    · subst h0; exact r0
    by_cases h1 : k = 1
    · subst h1; exact r1
    by_cases h2 : k = 2
    · subst h2; exact r2
    by_cases h3 : k = 3
    · subst h3; exact r3
    by_cases h4 : k = 4
    · subst h4; exact r4
    simp [h0, h1, h2, h3, h4] at hk
theorem two_held (b : Nat) : heldR (twoFl b) 2 = some [[0, 0], [1, 0], [1, 1], [1, 0], [0, 0]] := by
  unfold heldR
  rw [if_pos (show soundF (twoFl b) 2 = true by rfl)]
  exact heldV_some two_lst
theorem two_no (b : Nat) : heldR (twoFl b) 1 = none := by
  unfold heldR
  rw [if_neg (show ¬ soundF (twoFl b) 1 = true by rw [show soundF (twoFl b) 1 = false by rfl]; decide)]
theorem two_nest (b : Nat) : nestR (twoFl b) 2 = [(0, 1)] := by
  unfold nestR
  rw [two_held]
  rfl
theorem two_sec (b : Nat) : secR (twoFl b) 2 1 = [2] := by
  unfold secR
  rw [two_held]
  rfl
theorem rnd_two : Rnd [(0, 1), (1, 0)] := ⟨0, Tr.snoc (n := (1, 0)) (Tr.one (n := (0, 1)) (by simp)) (by simp)⟩
theorem rnd_one : ¬ Rnd [((0 : Int), (1 : Int))] := fun h => by
  have := Rnd.ends (l := []) (n := ((0 : Int), (1 : Int))) (fun x hx => by cases hx) (by decide) h
  obtain ⟨a, ha⟩ := this
  obtain ⟨n, hn, _⟩ := ha.head
  cases hn
set_option maxRecDepth 100000 in
set_option maxHeartbeats 4000000 in
theorem two_any (w : World) : Calls Try.prog 18 #[] w fun r w' => ∃ b, r = .returned (twoFl b).val ∧ (twoFl b).Is w'.heap.size w' ∧ Below w.heap.size w w' := by
  go_enter Try.func18, Try.ntmps18
  go_wp2
  refine bodyPost_ret (v := (twoFl (w.heap.size + 1)).val) ?_ rfl ⟨_, rfl, two_is ?_ ?_, ?_⟩
  · simp [results, Try.results18, go_sem, Fl.val, Fl.cells, twoFl, twoEs]
  · have h := heapNew (w.alloc (.cells #[.string ⟨#[]⟩, .bool false, .int .i64 5, .slice (some ⟨w.heap.size + 1, 0, none⟩) 4 4, .slice none 0 0] 25)) (.cells (twoEs.flatMap Eg.cells).toArray 57)
    rw [World.size_alloc] at h
    exact h
  · simp
  · exact ((Below.refl _ _).al le_rfl' _).al le_rfl' _
theorem five {w : World} {k : Nat} {a0 a1 a2 a3 a4 : Value} {T : TypeId} (h : w.heap[k]? = some (.cells #[a0, a1, a2, a3, a4] T (0, 0))) :
    w.cell? ⟨k, 0, none⟩ = some a0 ∧ w.cell? ⟨k, 1, none⟩ = some a1 ∧ w.cell? ⟨k, 2, none⟩ = some a2 ∧ w.cell? ⟨k, 3, none⟩ = some a3 ∧ w.cell? ⟨k, 4, none⟩ = some a4 :=
  ⟨cellOf h 0, cellOf h 1, cellOf h 2, cellOf h 3, cellOf h 4⟩
theorem made_i2 (W : World) (a b : Int) : SlAt 1 icell (W.heap.size + 1) (W.alloc (.cells #[.int .i64 a, .int .i64 b] 3)) (some ⟨W.heap.size, 0, none⟩) 2 [a, b] :=
  SlAt.block (size := 1) (cells := icell) (l := [a, b]) (fun _ => rfl) (heapNew W _) (by omega) (by unfold maxLen; simp)
theorem made_i1 (W : World) (a : Int) : SlAt 1 icell (W.heap.size + 1) (W.alloc (.cells #[.int .i64 a] 3)) (some ⟨W.heap.size, 0, none⟩) 1 [a] :=
  SlAt.block (size := 1) (cells := icell) (l := [a]) (fun _ => rfl) (heapNew W _) (by omega) (by unfold maxLen; simp)
theorem made_n1 (W : World) (a b : Int) : SlAt 2 ncells (W.heap.size + 1) (W.alloc (.cells #[.int .i64 a, .int .i64 b] 42)) (some ⟨W.heap.size, 0, none⟩) 1 [(a, b)] :=
  SlAt.block (size := 2) (cells := ncells) (l := [(a, b)]) (fun _ => rfl) (heapNew W _) (by omega) (by unfold maxLen; simp)
theorem made_n2 (W : World) (a b c d : Int) : SlAt 2 ncells (W.heap.size + 1) (W.alloc (.cells #[.int .i64 a, .int .i64 b, .int .i64 c, .int .i64 d] 42)) (some ⟨W.heap.size, 0, none⟩) 2 [(a, b), (c, d)] :=
  SlAt.block (size := 2) (cells := ncells) (l := [(a, b), (c, d)]) (fun _ => rfl) (heapNew W _) (by omega) (by unfold maxLen; simp)
theorem sameS_self (l : List Int) (a1 a2 : Option Addr) (c1 c2 n1 n2 : Nat) (w : World) (h1 : SlAt 1 icell n1 w a1 c1 l) (h2 : SlAt 1 icell n2 w a2 c2 l) :
    Calls Try.prog 10 #[.slice a1 l.length c1, .slice a2 l.length c2] w fun r w' => r = .returned (.bool true) ∧ ∃ n, w' = w.drewN n := (sameS_any l l a1 a2 c1 c2 n1 n2 w h1 h2).mono (by
  rintro r w' ⟨h, hn⟩
  rw [decide_eq_true rfl] at h
  exact ⟨h, hn⟩)
theorem all_self (l : List (Int × Int)) (a1 a2 : Option Addr) (c1 c2 n1 n2 : Nat) (w : World) (h1 : SlAt 2 ncells n1 w a1 c1 l) (h2 : SlAt 2 ncells n2 w a2 c2 l) :
    Calls Try.prog 13 #[.slice a1 l.length c1, .slice a2 l.length c2] w fun r w' => r = .returned (.bool true) ∧ ∃ n, w' = w.drewN n := (all_any l l a1 a2 c1 c2 n1 n2 w h1 h2).mono (by
  rintro r w' ⟨h, hn⟩
  rw [decide_eq_true rfl] at h
  exact ⟨h, hn⟩)
theorem sound_two (b : Nat) : (twoFl b).es.length ≤ 1000000 := by show 4 ≤ 1000000; decide
set_option maxRecDepth 100000 in
set_option maxHeartbeats 8000000 in
theorem live_any (w : World) : Calls Try.prog 6 #[] w fun r w' => r = .returned (.bool true) ∧ Below w.heap.size w w' := by
  have hqT := two_any w
  have q2 : ∀ (b : Nat) (W : World), (twoFl b).Is W.heap.size W → Calls Try.prog 7 #[(twoFl b).val, .int .i64 2] W fun r w' => ∃ rb roff cp cad ccap, r = .returned (.tuple #[.slice (some ⟨rb, roff, none⟩) 5 cp, .bool true]) ∧ rb < w'.heap.size ∧ 5 ≤ cp ∧ cp ≤ 9223372036854775807 ∧ w'.cell? ⟨rb, roff + 2, none⟩ = some (.slice cad 2 ccap) ∧ SlAt 1 icell w'.heap.size w' cad ccap [1, 1] ∧ Below W.heap.size W w' := fun b W hI => (held_any (twoFl b) 2 _ W (Nat.le_refl _) hI (sound_two b)).mono (by
    rintro r w' (⟨ad, cp, rs, h1, h2, ⟨⟨k1, k2, k3⟩, h5⟩, h4⟩ | ⟨h1, _⟩)
    · rw [two_held] at h1
      have e := Option.some.inj h1
      have hl : rs.length = 5 := by have := congrArg List.length e; simpa using this.symm
      have e2 : rs[2].l = [1, 1] := by
        have : (rs.map Rw.l)[2]? = some [1, 1] := by rw [← e]; rfl
        rw [List.getElem?_map, List.getElem?_eq_getElem (by omega)] at this
        exact Option.some.inj this
      rw [hl] at h2 k1
      rcases k3 with h | ⟨rb, roff, rfl, h6, h7⟩
      · rw [h] at hl; cases hl
      · have c := h7 2 (by omega) 0 (by omega)
        have s := h5 rs[2] (List.getElem_mem (by omega))
        rw [e2] at s
        have c2 : (Rw.cells rs[2])[0]? = some (.slice rs[2].ad 2 rs[2].cap) := by unfold Rw.cells Rw.val; rw [e2]; rfl
        unfold maxLen at k2
        exact ⟨rb, roff, cp, rs[2].ad, rs[2].cap, h2, h6, k1, by omega, c.trans c2, s, h4⟩
    · rw [two_held] at h1; cases h1)
  have q1 : ∀ (b : Nat) (W : World), (twoFl b).Is W.heap.size W → Calls Try.prog 7 #[(twoFl b).val, .int .i64 1] W fun r w' => r = .returned (.tuple #[.slice none 0 0, .bool false]) ∧ Below W.heap.size W w' := fun b W hI => (held_any (twoFl b) 1 _ W (Nat.le_refl _) hI (sound_two b)).mono (by
    rintro r w' (⟨ad, cp, rs, h1, h2, h3, h4⟩ | ⟨h1, h2, h3⟩)
    · rw [two_no] at h1; cases h1
    · exact ⟨h2, h3⟩)
  have qn : ∀ (b : Nat) (W : World), (twoFl b).Is W.heap.size W → Calls Try.prog 14 #[(twoFl b).val, .int .i64 2] W fun r w' => ∃ ad cp, r = .returned (.slice ad 1 cp) ∧ SlAt 2 ncells w'.heap.size w' ad cp [((0 : Int), (1 : Int))] ∧ Below W.heap.size W w' := fun b W hI => (nests_any (twoFl b) 2 _ W (Nat.le_refl _) hI (sound_two b)).mono (by
    rintro r w' ⟨v, rfl, h2, h3⟩
    rw [two_nest] at h2
    obtain ⟨ad, cp, rfl, hs⟩ := sl_ownN h2
    exact ⟨ad, cp, rfl, hs, h3⟩)
  have qs : ∀ (b : Nat) (W : World), (twoFl b).Is W.heap.size W → Calls Try.prog 11 #[(twoFl b).val, .int .i64 2, .int .i64 1] W fun r w' => ∃ ad cp, r = .returned (.slice ad 1 cp) ∧ SlAt 1 icell w'.heap.size w' ad cp [2] ∧ Below W.heap.size W w' := fun b W hI => (sections_any (twoFl b) 2 1 _ W (Nat.le_refl _) hI (sound_two b)).mono (by
    rintro r w' ⟨v, rfl, h2, h3⟩
    rw [two_sec] at h2
    obtain ⟨ad, cp, rfl, hs⟩ := sl_own (h2 : w'.ownsRow _ 3 1 v [(2 : Int)].length (ints [2]))
    exact ⟨ad, cp, rfl, hs, h3⟩)
  have qr1 : ∀ (a : Option Addr) (c : Nat) (W : World), SlAt 2 ncells W.heap.size W a c [((0 : Int), (1 : Int)), (1, 0)] → Calls Try.prog 16 #[.slice a 2 c] W fun r w' => r = .returned (.bool true) ∧ Below W.heap.size W w' := fun a c W hI => (round_any [((0 : Int), (1 : Int)), (1, 0)] a c _ W (Nat.le_refl _) hI (by decide)).mono (by
    rintro r w' ⟨b, rfl, h2, h3⟩
    rw [h2.2 rnd_two]
    exact ⟨rfl, h3⟩)
  have qr2 : ∀ (a : Option Addr) (c : Nat) (W : World), SlAt 2 ncells W.heap.size W a c [((0 : Int), (1 : Int))] → Calls Try.prog 16 #[.slice a 1 c] W fun r w' => r = .returned (.bool false) ∧ Below W.heap.size W w' := fun a c W hI => (round_any [((0 : Int), (1 : Int))] a c _ W (Nat.le_refl _) hI (by decide)).mono (by
    rintro r w' ⟨b, rfl, h2, h3⟩
    cases b
    · exact ⟨rfl, h3⟩
    · exact absurd (h2.1 rfl) rnd_one)
  have hv : ∀ b, (twoFl b).val = .agg #[.string ⟨#[]⟩, .bool false, .int .i64 5, .slice (some ⟨b, 0, none⟩) 4 4, .slice none 0 0] := fun _ => rfl
  simp only [hv] at hqT q1 q2 qn qs
  clear hv
  have B1E := fun (W : World) (b : Nat) => five (heapNew W (.cells #[.string ⟨#[]⟩, .bool false, .int .i64 5, .slice (some ⟨b, 0, none⟩) 4 4, .slice none 0 0] 25))
  go_enter Try.func6, Try.ntmps6
  go_wp2_with (first
    | (go_at_call 18; (with_reducible refine hqT.mono ?_); rintro r w1 ⟨b, rfl, hI1, hb1⟩; have bF := heapNew w1 (.cells #[.string ⟨#[]⟩, .bool false, .int .i64 5, .slice (some ⟨b, 0, none⟩) 4 4, .slice none 0 0] 25); have D1 := (Below.refl _ w1).al le_rfl' (.cells #[.string ⟨#[]⟩, .bool false, .int .i64 5, .slice (some ⟨b, 0, none⟩) 4 4, .slice none 0 0] 25); have HI : ∀ W, Below w1.heap.size w1 W → (twoFl b).Is W.heap.size W := (fun W h => (hI1.below h).mono h.size); have hzF : w1.heap.size < (w1.alloc (.cells #[.string ⟨#[]⟩, .bool false, .int .i64 5, .slice (some ⟨b, 0, none⟩) 4 4, .slice none 0 0] 25)).heap.size := (by simp))
    | (go_at_call 7; (with_reducible refine (q2 b _ (HI _ D1)).mono ?_); rintro r w2 ⟨rb, roff, cp, cad, ccap, rfl, hrb, hcp1, hcp2, hcc, hcs, hb2⟩; have D2 := D1.tr le_rfl' hb2; have bF2 := (hb2.block w1.heap.size hzF).trans bF; obtain ⟨f0, f1, f2, f3, f4⟩ := five bF2; have hz2 := hb2.size)
    | (go_at_call 7; (with_reducible refine (q1 b _ (HI _ D2)).mono ?_); rintro r w3 ⟨rfl, hb3⟩; have D3 := D2.tr le_rfl' hb3; have bF3 := (hb3.block w1.heap.size (by have := hb2.size; rw [World.size_alloc] at this; omega)).trans bF2; obtain ⟨g0, g1, g2, g3, g4⟩ := five bF3; have hz3 := hb3.size)
    | (go_at_call 14; go_loud ((with_reducible refine (qn b _ (HI _ D3)).mono ?_); rintro r w4 ⟨nad, ncp, rfl, hN, hb4⟩; have D4 := D3.tr le_rfl' hb4; have E4 : Below w2.heap.size w2 w4 := hb3.tr le_rfl' hb4; have hz4 := hb4.size; have c4 := (E4.cell (p := ⟨rb, roff + 2, none⟩) hrb).trans hcc; have hrb4 : rb < w4.heap.size := (by omega); have bF4 := (hb4.block w1.heap.size (by have := hb2.size; rw [World.size_alloc] at this; omega)).trans bF3; have S1 : Calls Try.prog 10 #[.slice cad 2 ccap, .slice (some ⟨w4.heap.size, 0, none⟩) 2 2] (w4.alloc (.cells #[.int .i64 1, .int .i64 1] 3)) fun r w' => r = .returned (.bool true) ∧ ∃ n, w' = (w4.alloc (.cells #[.int .i64 1, .int .i64 1] 3)).drewN n := sameS_self [1, 1] cad (some ⟨w4.heap.size, 0, none⟩) ccap 2 _ _ (w4.alloc (.cells #[.int .i64 1, .int .i64 1] 3)) (hcs.below (E4.al le_rfl' (.cells #[.int .i64 1, .int .i64 1] 3))) (made_i2 w4 1 1); have D5 := D4.al le_rfl' (.cells #[.int .i64 1, .int .i64 1] 3); have E5 : Below w4.heap.size w4 (w4.alloc (.cells #[.int .i64 1, .int .i64 1] 3)) := (Below.refl _ _).al le_rfl' _))
    | (go_at_call 10; (with_reducible refine S1.mono ?_); rintro r w5 ⟨hr5, n5, hw5⟩; subst hr5; have E6 := below_drewN E5 n5; rw [← hw5] at E6; clear hw5; have hz6 := E6.size; have S2 : Calls Try.prog 13 #[.slice nad 1 ncp, .slice (some ⟨w5.heap.size, 0, none⟩) 1 1] (w5.alloc (.cells #[.int .i64 0, .int .i64 1] 42)) fun r w' => r = .returned (.bool true) ∧ ∃ n, w' = (w5.alloc (.cells #[.int .i64 0, .int .i64 1] 42)).drewN n := all_self [((0 : Int), (1 : Int))] nad (some ⟨w5.heap.size, 0, none⟩) ncp 1 _ _ (w5.alloc (.cells #[.int .i64 0, .int .i64 1] 42)) (hN.below (E6.al le_rfl' _)) (made_n1 w5 0 1))
    | (go_at_call 13; go_loud ((with_reducible refine S2.mono ?_); rintro r w6 ⟨hr6, n6, hw6⟩; subst hr6; have E7 := below_drewN (E6.al le_rfl' (.cells #[.int .i64 0, .int .i64 1] 42)) n6; rw [← hw6] at E7; clear hw6; have hz7 := E7.size; have E8 := E7.al le_rfl' (.cells #[.int .i64 0, .int .i64 1, .int .i64 1, .int .i64 0] 42)))
    | (go_at_call 16; (with_reducible refine (qr1 _ _ _ (by rw [World.size_alloc]; exact made_n2 w6 0 1 1 0)).mono ?_); rintro r w7 ⟨rfl, hb7⟩; have E9 := E8.tr le_rfl' hb7)
    | (go_at_call 16; (with_reducible refine (qr2 nad ncp _ ((hN.below E9).mono E9.size)).mono ?_); rintro r w8 ⟨rfl, hb8⟩; have E10 := E9.tr le_rfl' hb8; have hlt8 : w1.heap.size < w4.heap.size := (by have := hb2.size; rw [World.size_alloc] at this; omega); have bF8 := (E10.block w1.heap.size hlt8).trans bF4; obtain ⟨k0, k1, k2, k3, k4⟩ := five bF8; have D8 := D4.tr le_rfl' E10)
    | (go_at_call 11; (with_reducible refine (qs b _ (HI _ D8)).mono ?_); rintro r w9 ⟨sad, scp, rfl, hS9, hb9⟩; have D9 := D8.tr le_rfl' hb9; have S3 : Calls Try.prog 10 #[.slice sad 1 scp, .slice (some ⟨w9.heap.size, 0, none⟩) 1 1] (w9.alloc (.cells #[.int .i64 2] 3)) fun r w' => r = .returned (.bool true) ∧ ∃ n, w' = (w9.alloc (.cells #[.int .i64 2] 3)).drewN n := sameS_self [2] sad (some ⟨w9.heap.size, 0, none⟩) scp 1 _ _ (w9.alloc (.cells #[.int .i64 2] 3)) (hS9.below ((Below.refl _ _).al le_rfl' _)) (made_i1 w9 2))
    | (go_at_call 10; (with_reducible refine S3.mono ?_); rintro r w10 ⟨hr10, n10, hw10⟩; subst hr10; have D10 := below_drewN (D9.al le_rfl' (.cells #[.int .i64 2] 3)) n10; rw [← hw10] at D10; clear hw10))
  go_ret
  exact ⟨rfl, hb1.tr le_rfl' D10⟩
end Go.Proofs.Ythdkgfmlihgceaa
