/-
  The document's Round: from each nest on, who is reached.
-/
import Derived.Test.YthdkgfmlihgceaaHdU
namespace Go.Proofs.Ythdkgfmlihgceaa
open Go.RowKit
theorem nodup_sub2 : ∀ (s m : List Int), s.Nodup → (∀ x ∈ s, x ∈ m) → s.length ≤ m.length := by
  intro s
  induction s with
  | nil => intros; simp
  | cons x s ih =>
    intro m hn hs
    obtain ⟨h1, h2⟩ := List.nodup_cons.1 hn
    have hx := hs x (by simp)
    have h3 := ih (m.erase x) h2 (fun y hy => (List.mem_erase_of_ne (fun e => h1 (by rw [← e]; exact hy))).2 (hs y (by simp [hy])))
    rw [List.length_erase_of_mem hx] at h3
    have h4 := List.length_pos_of_mem hx
    rw [List.length_cons]; omega
/-- Who is reached from a so far. -/
structure Bf (l : List (Int × Int)) (a : Int) (s : List Int) (n k : Nat) : Prop where
  nodup : s.Nodup
  head : a ∈ s
  way : ∀ z ∈ s, z = a ∨ Tr l a z
  done : ∀ j, j < n → ∀ x ∈ l, s[j]? = some x.1 → x.2 ∈ s
  part : ∀ q x, q < k → l[q]? = some x → s[n]? = some x.1 → x.2 ∈ s
variable {l : List (Int × Int)} {a : Int} {s : List Int} {n k : Nat}
theorem Bf.first : Bf l a [a] 0 0 := ⟨by simp, by simp, fun z hz => .inl (List.mem_singleton.1 hz), fun j hj => by omega, fun q x hq => by omega⟩
theorem Bf.skip (h : Bf l a s n k) {x : Int × Int} (hx : l[k]? = some x) (hne : s[n]? = some x.1 → x.2 ∈ s) : Bf l a s n (k + 1) :=
  ⟨h.nodup, h.head, h.way, h.done, fun q y hq hy hs => by
    by_cases e : q = k
    · subst e
      rw [hx] at hy
      obtain rfl := Option.some.inj hy
      exact hne hs
    · exact h.part q y (by omega) hy hs⟩
theorem Bf.grow (h : Bf l a s n k) (hnl : n < s.length) {x : Int × Int} (hx : l[k]? = some x) (hn : s[n]? = some x.1) (hnot : x.2 ∉ s) : Bf l a (s ++ [x.2]) n (k + 1) := by
  have hxm : x ∈ l := List.mem_of_getElem? hx
  refine ⟨List.nodup_append.2 ⟨h.nodup, by simp, fun b hb c hc => by simp at hc; rintro rfl; exact hnot (hc ▸ hb)⟩, List.mem_append.2 (.inl h.head), fun z hz => ?_, fun j hj y hy hs => ?_, fun q y hq hy hs => ?_⟩
  · rcases List.mem_append.1 hz with hz | hz
    · exact h.way z hz
    · rw [List.mem_singleton.1 hz]
      right
      rcases h.way x.1 (List.mem_of_getElem? hn) with e | e
      · rw [← e]; exact .one hxm
      · exact .snoc e hxm
  · rw [List.getElem?_append_left (by omega)] at hs
    exact List.mem_append.2 (.inl (h.done j hj y hy hs))
  · rw [List.getElem?_append_left hnl] at hs
    by_cases e : q = k
    · subst e
      rw [hx] at hy
      obtain rfl := Option.some.inj hy
      simp
    · exact List.mem_append.2 (.inl (h.part q y (by omega) hy hs))
theorem Bf.next (h : Bf l a s n k) (hk : l.length ≤ k) : Bf l a s (n + 1) 0 :=
  ⟨h.nodup, h.head, h.way, fun j hj x hx hs => by
    by_cases e : j = n
    · subst e
      obtain ⟨q, hq, he⟩ := List.getElem_of_mem hx
      exact h.part q x (by omega) (by rw [List.getElem?_eq_getElem hq, he]) hs
    · exact h.done j (by omega) x hx hs, fun q x hq => by omega⟩
theorem Bf.end (h : Bf l a s n k) (hn : s.length ≤ n) {z : Int} (ht : Tr l a z) : z ∈ s := by
  have step : ∀ x ∈ l, x.1 ∈ s → x.2 ∈ s := fun x hx hm => by
    obtain ⟨j, hj, e⟩ := List.getElem_of_mem hm
    exact h.done j (by omega) x hx (by rw [List.getElem?_eq_getElem hj, e])
  have key : ∀ b c, Tr l b c → b ∈ s → c ∈ s := by
    intro b c hb
    induction hb with
    | one hx => exact fun hm => step _ hx hm
    | snoc _ hx ih => exact fun hm => step _ hx (ih hm)
  exact key a z ht h.head
theorem Bf.len (h : Bf l a s n k) : s.length ≤ l.length + 1 := by
  have := nodup_sub2 s (a :: l.map Prod.snd) h.nodup (fun z hz => by
    rcases h.way z hz with e | e
    · rw [e]; simp
    · obtain ⟨x, hx, e2, _⟩ := e.last
      exact List.mem_cons.2 (.inr (List.mem_map.2 ⟨x, hx, e2⟩)))
  simpa using this
theorem Rnd.of_found (h : Bf l a s n k) {x : Int × Int} (hx : x ∈ l) (ha : x.2 = a) (hf : x.1 ∈ s) : Rnd l := by
  refine ⟨x.1, ?_⟩
  have h1 : Tr l x.1 a := ha ▸ .one hx
  rcases h.way _ hf with e | e
  · rw [← e] at h1; exact h1
  · exact h1.trans e
/-- From none of the first i is the way back. -/
def NoBack (l : List (Int × Int)) (i : Nat) : Prop := ∀ q x, q < i → l[q]? = some x → ¬ (x.2 = x.1 ∨ Tr l x.2 x.1)
theorem NoBack.next {i : Nat} (h : NoBack l i) {x : Int × Int} (hx : l[i]? = some x) (hb : Bf l x.2 s n k) (hn : s.length ≤ n) (hno : x.1 ∉ s) : NoBack l (i + 1) := fun q y hq hy => by
  by_cases e : q = i
  · subst e
    rw [hx] at hy
    obtain rfl := Option.some.inj hy
    rintro (e2 | e2)
    · exact hno (e2 ▸ hb.head)
    · exact hno (hb.end hn e2)
  · exact h q y (by omega) hy
theorem NoBack.end {i : Nat} (h : NoBack l i) (hi : l.length ≤ i) : ¬ Rnd l := by
  rintro ⟨b, hb⟩
  obtain ⟨x, hx, rfl, h2⟩ := hb.head
  obtain ⟨q, hq, he⟩ := List.getElem_of_mem hx
  exact h q x (by omega) (by rw [List.getElem?_eq_getElem hq, he]) h2
/-- None of the first j is z. -/
def noneF (s : List Int) (z : Int) : Bool := s.all fun y => y != z
theorem noneF_snoc (s : List Int) (z : Int) (j : Nat) (h : j < s.length) : noneF (s.take (j + 1)) z = (noneF (s.take j) z && (s[j] != z)) := by
  rw [List.take_succ_eq_append_getElem h]; simp only [noneF, List.all_append, List.all_cons, List.all_nil, Bool.and_true]
theorem noneF_iff {s : List Int} {z : Int} : noneF s z = true ↔ z ∉ s := by
  unfold noneF
  rw [List.all_eq_true]
  constructor
  · intro h hm; have := h z hm; simp at this
  · intro h x hx
    have : x ≠ z := fun e => h (e ▸ hx)
    simpa using this
/-- The numbers of a row of its own can be read. -/
theorem own_get {W : World} {base g cp : Nat} {s : List Int} (h : W.ownsRow base 3 1 (.slice (some ⟨g, 0, none⟩) s.length cp) s.length (ints s)) {j : Nat} (hj : j < s.length) : W.cell? ⟨g, j, none⟩ = some (.int .i64 s[j]) := by
  have := h.cells (g := g) rfl j _ (iget hj)
  rwa [Addr.add_lit, Nat.zero_add] at this
theorem own_cap {W : World} {base g cp : Nat} {s : List Int} (h : W.ownsRow base 3 1 (.slice (some ⟨g, 0, none⟩) s.length cp) s.length (ints s)) : s.length ≤ cp ∧ cp ≤ 9223372036854775807 := by
  obtain ⟨lad, lcp, he, h1, h2, _⟩ := sl_own h
  injection he with _ _ he
  subst he
  unfold maxLen at h2
  omega
set_option maxRecDepth 100000 in
set_option maxHeartbeats 16000000 in
theorem docRound_any (l : List (Int × Int)) (ad : Option Addr) (cap n₀ : Nat) (w : World) (hn : n₀ ≤ w.heap.size) (hsl : SlAt 2 ncells n₀ w ad cap l) (hl : l.length ≤ 1000000) :
    Calls Try.prog 17 #[.slice ad l.length cap] w fun r w' => RoundBack l w w' r := by
  have hl1 := hsl.1; have hl2 := hsl.2.1
  unfold maxLen at hl2
  obtain ⟨i0, hi, hz0, hz1, hz2⟩ := info_of info3
  go_enter Try.func17, Try.ntmps17
  go_wp2
  go_loopw [3] (fun i' wr => ∃ i : Nat, i' = .int .i64 i ∧ i ≤ l.length ∧ Hid (NoBack l i) ∧ Below w.heap.size w wr)
    (fun i' _ => l.length - (intOf i').toNat)
  case atStart => exact ⟨0, rfl, by omega, fun q x hq => by omega, Below.refl _ _⟩
  case round =>
    obtain ⟨i, rfl, hil, HNB, hby⟩ := hrel
    have hzy := hby.size
    by_cases hit : i < l.length
    · have hid1 : decide ((i : Int) < (l.length : Int)) = true := by simp; omega
      rcases hsl.2.2 with h | ⟨ab, aoff, rfl, habn, harow⟩
      · subst h; simp at hit
      rcases hx : l[i] with ⟨o, a⟩
      have c0 := (harow.below (hby.mono hn) habn) i hit 0 (by omega)
      have c1 := (harow.below (hby.mono hn) habn) i hit 1 (by omega)
      rw [hx] at c0 c1
      simp only [ncells] at c0 c1
      simp at c0 c1
      have HX : Hid (l[i]? = some (o, a)) := by show _ = _; rw [List.getElem?_eq_getElem hit, hx]
      have habw : ab < wr.heap.size := by omega
      have hown0 : (wr.alloc (.cells #[.int .i64 a] 3)).ownsRow w.heap.size 3 1 (.slice (some ⟨wr.heap.size, 0, none⟩) 1 1) 1 (ints [a]) := World.ownsRow_lit (base := w.heap.size) (e := 3) (size := 1) wr #[.int .i64 a] 1 hzy (by unfold maxLen; omega) rfl
      have B0 := hby.al le_rfl' (.cells #[.int .i64 a] 3)
      clear hx
      go_wp2
      clear c0 c1
      go_loopw [4, 5] (fun v n' wx => ∃ (n : Nat) (s : List Int) (g cp : Nat), n' = .int .i64 n ∧ n ≤ s.length ∧ v = .slice (some ⟨g, 0, none⟩) s.length cp ∧ wx.ownsRow w.heap.size 3 1 (.slice (some ⟨g, 0, none⟩) s.length cp) s.length (ints s) ∧ Hid (Bf l a s n 0) ∧ Hid (∀ j, j < n → s[j]? ≠ some o) ∧ Below w.heap.size w wx)
        (fun _ n' _ => l.length + 2 - (intOf n').toNat)
      case atStart => exact ⟨0, [a], wr.heap.size, 1, rfl, by simp, rfl, hown0, Bf.first, fun j hj => by omega, B0⟩
      case round =>
        clear hown0 B0 hid1 hzy habw
        obtain ⟨n, s, g, cp, rfl, hns, rfl, hown, HBF, HNO, hby2⟩ := hrel
        have hzy := hby2.size
        have hsl9 := HBF.out.len
        have hsl6 : s.length ≤ 1000001 := by omega
        have hcp := own_cap hown
        have hgl := (hown.lt g rfl).2
        have habw : ab < wr.heap.size := by omega
        by_cases hnt : n < s.length
        · have hid2 : decide ((n : Int) < (s.length : Int)) = true := by simp; omega
          have c0 := (harow.below (hby2.mono hn) habn) i hit 0 (by omega)
          have hx : l[i] = (o, a) := by have := HX.out; rw [List.getElem?_eq_getElem hit] at this; exact Option.some.inj this
          rw [hx] at c0
          simp only [ncells] at c0
          simp at c0
          have g0 := own_get hown hnt
          obtain ⟨p, hp⟩ : ∃ p, s[n] = p := ⟨_, rfl⟩
          have HP : Hid (s[n]? = some p) := by show _ = _; rw [List.getElem?_eq_getElem hnt, hp]
          rw [hp] at g0
          clear hp hx
          by_cases hpo : p = o
          · subst hpo
            have HR : Hid (Rnd l) := Rnd.of_found HBF.out (List.mem_of_getElem? HX.out) rfl (List.mem_of_getElem? HP.out)
            have hpe : (p == p) = true := by simp
            go_wp2
            go_quiet (fail)
            go_wp2
            go_ret
            exact ⟨true, rfl, ⟨fun _ => HR.out, fun _ => rfl⟩, below_drewN hby2 _⟩
          · have hpe : (p == o) = false := by simpa using hpo
            have HNO2 : Hid (∀ j, j < n + 1 → s[j]? ≠ some o) := fun j hj => by
              by_cases e : j = n
              · subst e; rw [HP.out]; intro e2; exact hpo (Option.some.inj e2)
              · exact HNO.out j (by omega)
            clear hpo HNO
            go_wp2
            go_quiet (fail)
            go_wp2
            clear c0 g0
            go_loopw [4, 6] (fun v k' wx => ∃ (k : Nat) (s : List Int) (g cp : Nat), k' = .int .i64 k ∧ k ≤ l.length ∧ v = .slice (some ⟨g, 0, none⟩) s.length cp ∧ n < s.length ∧ wx.ownsRow w.heap.size 3 1 (.slice (some ⟨g, 0, none⟩) s.length cp) s.length (ints s) ∧ Hid (Bf l a s n k) ∧ Hid (∀ j, j < n + 1 → s[j]? ≠ some o) ∧ Hid (s[n]? = some p) ∧ Below w.heap.size w wx)
              (fun _ k' _ => l.length - (intOf k').toNat)
            case atStart => exact ⟨0, s, g, cp, rfl, by omega, rfl, hnt, owns_below hown (below_drewN (Below.refl _ _) _), HBF, HNO2, HP, below_drewN hby2 _⟩
            case round =>
              clear hown HBF HNO2 HP hby2 hnt hid2 hcp hgl hsl9 hsl6 hzy habw hns hpe
              obtain ⟨k, s, g, cp, rfl, hkl, rfl, hnt, hown, HBF, HNO, HP, hby2⟩ := hrel
              obtain ⟨wk, hwk⟩ : ∃ wk : World, wk = wr := ⟨_, rfl⟩
              subst hwk
              have hzy := hby2.size
              have hsl9 := HBF.out.len
              have hsl6 : s.length ≤ 1000001 := by omega
              have hcp := own_cap hown
              have hgl := (hown.lt g rfl).2
              have habw : ab < wk.heap.size := by omega
              by_cases hkt : k < l.length
              · have hid3 : decide ((k : Int) < (l.length : Int)) = true := by simp; omega
                have g0 := own_get hown hnt
                have hpn : s[n] = p := by have := HP.out; rw [List.getElem?_eq_getElem hnt] at this; exact Option.some.inj this
                rw [hpn] at g0
                rcases hx : l[k] with ⟨x0, x1⟩
                have c0 := (harow.below (hby2.mono hn) habn) k hkt 0 (by omega)
                have c1 := (harow.below (hby2.mono hn) habn) k hkt 1 (by omega)
                rw [hx] at c0 c1
                simp only [ncells] at c0 c1
                simp at c0 c1
                have HXK : Hid (l[k]? = some (x0, x1)) := by show _ = _; rw [List.getElem?_eq_getElem hkt, hx]
                obtain ⟨E, hE⟩ : ∃ E, (x0 == p) = E := ⟨_, rfl⟩
                have HE := hid hE
                clear hpn hx
                go_wp2
                go_quiet (fail)
                go_wp2
                clear hE
                go_loopw [7, 8] (fun b j' wy => ∃ j : Nat, j' = .int .i64 j ∧ j ≤ s.length ∧ b = .bool (E && noneF (s.take j) x1) ∧ Below wk.heap.size wk wy)
                  (fun _ j' _ => s.length - (intOf j').toNat)
                case atStart => exact ⟨0, rfl, by omega, by rw [List.take_zero]; simp [noneF], below_drewN (Below.refl _ _) _⟩
                case round =>
                  clear g0 c0 c1
                  obtain ⟨j, rfl, hj, rfl, hby3⟩ := hrel
                  have hz3 := hby3.size
                  have hown3 := owns_below hown hby3
                  have habw3 : ab < wr.heap.size := by omega
                  have hgl3 : g < wr.heap.size := by omega
                  have c1 := (harow.below ((hby2.trans (hby3.mono hzy)).mono hn) habn) k hkt 1 (by omega)
                  have hx : l[k] = (x0, x1) := by have := HXK.out; rw [List.getElem?_eq_getElem hkt] at this; exact Option.some.inj this
                  rw [hx] at c1
                  simp only [ncells] at c1
                  simp at c1
                  clear hx
                  by_cases hjt : j < s.length
                  · have hid4 : decide ((j : Int) < (s.length : Int)) = true := by simp; omega
                    have gj := own_get hown3 hjt
                    have HS := noneF_snoc s x1 j hjt
                    obtain ⟨y, hy⟩ : ∃ y, s[j] = y := ⟨_, rfl⟩
                    rw [hy] at gj HS
                    cases he : (E && noneF (s.take j) x1)
                    · have HS2 : Hid ((E && noneF (s.take (j + 1)) x1) = false) := by show _ = _; rw [HS, ← Bool.and_assoc, he]; rfl
                      clear he HS hy
                      go_wp2
                      go_quiet (fail)
                      go_wp2
                      go_roundw
                      case rel => exact ⟨j + 1, by go_num, by omega, by rw [HS2.out], below_drewN hby3 _⟩
                      case measure => simp [intOf]; omega
                    · have HS2 : Hid ((E && noneF (s.take (j + 1)) x1) = (y != x1)) := by show _ = _; rw [HS, ← Bool.and_assoc, he]; rfl
                      clear he HS hy
                      go_wp2
                      go_quiet (fail)
                      go_wp2
                      go_roundw
                      case rel => exact ⟨j + 1, by go_num, by omega, by rw [HS2.out], below_drewN hby3 _⟩
                      case measure => simp [intOf]; omega
                  · have hid4 : decide ((j : Int) < (s.length : Int)) = false := by simp; omega
                    have hte : s.take j = s := List.take_of_length_le (by omega)
                    rw [hte]
                    have hbw := hby2.trans (hby3.mono hzy)
                    cases hf : (E && noneF s x1)
                    · have HN := hid (HBF.out.skip HXK.out (fun h => by
                        have e1 : p = x0 := by have := HP.out; rw [h] at this; exact (Option.some.inj this).symm
                        have e2 : E = true := by rw [← HE.out, e1]; simp
                        rw [e2, Bool.true_and] at hf
                        by_cases hm : x1 ∈ s
                        · exact hm
                        · rw [noneF_iff.2 hm] at hf; cases hf))
                      clear hf HBF hte
                      go_wp2
                      go_roundw
                      case rel => exact ⟨k + 1, s, g, cp, by go_num, by omega, rfl, hnt, hown3, HN, HNO, HP, hbw⟩
                      case measure => simp [intOf]; omega
                    · obtain ⟨hf1, hf2⟩ := Bool.and_eq_true_iff.1 hf
                      have e1 : x0 = p := by have := HE.out; rw [hf1] at this; simpa using this
                      have HN := hid (HBF.out.grow hnt HXK.out (by rw [HP.out, e1]) (noneF_iff.1 hf2))
                      have HNO2 : Hid (∀ j, j < n + 1 → (s ++ [x1])[j]? ≠ some o) := fun j hj => by rw [List.getElem?_append_left (by omega)]; exact HNO.out j hj
                      have HP2 : Hid ((s ++ [x1])[n]? = some p) := by show _ = _; rw [List.getElem?_append_left hnt]; exact HP.out
                      clear hf hf1 hf2 e1 HBF hte HNO HP
                      go_upto_region 19 with fail
                      obtain ⟨vL, hvL⟩ : ∃ vL, Value.slice (some ⟨g, 0, none⟩) s.length cp = vL := ⟨_, rfl⟩
                      have HVB : Hid (∀ q, vL.ownBlock = some q → w.heap.size ≤ q) := fun q hq => by rw [← hvL] at hq; exact (hown.lt q hq).1
                      rw [hvL] at hown3 ⊢
                      have hown3a := hown3.alloc (.cells #[.int .i64 x1] 3)
                      have hws : w.heap.size ≤ wr.heap.size := by omega
                      clear hvL
                      go_wp2_with (at_builtin; refine wpList_append_lies _ rfl _ _ 32 rfl w.heap.size 3 i0 (.int .i64 0) 1 8 Try.underlying32 hi hz0 hz1 hz2 rfl (by decide) vL s.length (ints s) rfl hown3a ⟨wr.heap.size, 0, none⟩ 1 1 [.int .i64 x1] rfl rfl (World.news_of_block (cs := #[.int .i64 x1]) (t := 3) (fr := (0, 0)) (heapNew _ _)) (by simp [Value.oneCell']) (by decide) (by unfold maxLen; omega) (by omega) (by simp; omega) (wr.heap.size + 1) (by simp) ?_; intro g2 cap2 w7 hown7 hgrow hat7 hlt7)
                      have B7 := (hbw.al le_rfl' (.cells #[.int .i64 x1] 3)).grown hgrow (hbw.al le_rfl' (.cells #[.int .i64 x1] 3)).size (fun q hq => HVB.out q hq)
                      go_roundw
                      case rel => exact ⟨k + 1, s ++ [x1], g2, cap2, by go_num, by omega, by rw [List.length_append]; rfl, by simp; omega, by simpa [ints] using hown7, HN, HNO2, HP2, B7⟩
                      case measure => simp [intOf]; omega
              · have hid3 : decide ((k : Int) < (l.length : Int)) = false := by simp; omega
                have HN := hid (HBF.out.next (by omega))
                clear HBF
                go_wp2
                go_roundw
                case rel => exact ⟨n + 1, s, g, cp, by go_num, by omega, rfl, hown, HN, HNO, hby2⟩
                case measure => simp [intOf]; omega
        · have hid2 : decide ((n : Int) < (s.length : Int)) = false := by simp; omega
          have HN : Hid (NoBack l (i + 1)) := HNB.out.next HX.out HBF.out (by omega) (fun hm => by
            obtain ⟨j, hj, e⟩ := List.getElem_of_mem hm
            exact HNO.out j (by omega) (by rw [List.getElem?_eq_getElem hj, e]))
          clear HBF HNO
          go_wp2
          go_roundw
          case rel => exact ⟨i + 1, by go_num, by omega, HN, hby2⟩
          case measure => simp [intOf]; omega
    · have hid1 : decide ((i : Int) < (l.length : Int)) = false := by simp; omega
      have HR := hid (HNB.out.end (by omega))
      go_wp2
      go_ret
      exact ⟨false, rfl, ⟨fun h => (by cases h), fun h => absurd h HR.out⟩, hby⟩
end Go.Proofs.Ythdkgfmlihgceaa
