/-
  HeldMore's walk: what goes round does so with more; what ends where nothing begins makes no way round.
-/
import Derived.Test.YthdkgfmlihgceaaHdR
namespace Go.Proofs.Ythdkgfmlihgceaa
open Go.RowKit
/-- What an append of nests to an empty row that is owned leaves. -/
theorem run_append_nests (w : World) (base : Nat) (ty : TypeId) (v : Value) (hown : w.ownsRow base 42 2 v 0 []) (hv : v ≠ .slice none 0 0) (n : Nat) (ad : Option Addr) (c : Nat) (r : List (Int × Int)) (hsl : SlAt 2 ncells n w ad c r) (hn : r.length ≤ 1000000) (hbase : base ≤ w.heap.size) :
    ∃ v' w', (Builtin.append_ #[35, 35] ty #[v, .slice ad r.length c]).run Try.prog w = .ok v' w' ∧ w'.ownsRow base 42 2 v' r.length (r.flatMap ncells) ∧ w.grownBy w' v.ownBlock := by
  obtain ⟨i, hi, iz0, iz1, iz2⟩ := info_of info42
  have hfl : (r.flatMap ncells).length = r.length * 2 := by
    clear hsl hn
    induction r with
    | nil => rfl
    | cons a r ih => rw [List.flatMap_cons, List.length_append, ih, List.length_cons]; simp [ncells]; omega
  rcases ad with _ | a
  · rcases hsl.2.2 with rfl | ⟨b, off, h, _⟩
    · refine ⟨v, w, ?_, hown, World.grownBy.refl _ _⟩
      obtain ⟨hl, ⟨rfl, _⟩ | ⟨g, cap, cur, rfl, hB, hh, hc, hm, hcs, hx⟩⟩ := hown
      · exact absurd rfl hv
      · exact run_append_room_src (P := Try.prog) w 35 35 ty 42 i Try.underlying35 hi g 0 0 cap (.slice none 0 c) 0 [] (Src.ofNil w Try.underlying35 c) (by omega) (fun j hj => by simp at hj) (fun j hj => by simp at hj)
    · cases h
  · obtain ⟨v', w', hr, h2, h3, _⟩ := run_append_own (P := Try.prog) w base 35 ty 42 i _ 2 16 Try.underlying35 hi iz0 iz1 iz2 rfl (by decide) v 0 [] hown a r.length c (r.flatMap ncells) hfl
      (fun j u hj => by
        rcases hsl.2.2 with rfl | ⟨b, off, h, _, hrow⟩
        · simp at hj
        · cases h
          have hlt : j < r.length * 2 := by have := (List.getElem?_eq_some_iff.1 hj).1; omega
          have e := flatGet 2 ncells (fun _ => rfl) (j % 2) (by omega) r (j / 2) (by omega)
          rw [show j / 2 * 2 + j % 2 = j by omega, hj] at e
          have := hrow (j / 2) (by omega) (j % 2) (by omega)
          rw [show off + j / 2 * 2 + j % 2 = off + j by omega] at this
          rw [Addr.add_lit, this, e])
      (fun u hu => by
        obtain ⟨x, _, hx⟩ := List.mem_flatMap.1 hu
        simp only [ncells, List.mem_cons, List.not_mem_nil, or_false] at hx
        rcases hx with rfl | rfl <;> rfl) (by unfold maxLen; omega) (by omega) hbase
    refine ⟨v', w', hr, ?_, h3⟩
    rwa [Nat.zero_add, List.nil_append] at h2
theorem step_append_nests {w : World} {ops : Array Go.Oper} {o : Go.Oper} {a : Act} {K : Act → World → Prop} {Q : Exit → Act → World → Prop} {E : Prop} (hgd : o.guard = none) (s x : Operand)
    (ho : o.op = .call { callee := .builtin .append, args := #[s, x], argTypes := #[35, 35] }) (base : Nat) (v : Value) (hs : a.eval s = v) (hown : w.ownsRow base 42 2 v 0 []) (hv : v ≠ .slice none 0 0) (n : Nat) (ad : Option Addr) (c : Nat) (r : List (Int × Int))
    (hx : a.eval x = .slice ad r.length c) (hsl : SlAt 2 ncells n w ad c r) (hn : r.length ≤ 1000000) (hbase : base ≤ w.heap.size)
    (h : ∀ v' w', w'.ownsRow base 42 2 v' r.length (r.flatMap ncells) → w.grownBy w' v.ownBlock → K (a.put o.dst v') w') : if Region.wanted o (yielded ops a.tmps) = true then Oper.wp Try.prog o a w K Q else E := by
  have hw : Region.wanted o (yielded ops a.tmps) = true := by simp [Region.wanted, hgd]
  rw [if_pos hw]
  obtain ⟨v', w', hr, h2, h3⟩ := run_append_nests w base o.type v hown hv n ad c r hsl hn hbase
  unfold Go.Oper.wp execOp
  simp only [ho, resolve, invoke, builtin, Sem.run_bind, Sem.run_pure, Result.andThen_ok, List.map_toArray, List.map_cons, List.map_nil, hs, hx, hr]
  exact h v' w' h2 h3
def endsF (l : List (Int × Int)) (i : Int) : Bool := l.all fun x => x.1 != i
theorem endsF_snoc (l : List (Int × Int)) (i : Int) (k : Nat) (h : k < l.length) : endsF (l.take (k + 1)) i = (endsF (l.take k) i && (l[k].1 != i)) := by
  rw [List.take_succ_eq_append_getElem h]; simp only [endsF, List.all_append, List.all_cons, List.all_nil, Bool.and_true]
set_option maxRecDepth 100000 in
set_option maxHeartbeats 16000000 in
theorem heldMore_walk (l : List (Int × Int)) (ad : Option Addr) (cap : Nat) (o i : Int) (n₀ : Nat) (w : World) (hn : n₀ ≤ w.heap.size) (hsl : SlAt 2 ncells n₀ w ad cap l) :
    Calls Try.prog 5 #[.slice ad l.length cap, .agg #[.int .i64 o, .int .i64 i]] w fun r w' => r = .returned (.bool true) ∧ Below w.heap.size w w' := by
  have hq6 := live_any
  obtain ⟨bN, hBN, hzN⟩ := one_box w #[.int .i64 o, .int .i64 i] 42
  have hl1 := hsl.1; have hl2 := hsl.2.1
  unfold maxLen at hl2
  by_cases hbig : 100 < l.length
  · have hd : decide ((100 : Int) < (l.length : Int)) = true := by simp; omega
    clear hsl bN hzN
    go_enter Try.func5, Try.ntmps5
    go_wp2_with (go_at_call 6; refine (hq6 _).mono ?_; rintro r w1 ⟨rfl, hb1⟩)
    go_ret
    exact ⟨rfl, hBN.tr le_rfl' hb1⟩
  · have hd : decide ((100 : Int) < (l.length : Int)) = false := by simp; omega
    have hl : l.length ≤ 100 := by omega
    obtain ⟨A, hA⟩ : ∃ A : Bool, (A = true ↔ Rnd l) := by classical exact ⟨decide (Rnd l), by simp⟩
    obtain ⟨B, hB⟩ : ∃ B : Bool, (B = true ↔ Rnd (l ++ [(o, i)])) := by classical exact ⟨decide (Rnd (l ++ [(o, i)])), by simp⟩
    have HAB : Hid (A = true → B = true) := fun h => hB.2 ((hA.1 h).more (fun n hn' => List.mem_append.2 (.inl hn')))
    have HSE : Hid (i = o → B = true) := fun h => hB.2 (Rnd.self (n := (o, i)) (by simp) h)
    have HEN : Hid (endsF l i = true → i ≠ o → B = true → A = true) := fun h1 h2 h3 => hA.2 (Rnd.ends (n := (o, i)) (fun x hx => by
      have := List.all_eq_true.1 h1 x hx
      simpa using this) h2 (hB.1 h3))
    have qA : ∀ W : World, Below w.heap.size w W → Calls Try.prog 16 #[.slice ad l.length cap] W fun r w' => r = .returned (.bool A) ∧ Below W.heap.size W w' := fun W hW => (round_any l ad cap n₀ W (by have := hW.size; omega) (hsl.below (hW.mono hn)) (by omega)).mono (by
      rintro r w' ⟨b, rfl, h2, h3⟩
      refine ⟨?_, h3⟩
      have : b = A := by rw [Bool.eq_iff_iff, h2, hA]
      rw [this])
    have qB : ∀ (W : World) (a : Option Addr) (c : Nat), SlAt 2 ncells W.heap.size W a c (l ++ [(o, i)]) → Calls Try.prog 16 #[.slice a (l.length + 1) c] W fun r w' => r = .returned (.bool B) ∧ Below W.heap.size W w' := fun W a c hW => by
      have h := round_any (l ++ [(o, i)]) a c _ W (Nat.le_refl _) hW (by simp; omega)
      rw [List.length_append] at h
      refine h.mono ?_
      rintro r w' ⟨b, rfl, h2, h3⟩
      refine ⟨?_, h3⟩
      have : b = B := by rw [Bool.eq_iff_iff, h2, hB]
      rw [this]
    obtain ⟨i0, hi, hz0, hz1, hz2⟩ := info_of info42
    clear hA hB hbig
    go_enter Try.func5, Try.ntmps5
    go_wp2_with fail
    obtain ⟨W0, hW0⟩ : ∃ W0, w.alloc (.cells #[.int .i64 o, .int .i64 i] 42) = W0 := ⟨_, rfl⟩
    rw [hW0] at bN hBN hzN ⊢
    clear hW0
    have HZN := hid hzN
    have hwW : w.heap.size < W0.heap.size := by omega
    clear hzN
    have e0 := cellOf bN 0
    have e1 := cellOf bN 1
    simp at e0 e1
    have ownA := World.ownsRow_made (base := W0.heap.size) (e := 42) (size := 2) W0 #[] 0 (Nat.le_refl _) (by unfold maxLen; omega) rfl
    have ownB := ownA.alloc (.cells #[.int .i64 o, .int .i64 i] 42)
    have ownC := World.ownsRow_made (base := W0.heap.size) (e := 42) (size := 2) (W0.alloc (.cells #[.int .i64 o, .int .i64 i] 42)) #[] 0 (by simp) (by unfold maxLen; omega) rfl
    rw [World.size_alloc] at ownC
    have DA := (Below.refl W0.heap.size W0).al le_rfl' (.cells #[] 42)
    have DB := DA.al le_rfl' (.cells #[.int .i64 o, .int .i64 i] 42)
    have DC := ((Below.refl W0.heap.size W0).al le_rfl' (.cells #[.int .i64 o, .int .i64 i] 42)).al le_rfl' (.cells #[] 42)
    have hslA := hsl.below ((hBN.trans (DA.mono hBN.size)).mono hn)
    have hslB := hsl.below ((hBN.trans (DB.mono hBN.size)).mono hn)
    have hslC := hsl.below ((hBN.trans (DC.mono hBN.size)).mono hn)
    have bB : ((W0.alloc (.cells #[] 42)).alloc (.cells #[.int .i64 o, .int .i64 i] 42)).heap[W0.heap.size + 1]? = some (.cells #[.int .i64 o, .int .i64 i] 42 (0, 0)) := by
      have := heapNew (W0.alloc (.cells #[] 42)) (.cells #[.int .i64 o, .int .i64 i] 42)
      rwa [World.size_alloc] at this
    have bC : ((W0.alloc (.cells #[.int .i64 o, .int .i64 i] 42)).alloc (.cells #[] 42)).heap[W0.heap.size]? = some (.cells #[.int .i64 o, .int .i64 i] 42 (0, 0)) := (Below.heap_alloc _ _ _ (by simp)).trans (heapNew W0 _)
    have HO := hid (And.intro ownA (And.intro ownB ownC))
    have HD := hid (And.intro DA (And.intro DB DC))
    have HS := hid (And.intro hslA (And.intro hslB hslC))
    have HB := hid (And.intro bB bC)
    clear ownA ownB ownC DA DB DC hslA hslB hslC bB bC
    go_region_law (first
      | (refine step_append_nests (by rfl) _ _ (by rfl) W0.heap.size _ (by rfl) (by first | exact HO.out.1 | exact HO.out.2.1 | exact HO.out.2.2) slice_ne n₀ ad cap l (by rfl) (by first | exact HS.out.1 | exact HS.out.2.1 | exact HS.out.2.2) (by omega) (by simp <;> omega) ?_; intro v1 w1 hown1 hg1; have HG1 := hid hg1; have D1 : Below W0.heap.size W0 w1 := (by first | exact HD.out.1.drew.grown hg1 (by simp <;> omega) (fun k hk => by cases hk; exact Nat.le_refl _) | exact HD.out.2.1.drew.grown hg1 (by simp <;> omega) (fun k hk => by cases hk; exact Nat.le_refl _) | exact HD.out.2.2.drew.grown hg1 (by simp <;> omega) (fun k hk => by cases hk; exact Nat.le_succ _)); have bN1 := (D1.block w.heap.size hwW).trans bN; have x0 := cellOf bN1 0; have x1 := cellOf bN1 1; simp at x0 x1; clear hg1)
      | (refine step_append_lies _ (by rfl) _ _ _ (by rfl) W0.heap.size 42 i0 _ 2 16 Try.underlying35 hi hz0 hz1 hz2 rfl (by decide) v1 l.length (l.flatMap ncells) (by rfl) (by first | exact hown1 | exact hown1.alloc _) _ 1 1 [.int .i64 o, .int .i64 i] (by rfl) (by rfl) (by first | exact World.news_of_block (cs := #[.int .i64 o, .int .i64 i]) (t := 42) (fr := (0, 0)) (heapNew _ _) | exact World.news_of_block (cs := #[.int .i64 o, .int .i64 i]) (t := 42) (fr := (0, 0)) ((HG1.out.block _ (by simp <;> omega) (by simp [Value.ownBlock])).trans HB.out.1) | exact World.news_of_block (cs := #[.int .i64 o, .int .i64 i]) (t := 42) (fr := (0, 0)) ((HG1.out.block _ (by simp <;> omega) (by simp [Value.ownBlock])).trans HB.out.2)) (by simp [Value.oneCell']) (by decide) (by unfold maxLen; omega) (by omega) (by have := D1.size; simp <;> omega) _ rfl ?_; intro g cp w2 hown2 hg2 hat2 hlt2; have D2 : Below W0.heap.size W0 w2 := (by first | exact D1.grown hg2 D1.size (fun k hk => (hown1.lt k hk).1) | exact (D1.al le_rfl' _).grown hg2 (D1.al le_rfl' _).size (fun k hk => (hown1.lt k hk).1)); have bN2 := (D2.block w.heap.size hwW).trans bN; have y0 := cellOf bN2 0; have y1 := cellOf bN2 1; simp at y0 y1))
    all_goals
      have h3 : w2.ownsRow W0.heap.size 42 2 (.slice (some ⟨g, 0, none⟩) (l ++ [(o, i)]).length cp) (l ++ [(o, i)]).length ((l ++ [(o, i)]).flatMap ncells) := by simpa [ncells] using hown2
      obtain ⟨ad', cp', e', hmore⟩ := sl_ownN h3
      injection e' with ea _ ec
      subst ea ec
      have D := hBN.trans (D2.mono hBN.size)
      have HE0 := hid HAB.out
      clear h3 hown2 hat2 hlt2 HG1 HO HD HS HB hg2 hown1 D1 bN1 x0 x1 e0 e1 D2
      have HR : Hid (∀ u v : Bool, A = u → B = v → (u = true → v = true) ∧ (i = o → v = true) ∧ (endsF l i = true → i ≠ o → v = true → u = true)) := fun u v hu hv => ⟨hu ▸ hv ▸ HAB.out, hv ▸ HSE.out, hu ▸ hv ▸ HEN.out⟩
      clear HAB HSE HEN HE0
      cases hA : A <;> cases hB : B
      all_goals
        have HR2 := hid (HR.out _ _ hA hB)
        rw [hA] at qA
        rw [hB] at qB
        clear HR hA hB
      all_goals first
        | exact absurd (HR2.out.1 rfl) (by decide)
        | skip
      all_goals
        cases hio : (i == o)
        all_goals first
          | exact absurd (HR2.out.2.1 (by simpa using hio)) (by decide)
          | skip
        all_goals
          have HIO := hid hio
          go_wp2_with (first
            | (go_at_call 16; (with_reducible refine (qA _ D).mono ?_); rintro r w3 ⟨rfl, hb3⟩; have hz3 := hb3.size; have bN3 := (hb3.block w.heap.size (Array.getElem?_eq_some_iff.1 bN2).1).trans bN2; have z0 := cellOf bN3 0; have z1 := cellOf bN3 1; simp at z0 z1; have D3 := D.tr le_rfl' hb3)
            | (go_at_call 16; (with_reducible refine (qB _ _ _ ((hmore.below hb3).mono hb3.size)).mono ?_); rintro r w4 ⟨rfl, hb4⟩; have hz4 := hb4.size; have bN4 := (hb4.block w.heap.size (Array.getElem?_eq_some_iff.1 bN3).1).trans bN3; have u0 := cellOf bN4 0; have u1 := cellOf bN4 1; simp at u0 u1; have D4 := D3.tr le_rfl' hb4))
        all_goals
          have hwN := (Array.getElem?_eq_some_iff.1 bN4).1
          clear qA qB hmore bN bN2 bN3 y0 y1 z0 z1
          go_loopw [8, 9] (fun e i' wr => ∃ k : Nat, i' = .int .i64 k ∧ k ≤ l.length ∧ e = .bool (endsF (l.take k) i) ∧ Below w4.heap.size w4 wr)
            (fun _ i' _ => l.length - (intOf i').toNat)
          case atStart => exact ⟨0, rfl, by omega, by rw [List.take_zero]; rfl, Below.refl _ _⟩
          case round =>
            obtain ⟨k, rfl, hk, rfl, hby⟩ := hrel
            have hzy := hby.size
            have bN5 := (hby.block w.heap.size hwN).trans bN4
            have v0 := cellOf bN5 0
            have v1 := cellOf bN5 1
            simp at v0 v1
            have hwr : w.heap.size < wr.heap.size := by omega
            by_cases hlt : k < l.length
            · have hkd : decide ((k : Int) < (l.length : Int)) = true := by simp; omega
              have HS := hid (endsF_snoc l i k hlt)
              cases he : endsF (l.take k) i
              · have HS2 : Hid (endsF (l.take (k + 1)) i = false) := by show _ = _; rw [HS.out, he]; rfl
                clear HS he hio
                go_wp2_with fail
                go_quiet (fail)
                go_wp2
                go_roundw
                case rel => exact ⟨k + 1, by go_num, by omega, by rw [HS2.out], below_drewN hby _⟩
                case measure => simp [intOf]; omega
              · rcases hsl.2.2 with h | ⟨nb, noff, rfl, hnb, hnrow⟩
                · subst h; simp at hlt
                have c0 := (hnrow.below ((D4.trans (hby.mono D4.size)).mono hn) hnb) k hlt 0 (by omega)
                rcases hx : l[k] with ⟨x0, x1⟩
                rw [hx] at c0 HS
                simp only [ncells] at c0 HS
                simp at c0
                have hnw : nb < wr.heap.size := by have := D4.size; omega
                have HS2 : Hid (endsF (l.take (k + 1)) i = (x0 != i)) := by show _ = _; rw [HS.out, he, Bool.true_and]
                clear HS he hio hx hnrow
                go_wp2_with fail
                go_quiet (fail)
                go_wp2
                go_roundw
                case rel => exact ⟨k + 1, by go_num, by omega, by rw [HS2.out], below_drewN hby _⟩
                case measure => simp [intOf]; omega
            · have hkd : decide ((k : Int) < (l.length : Int)) = false := by simp; omega
              have hke : l.take k = l := List.take_of_length_le (by omega)
              rw [hke]
              clear hke
              cases hE : endsF l i
              · clear hE
                go_wp2_with (go_at_call 6; (with_reducible refine (hq6 _).mono ?_); rintro r w5 ⟨rfl, hb5⟩)
                go_ret
                exact ⟨rfl, (D4.trans (hby.mono D4.size)).tr le_rfl' hb5⟩
              · have hKX := HR2.out
                first
                  | exact absurd HIO.out (by decide)
                  | skip
                first
                  | exact absurd (hKX.2.2 hE (beq_eq_false_iff_ne.1 HIO.out) (by first | exact rfl | exact trivial)) Bool.false_ne_true
                  | (clear hE
                     go_wp2_with (go_at_call 6; (with_reducible refine (hq6 _).mono ?_); rintro r w5 ⟨rfl, hb5⟩)
                     go_ret
                     exact ⟨rfl, (D4.trans (hby.mono D4.size)).tr le_rfl' hb5⟩)
end Go.Proofs.Ythdkgfmlihgceaa
