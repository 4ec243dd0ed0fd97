/-
  Set of package value, and the document's Set.
-/
import Derived.Test.YtopiceoofdlkbaaDoorVlC
import Derived.Deep.AppendLies
import Derived.Laws.MakeOwn
import Derived.Laws.OwnMore
import Derived.BigQuiet
namespace Go.Proofs.YtopiceoofdlkbaaDoor
open Go.RowKit
/-- append, and where: into the row's own room, or a new row, and the old one stands. -/
theorem append_far {P : Program} (w : World) (base : Nat) (t ty e : TypeId) (i : TypeInfo) (z : Value) (ht : P.underlying t = some (.slice e)) (hi : P.info? e = some i) (hz : i.zero = some z)
    (v : Value) (n : Nat) (xs : List Value) (hown : w.ownsRow base e i.size v n xs) (a : Addr) (m c : Nat) (news : List Value) (hl : news.length = m * i.size) (hnews : ∀ j u, news[j]? = some u → w.cell? (a.add j) = some u) (h1 : ∀ u ∈ news, u.oneCell' = true)
    (hm : 0 < m) (h63 : n + m ≤ maxLen) (hbytes : (n + m) * i.bytes ≤ 140737488355328) (v' : Value) (w' : World) (hr : (Builtin.append_ #[t, t] ty #[v, .slice (some a) m c]).run P w = .ok v' w') :
    (v'.ownBlock = v.ownBlock ∧ v.ownBlock ≠ none) ∨ (v'.ownBlock = some w.heap.size ∧ w.grownBy w' none) := by
  have hsmall : n + m ≤ 9223372036854775807 := by simp only [maxLen] at h63; omega
  have hgr : ∀ o, w.grownBy (w.drew.alloc o) none := fun o => ⟨rfl, rfl, rfl, by simp, fun k hk _ => heap_alloc_old w.drew _ hk⟩
  rcases hown.2 with ⟨rfl, rfl⟩ | ⟨g, cap, cur, rfl, hbg, hg, hnc, hcm, hcs, htake⟩
  · have h2 := run_append_nil (P := P) w t ty e i z ht hi hz a m c news hl hnews hm (by omega) (by simp only [Nat.zero_add] at hbytes; omega)
    rw [h2] at hr
    injection hr with h3 h4
    exact .inr ⟨by rw [← h3]; rfl, by rw [← h4]; exact hgr _⟩
  · by_cases hroom : n + m ≤ cap
    · have hfit : n * i.size + news.length ≤ cur.size := by rw [hl, hcs, ← Nat.add_mul]; exact Nat.mul_le_mul_right _ hroom
      have h2 := run_append_room (P := P) w t ty e i ht hi g n cap cur hg a m c news hl hnews h1 hroom hfit
      rw [h2] at hr
      injection hr with h3 h4
      exact .inl ⟨by rw [← h3]; rfl, by simp [Value.ownBlock]⟩
    · have h2 := run_append_grow (P := P) w t ty e i z ht hi hz ⟨g, 0, none⟩ n cap xs hown.1 (hown.cells (g := g) rfl) a m c news hl hnews (by omega) (by omega) (growslice_fits (by omega) hbytes)
      rw [h2] at hr
      injection hr with h3 h4
      exact .inr ⟨by rw [← h3]; rfl, by rw [← h4]; exact hgr _⟩
theorem wpList_append_far {P : Program} {w : World} {ops : Array Go.Oper} {rest : List Go.Oper} {o : Go.Oper} {a : Act} {Q : Exit → Act → World → Prop} (hgd : o.guard = none) (s x : Operand) (t : TypeId)
    (ho : o.op = .call { callee := .builtin .append, args := #[s, x], argTypes := #[t, t] })
    (base : Nat) (e : TypeId) (i : TypeInfo) (z : Value) (size bytes : Nat) (ht : P.underlying t = some (.slice e)) (hi : P.info? e = some i) (hz : i.zero = some z)
    (hsize : i.size = size) (hby : i.bytes = bytes) (hzs : z.cells.size = size) (hsz : 0 < size)
    (v : Value) (n : Nat) (xs : List Value) (hs : a.eval s = v) (hown : w.ownsRow base e size v n xs)
    (ad : Addr) (m c : Nat) (news : List Value) (hx : a.eval x = .slice (some ad) m c) (hl : news.length = m * size) (hnews : ∀ j u, news[j]? = some u → w.cell? (ad.add j) = some u) (h1 : ∀ u ∈ news, u.oneCell' = true)
    (hm : 0 < m) (h63 : n + m ≤ maxLen) (hbytes : (n + m) * bytes ≤ 140737488355328) (hbase : base ≤ w.heap.size)
    (h : ∀ g cap w', w'.ownsRow base e size (.slice (some ⟨g, 0, none⟩) (n + m) cap) (n + m) (xs ++ news) → w.grownBy w' v.ownBlock → (v.ownBlock = some g ∨ (g = w.heap.size ∧ w.grownBy w' none)) → wpList P ops Q rest (a.put o.dst (.slice (some ⟨g, 0, none⟩) (n + m) cap)) w') : wpList P ops Q (o :: rest) a w := by
  obtain ⟨v', w', hr, h2, h3, _⟩ := run_append_own (P := P) w base t o.type e i z size bytes ht hi hz hsize hby hzs hsz v n xs hown ad m c news hl hnews h1 h63 hbytes hbase
  subst hsize hby
  have h4 := append_far w base t o.type e i z ht hi hz v n xs hown ad m c news hl hnews h1 hm h63 hbytes v' w' hr
  obtain ⟨g, cap, rfl, _, _⟩ := h2.form (by omega)
  refine wpList_plain hgd fun _ hK => ?_
  unfold Go.Oper.wp execOp
  simp only [ho, resolve, invoke, builtin, Sem.run_bind, Sem.run_pure, Result.andThen_ok, List.map_toArray, List.map_cons, List.map_nil, hs, hx, hr]
  refine hK _ _ (h g cap w' h2 h3 ?_)
  rcases h4 with ⟨h4, _⟩ | ⟨h4, h5⟩
  · exact .inl (by rw [← h4]; rfl)
  · exact .inr ⟨by simpa [Value.ownBlock] using h4, h5⟩
end Go.Proofs.YtopiceoofdlkbaaDoor
namespace Go.Proofs.YtopiceoofdlkbaaDoor
open Go.RowKit
theorem info2 : (Tryd.prog.info? 2).map (fun i => (i.zero, i.size, i.bytes)) = some (some (.int .i64 0), 1, 8) := by kernel_rfl
theorem iv_len (x : Int) : (iv x).length = 1 := rfl
theorem iv_one (x : Int) : ∀ u ∈ iv x, u.oneCell' = true := by
  intro u hu
  simp only [iv, List.mem_singleton] at hu
  subst hu
  rfl
theorem iv_flat (l : List Int) : (l.flatMap iv).length = l.length := by
  rw [flatLen 1 iv iv_len, Nat.mul_one]
theorem iv_row {W : World} {b off : Nat} {l : List Int} (h : RowAt 1 iv W b off l) (j : Nat) (hj : j < l.length) : W.cell? ⟨b, off + j, none⟩ = some (.int .i64 l[j]) := by
  have := h j hj 0 (by omega)
  rw [Nat.mul_one, Nat.add_zero] at this
  exact this
set_option maxRecDepth 100000 in
set_option maxHeartbeats 4000000 in
theorem values_any (a b : List Int) (aad : Option Addr) (acap : Nat) (bad : Option Addr) (bcap : Nat) (n₀ : Nat) (w : World) (hn : n₀ ≤ w.heap.size) (ha : SlAt 1 iv n₀ w aad acap a) (hb : SlAt 1 iv n₀ w bad bcap b) :
    Calls Tryd.prog 18 #[.slice aad a.length acap, .slice bad b.length bcap] w fun r w' => r = .returned (.bool (decide (a = b))) ∧ Below w.heap.size w w' := by
  have ha1 := ha.1; have ha2 := ha.2.1; have hb1 := hb.1; have hb2 := hb.2.1
  unfold maxLen at ha2 hb2
  by_cases hl : a.length = b.length
  · have hlb : (((a.length : Nat) : Int) != ((b.length : Nat) : Int)) = false := by rw [hl]; simp
    have HL := hid hl
    clear hl
    go_enter Tryd.func18, Tryd.ntmps18
    go_wp2
    go_loopw [5] (fun i wr => ∃ j : Nat, j ≤ a.length ∧ i = .int .i64 j ∧ Hid (a.take j = b.take j) ∧ Below w.heap.size w wr)
      (fun i _ => a.length - (intOf i).toNat)
    case atStart => exact ⟨0, by omega, rfl, rfl, Below.refl _ _⟩
    case round =>
      obtain ⟨j, hj, rfl, HQ, hbw⟩ := hrel
      have hz := hbw.size
      by_cases hlt : j < a.length
      · have hltb : j < b.length := by have := HL.out; omega
        have hai : (j : Int) < (a.length : Int) := by omega
        have hbi : (j : Int) < (b.length : Int) := by omega
        rcases ha.2.2 with h | ⟨ab, aoff, rfl, habn, harow⟩
        · subst h; simp at hlt
        rcases hb.2.2 with h | ⟨bb, boff, rfl, hbbn, hbrow⟩
        · subst h; simp at hltb
        have c0 := iv_row (harow.below (hbw.mono hn) habn) j hlt
        have d0 := iv_row (hbrow.below (hbw.mono hn) hbbn) j hltb
        have hab : ab < wr.heap.size := by omega
        have hbb : bb < wr.heap.size := by omega
        have HS1 := hid (List.take_succ_eq_append_getElem hlt)
        have HS2 := hid (List.take_succ_eq_append_getElem hltb)
        have HN : Hid (a[j] ≠ b[j] → a ≠ b) := fun h e => h (by subst e; rfl)
        obtain ⟨x, hx⟩ : ∃ x, a[j] = x := ⟨_, rfl⟩
        obtain ⟨y, hy⟩ : ∃ y, b[j] = y := ⟨_, rfl⟩
        rw [hx] at c0
        rw [hy] at d0
        rw [hx] at HS1
        rw [hy] at HS2
        rw [hx, hy] at HN
        clear hx hy
        cases hxy : (x != y)
        · have HX := hid (show x = y from by simpa using hxy)
          go_wp2
          go_quiet (fail)
          go_wp2
          go_roundw
          case rel => exact ⟨j + 1, by omega, by go_num, (by show _ = _; rw [HS1.out, HS2.out, HQ.out, HX.out]), below_drewN hbw _⟩
          case measure => simp [intOf]; omega
        · have HX := hid (show x ≠ y from by simpa using hxy)
          go_wp2
          go_quiet (fail)
          go_wp2
          go_ret
          exact ⟨ret_bool (decide_eq_false (HN.out HX.out)).symm, below_drewN hbw _⟩
      · have hjd : decide ((j : Int) < (a.length : Int)) = false := by simp; omega
        have HE : Hid (a = b) := by
          show _ = _
          have h := HQ.out
          rw [List.take_of_length_le (by omega), List.take_of_length_le (by have := HL.out; omega)] at h
          exact h
        go_wp2
        go_ret
        exact ⟨ret_bool (decide_eq_true HE.out).symm, hbw⟩
  · have hlb : (((a.length : Nat) : Int) != ((b.length : Nat) : Int)) = true := by rw [bne_iff_ne]; omega
    have HL : Hid (a ≠ b) := fun e => hl (by rw [e])
    clear hl
    go_enter Tryd.func18, Tryd.ntmps18
    go_wp2
    go_ret
    exact ⟨ret_bool (decide_eq_false HL.out).symm, Below.refl _ _⟩
/-- A row of numbers that is the caller's own. -/
def OwnBack (l : List Int) (w w' : World) (r : Ending) : Prop := ∃ v, r = .returned v ∧ w'.ownsRow w.heap.size 2 1 v l.length (l.flatMap iv) ∧ Below w.heap.size w w'
theorem nilSl (l c : Nat) (w : World) : (binOp .eql 29 (.slice none l c) (.slice none 0 0)).run Tryd.prog w = .ok (.bool true) w := by kernel_rfl
theorem someSl (a : Addr) (l c : Nat) (w : World) : (binOp .eql 29 (.slice (some a) l c) (.slice none 0 0)).run Tryd.prog w = .ok (.bool false) w := by kernel_rfl
theorem ownsRow_below {W W' : World} {base size k : Nat} {e : TypeId} {v : Value} {xs : List Value} (h : W.ownsRow base e size v k xs) (hb : Below W.heap.size W W') : W'.ownsRow base e size v k xs := by
  obtain ⟨hl, h1 | ⟨g, cap, cur, rfl, h2, h3, h4⟩⟩ := h
  · exact ⟨hl, .inl h1⟩
  · exact ⟨hl, .inr ⟨g, cap, cur, rfl, h2, (hb.block g (Array.getElem?_eq_some_iff.1 h3).1).trans h3, h4⟩⟩
theorem ownsRow_base {W : World} {base base' size k : Nat} {e : TypeId} {v : Value} {xs : List Value} (h : W.ownsRow base e size v k xs) (hb : base' ≤ base) : W.ownsRow base' e size v k xs := by
  obtain ⟨hl, h1 | ⟨g, cap, cur, rfl, h2, h3⟩⟩ := h
  · exact ⟨hl, .inl h1⟩
  · exact ⟨hl, .inr ⟨g, cap, cur, rfl, by omega, h3⟩⟩
theorem RowAt.block {α : Type} {size : Nat} {cells : α → List Value} {W W' : World} {b off : Nat} {l : List α} (h : RowAt size cells W b off l) (hb : W'.heap[b]? = W.heap[b]?) : RowAt size cells W' b off l :=
  fun j hj i hi => (World.cell?_of_block (a := ⟨b, _, none⟩) hb).trans (h j hj i hi)
set_option maxRecDepth 100000 in
set_option maxHeartbeats 4000000 in
theorem clone_any (ad : Option Addr) (cap : Nat) (vs : List Int) (n₀ : Nat) (w : World) (hn : n₀ ≤ w.heap.size) (hsl : SlAt 1 iv n₀ w ad cap vs) (hsm : vs.length ≤ 1000000) :
    Calls Tryd.prog 32 #[.slice ad vs.length cap] w fun r w' => OwnBack vs w w' r := by
  obtain ⟨i0, hi, hz0, hz1, hz2⟩ := info_parts info2
  rcases ad with _ | a
  · rcases hsl.2.2 with rfl | ⟨b, off, h, _⟩
    · have hnil := nilSl
      go_enter Tryd.func32, Tryd.ntmps32
      go_wp2
      go_ret
      exact ⟨_, rfl, World.ownsRow_nil _ _ _ _, Below.refl _ _⟩
    · cases h
  · have hsome := someSl
    have hown0 := World.ownsRow_made (base := w.heap.size) (e := 2) (size := 1) w #[] 0 (Nat.le_refl _) (by unfold maxLen; omega) rfl
    have hsl1 := hsl.below ((Below.refl n₀ w).al hn (.cells #[] 2))
    go_enter Tryd.func32, Tryd.ntmps32
    go_wp2_with (at_builtin; refine wpList_append_sl (cells := iv) rfl _ _ 29 rfl w.heap.size 2 i0 _ 1 8 Tryd.underlying29 hi hz0 hz1 hz2 rfl (by decide) iv_len iv_one _ [] rfl hown0 (some a) cap vs n₀ rfl hsl1 (by unfold maxLen; simp; omega) (by simp; omega) (by simp) ?_; intro v' w1 hown' hgrow hnn)
    have hb := owns_grown_below ((Below.refl w.heap.size w).al le_rfl' (.cells #[] 2)) hown0 hgrow (by simp)
    rw [List.nil_append] at hown'
    go_ret
    exact ⟨_, rfl, hown', hb⟩
/-- What the variables begin with. -/
def initsF (l : List Mo) : List Int := (allV l).map Va.init
theorem inits_len (l : List Mo) : (initsF l).length = (allV l).length := by rw [initsF, List.length_map]
theorem inits_snoc (L : List Va) (j : Nat) (h : j < L.length) : (L.map Va.init).take (j + 1) = (L.map Va.init).take j ++ [L[j].init] := by
  rw [List.take_succ_eq_append_getElem (by simpa using h), List.getElem_map]
set_option maxRecDepth 100000 in
set_option maxHeartbeats 8000000 in
theorem first_any (p : Pr) (n₀ : Nat) (w : World) (hn : n₀ ≤ w.heap.size) (hp : p.Is n₀ w) (hvs : vsum p.mons ≤ 1000000) :
    Calls Tryd.prog 19 #[p.val] w fun r w' => OwnBack (initsF p.mons) w w' r := by
  obtain ⟨i0, hi, hz0, hz1, hz2⟩ := info_parts info2
  have h25 : ∀ W, Below w.heap.size w W → Calls Tryd.prog 25 #[p.val] W fun r w' => r = .returned (.int .i64 (vsum p.mons : Nat)) ∧ Below W.heap.size W w' := fun W hW => variables_any p n₀ W (by have := hW.size; omega) (hp.below (hW.mono hn)) hvs
  have h31 : ∀ W, Below w.heap.size w W → Calls Tryd.prog 31 #[p.val] W fun r w' => SlotsBack p.mons W w' r := fun W hW => slots_any p n₀ W (by have := hW.size; omega) (hp.below (hW.mono hn)) hvs
  have HV := hid (allV_len p.mons)
  have HI : Hid (initsF p.mons = (allV p.mons).map Va.init) := rfl
  unfold SlotsBack at h31
  obtain ⟨L, hL⟩ : ∃ L, allV p.mons = L := ⟨_, rfl⟩
  obtain ⟨I, hI⟩ : ∃ I, initsF p.mons = I := ⟨_, rfl⟩
  obtain ⟨vn, hvn⟩ : ∃ a, vsum p.mons = a := ⟨_, rfl⟩
  simp only [hL] at h31
  rw [hL, hI] at HI
  rw [hL, hvn] at HV
  rw [hvn] at hvs
  simp only [hvn] at h25
  rw [hI]
  clear hL hI hvn
  have hLs : L.length ≤ 1000000 := by have := HV.out; omega
  have HIL : Hid (I.length = L.length) := by show _ = _; rw [HI.out, List.length_map]
  rcases p with ⟨mad, mcap, mons, rad, rcap, roles⟩
  simp only [Pr.val] at h25 h31 ⊢
  clear hp
  have hmk : ∀ W : World, (Instr.makeSlice 29 (.int .i64 0) (.int .i64 (vn : Nat))).run Tryd.prog W = .ok (.slice (some ⟨W.heap.size, 0, none⟩) 0 vn) (W.alloc (.cells (madeCells #[.int .i64 0] vn) 2)) := fun W => by
    have h := run_make W 29 2 i0 _ Tryd.underlying29 hi hz0 .i64 .i64 0 (vn : Nat) (by omega) (by omega) (by rw [hz2]; omega) (by omega)
    rw [hz1] at h
    simpa [Value.cells] using h
  go_enter Tryd.func19, Tryd.ntmps19
  go_upto_region 1 with fail
  obtain ⟨bP, hB, hz⟩ := one_box w #[.slice mad mons.length mcap, .slice rad roles.length rcap] 25
  obtain ⟨W0, hW0⟩ : ∃ W0, w.alloc (.cells #[.slice mad mons.length mcap, .slice rad roles.length rcap] 25) = W0 := ⟨_, rfl⟩
  rw [hW0] at bP hB hz ⊢
  clear hW0
  have s0 := cellOf bP 0
  have s1 := cellOf bP 1
  simp at s0 s1
  have HZ := hid hz
  clear hz bP
  go_upto_region 2 with (go_at_call 25; (with_reducible refine (h25 _ hB).mono ?_); rintro r u1 ⟨rfl, bb1⟩)
  have hz0' := HZ.out
  have hB1 := hB.tr le_rfl' bb1
  have hzu := bb1.size
  obtain ⟨B2, hB2⟩ : ∃ B2, u1.heap.size = B2 := ⟨_, rfl⟩
  obtain ⟨bM, hBM, hzM⟩ := one_box u1 (madeCells #[.int .i64 0] vn) 2
  have hownM : (u1.alloc (.cells (madeCells #[.int .i64 0] vn) 2)).ownsRow w.heap.size 2 1 (.slice (some ⟨u1.heap.size, 0, none⟩) 0 vn) 0 [] := World.ownsRow_made (base := w.heap.size) (e := 2) (size := 1) u1 (madeCells #[.int .i64 0] vn) vn (by omega) (by unfold maxLen; omega) (by simp [madeCells])
  obtain ⟨W1, hW1⟩ : ∃ W1, u1.alloc (.cells (madeCells #[.int .i64 0] vn) 2) = W1 := ⟨_, rfl⟩
  rw [hW1] at bM hBM hzM hownM ⊢
  clear hW1
  have hBF1 : Below w.heap.size w W1 := hB1.tr le_rfl' hBM
  have t0 := (hBM.cell (p := ⟨w.heap.size, 0, none⟩) (by show w.heap.size < _; omega)).trans ((bb1.cell (p := ⟨w.heap.size, 0, none⟩) (by show w.heap.size < _; omega)).trans s0)
  have t1 := (hBM.cell (p := ⟨w.heap.size, 1, none⟩) (by show w.heap.size < _; omega)).trans ((bb1.cell (p := ⟨w.heap.size, 1, none⟩) (by show w.heap.size < _; omega)).trans s1)
  rw [hB2] at bM hBM hzM hownM hzu ⊢
  have HZM := hid hzM
  clear hB2 bb1 hB1 s0 s1 hB hz0' bM hBM hzM hmk h25
  go_wp2_with (go_at_call 31; (with_reducible refine (h31 _ hBF1).mono ?_); rintro r u2 ⟨sv, rfl, hsown, bb2⟩; obtain ⟨sad, scp, rfl, hs1, hs2, hs3⟩ := slOwn2 Va.len hsown; have hownM2 : u2.ownsRow w.heap.size 2 1 (.slice (some ⟨B2, 0, none⟩) 0 vn) 0 [] := ownsRow_below hownM bb2)
  unfold maxLen at hs2
  have hzu2 := bb2.size
  have hBF2 := hBF1.tr le_rfl' bb2
  have HR0 : Hid (∀ sb, L ≠ [] → sad = some ⟨sb, 0, none⟩ → B2 ≠ sb ∧ sb < u2.heap.size ∧ RowAt 6 Va.cells u2 sb 0 L) := fun sb hne e => by
    rcases hs3 with h | ⟨b, rfl, h1, h2, h3⟩
    · exact absurd h hne
    · cases e; exact ⟨by have := HZM.out; omega, h2, h3⟩
  have HSA : Hid (L ≠ [] → ∃ sb, sad = some ⟨sb, 0, none⟩) := fun hne => by
    rcases hs3 with h | ⟨b, rfl, h1, h2, h3⟩
    · exact absurd h hne
    · exact ⟨b, rfl⟩
  clear hsown hownM bb2 t0 t1 h31 hs3 hBF1
  go_loopw [3, 12] (fun v i wr => ∃ (j g cp : Nat), j ≤ L.length ∧ i = .int .i64 j ∧ v = .slice (some ⟨g, 0, none⟩) j cp ∧ wr.ownsRow w.heap.size 2 1 (.slice (some ⟨g, 0, none⟩) j cp) j ((I.take j).flatMap iv) ∧ Hid (∀ sb, L ≠ [] → sad = some ⟨sb, 0, none⟩ → g ≠ sb ∧ sb < wr.heap.size ∧ RowAt 6 Va.cells wr sb 0 L) ∧ Below w.heap.size w wr)
    (fun _ i _ => L.length - (intOf i).toNat)
  case atStart => exact ⟨0, B2, vn, by omega, rfl, rfl, hownM2, HR0, hBF2⟩
  case round =>
    obtain ⟨j, g, cp, hj, rfl, rfl, hown, HR, hbw⟩ := hrel
    have hzw := hbw.size
    by_cases hlt : j < L.length
    · have hji : (j : Int) < (L.length : Int) := by omega
      have hne : L ≠ [] := fun h => by subst h; simp at hlt
      obtain ⟨sb, rfl⟩ := HSA.out hne
      obtain ⟨hgs, hsb, hrow⟩ := HR.out sb hne rfl
      have HIS : Hid (I.take (j + 1) = I.take j ++ [L[j].init]) := by
        show _ = _
        rw [HI.out]; exact inits_snoc L j hlt
      have HTL : Hid ((I.take j).length = j) := by show _ = _; rw [List.length_take]; have := HIL.out; omega
      rcases he' : L[j] with ⟨nm, ty, lo, hi', x, pos⟩
      obtain ⟨c0, c1, c2, c3, c4, c5⟩ := row6 hrow j hlt (by rw [he']; rfl)
      simp only [Nat.zero_add] at c0 c1 c2 c3 c4 c5
      rw [he'] at HIS
      simp only at HIS
      clear he'
      have hown1 := (hown.alloc (.cells #[.string nm, .int .i64 ty, .int .i64 lo, .int .i64 hi', .int .i64 x, .int .i64 pos] 59)).alloc (.cells #[.int .i64 x] 2)
      have hb2 : Below w.heap.size w ((wr.alloc (.cells #[.string nm, .int .i64 ty, .int .i64 lo, .int .i64 hi', .int .i64 x, .int .i64 pos] 59)).alloc (.cells #[.int .i64 x] 2)) := (hbw.al le_rfl' _).al le_rfl' _
      have hcn : ((wr.alloc (.cells #[.string nm, .int .i64 ty, .int .i64 lo, .int .i64 hi', .int .i64 x, .int .i64 pos] 59)).alloc (.cells #[.int .i64 x] 2)).cell? ((⟨wr.heap.size + 1, 0, none⟩ : Addr).add 0) = some (.int .i64 x) := by
        have h := cellOf (heapNew (wr.alloc (.cells #[.string nm, .int .i64 ty, .int .i64 lo, .int .i64 hi', .int .i64 x, .int .i64 pos] 59)) (.cells #[.int .i64 x] 2)) 0
        rw [World.size_alloc] at h
        exact h
      go_wp2_with (at_builtin; refine wpList_append_far rfl _ _ 29 rfl w.heap.size 2 i0 _ 1 8 Tryd.underlying29 hi hz0 hz1 hz2 rfl (by decide) _ j _ rfl hown1 ⟨wr.heap.size + 1, 0, none⟩ 1 1 [.int .i64 x] rfl (by simp) (fun k u hk => by
        rcases k with _ | k
        · simp at hk; subst hk; exact hcn
        · simp at hk) (by simp [Value.oneCell']) (by omega) (by unfold maxLen; omega) (by omega) (by simp; omega) ?_; intro g' cp' w1 hown' hgrow hwh)
      go_roundw
      case rel => exact ⟨j + 1, g', cp', by omega, by go_num, rfl, (by rw [HIS.out, List.flatMap_append]; exact hown'), (fun sb' _ e => by
        cases e
        obtain ⟨hgs0, hsb0, hrow0⟩ := HR.out _ hne rfl
        have hgz := hgrow.size
        simp at hgz
        refine ⟨?_, by omega, ?_⟩
        · have hq3 := hgs0
          rcases hwh with h | ⟨h, _⟩
          · have h2 : g = g' := Option.some.inj h
            omega
          · simp at h; omega
        · exact hrow0.block ((hgrow.block _ (by simp; omega) (fun e => hgs0 (Option.some.inj e).symm)).trans ((((Below.refl wr.heap.size wr).al le_rfl' _).al le_rfl' _).block _ hsb0))), owns_grown_below hb2 hown1 hgrow (by simp; omega)⟩
      case measure => simp [intOf]; omega
    · have hjd : decide ((j : Int) < (L.length : Int)) = false := by simp; omega
      have hjj : j = I.length := by have := HIL.out; omega
      rw [List.take_of_length_le (by omega)] at hown
      have HJ := hid hjj
      clear hjj
      go_wp2
      go_ret
      exact ⟨_, rfl, (by rw [← HJ.out]; exact hown), hbw⟩
set_option maxRecDepth 100000 in
set_option maxHeartbeats 8000000 in
theorem refFirst_any (p : Pr) (n₀ : Nat) (w : World) (hn : n₀ ≤ w.heap.size) (hp : p.Is n₀ w) (hvs : vsum p.mons ≤ 1000000) :
    Calls Tryd.prog 20 #[p.val] w fun r w' => OwnBack (initsF p.mons) w w' r := by
  obtain ⟨i0, hi, hz0, hz1, hz2⟩ := info_parts info2
  have h31 : ∀ W, Below w.heap.size w W → Calls Tryd.prog 22 #[p.val] W fun r w' => SlotsBack p.mons W w' r := fun W hW => refSlots_any p n₀ W (by have := hW.size; omega) (hp.below (hW.mono hn)) hvs
  have HV := hid (allV_len p.mons)
  have HI : Hid (initsF p.mons = (allV p.mons).map Va.init) := rfl
  unfold SlotsBack at h31
  obtain ⟨L, hL⟩ : ∃ L, allV p.mons = L := ⟨_, rfl⟩
  obtain ⟨I, hI⟩ : ∃ I, initsF p.mons = I := ⟨_, rfl⟩
  simp only [hL] at h31
  rw [hL, hI] at HI
  rw [hL] at HV
  rw [hI]
  clear hL hI
  have hLs : L.length ≤ 1000000 := by have := HV.out; omega
  have HIL : Hid (I.length = L.length) := by show _ = _; rw [HI.out, List.length_map]
  rcases p with ⟨mad, mcap, mons, rad, rcap, roles⟩
  simp only [Pr.val] at h31 ⊢
  clear hp HV hvs
  go_enter Tryd.func20, Tryd.ntmps20
  go_upto_region 1 with fail
  obtain ⟨bP, hB, hz⟩ := one_box w #[.slice mad mons.length mcap, .slice rad roles.length rcap] 25
  obtain ⟨W0, hW0⟩ : ∃ W0, w.alloc (.cells #[.slice mad mons.length mcap, .slice rad roles.length rcap] 25) = W0 := ⟨_, rfl⟩
  rw [hW0] at bP hB hz ⊢
  clear hW0
  have s0 := cellOf bP 0
  have s1 := cellOf bP 1
  simp at s0 s1
  have HZ := hid hz
  clear hz bP
  go_wp2_with (go_at_call 22; (with_reducible refine (h31 _ hB).mono ?_); rintro r u2 ⟨sv, rfl, hsown, bb2⟩; obtain ⟨sad, scp, rfl, hs1, hs2, hs3⟩ := slOwn2 Va.len hsown)
  unfold maxLen at hs2
  have hzu2 := bb2.size
  have hBF2 := hB.tr le_rfl' bb2
  clear hsown bb2 h31 s0 s1
  go_loopw [3, 5] (fun v i wr => ∃ (j : Nat), j ≤ L.length ∧ i = .int .i64 j ∧ wr.ownsRow u2.heap.size 2 1 v (I.take j).length ((I.take j).flatMap iv) ∧ Below u2.heap.size u2 wr)
    (fun _ i _ => L.length - (intOf i).toNat)
  case atStart => exact ⟨0, by omega, rfl, World.ownsRow_nil _ _ _ _, Below.refl _ _⟩
  case round =>
    obtain ⟨j, hj, rfl, hown, hbw⟩ := hrel
    have hzw := hbw.size
    by_cases hlt : j < L.length
    · have hji : (j : Int) < (L.length : Int) := by omega
      rcases hs3 with h | ⟨sb, rfl, hsb1, hsb2, hrow0⟩
      · subst h; simp at hlt
      have hrow := hrow0.below hbw hsb2
      have hsb : sb < wr.heap.size := by omega
      have HIS : Hid (I.take (j + 1) = I.take j ++ [L[j].init]) := by
        show _ = _
        rw [HI.out]; exact inits_snoc L j hlt
      have hTL : (I.take j).length ≤ 1000000 := by rw [List.length_take]; omega
      rcases he' : L[j] with ⟨nm, ty, lo, hi', x, pos⟩
      obtain ⟨c0, c1, c2, c3, c4, c5⟩ := row6 hrow j hlt (by rw [he']; rfl)
      simp only [Nat.zero_add] at c0 c1 c2 c3 c4 c5
      rw [he'] at HIS
      simp only at HIS
      clear he'
      obtain ⟨K, hK⟩ : ∃ K, I.take j = K := ⟨_, rfl⟩
      rw [hK] at hown hTL
      rw [hK] at HIS
      clear hK
      have hown1 := hown.alloc (.cells #[.int .i64 x] 2)
      have hsl1 : SlAt 1 iv (wr.heap.size + 1) (wr.alloc (.cells #[.int .i64 x] 2)) (some ⟨wr.heap.size, 0, none⟩) 1 [x] := ⟨by simp, by unfold maxLen; omega, .inr ⟨wr.heap.size, 0, rfl, by omega, fun k hk i hi2 => by
        simp at hk
        subst hk
        have : i = 0 := by omega
        subst this
        exact cellOf (heapNew wr (.cells #[.int .i64 x] 2)) 0⟩⟩
      go_wp2_with (at_builtin; refine wpList_append_sl (cells := iv) rfl _ _ 29 rfl u2.heap.size 2 i0 _ 1 8 Tryd.underlying29 hi hz0 hz1 hz2 rfl (by decide) iv_len iv_one _ K rfl hown1 _ _ [x] _ rfl hsl1 (by unfold maxLen; simp; omega) (by simp; omega) (by simp; omega) ?_; intro v' w1 hown' hgrow _)
      go_roundw
      case rel => exact ⟨j + 1, by omega, by go_num, (by rw [HIS.out]; exact hown'), owns_grown_below (hbw.al le_rfl' _) hown1 hgrow (by simp; omega)⟩
      case measure => simp [intOf]; omega
    · have hjd : decide ((j : Int) < (L.length : Int)) = false := by simp; omega
      rw [List.take_of_length_le (by have := HIL.out; omega)] at hown
      have hz00 := hB.size
      go_wp2
      go_ret
      exact ⟨_, rfl, ownsRow_base hown (by omega), hBF2.trans (hbw.mono (by omega))⟩
end Go.Proofs.YtopiceoofdlkbaaDoor
namespace Go.Proofs.YtopiceoofdlkbaaDoor
open Go.RowKit
theorem iv_set (l : List Int) (s : Nat) (n : Int) : (l.flatMap iv).set s (.int .i64 n) = (l.set s n).flatMap iv := by
  have h : ∀ l : List Int, l.flatMap iv = l.map (Value.int .i64 ·) := fun l => by
    induction l with
    | nil => rfl
    | cons a l ih => rw [List.flatMap_cons, ih]; rfl
  rw [h, h, List.map_set]
/-- Whether a variable may have a number. -/
def fitO (v : Option Va) (n : Int) : Option Int := match v with
  | some v => if fitF v.type v.lo v.hi n then none else some 110
  | none => some 110
/-- What Set tells: an error; the values. -/
def setE (p : Pr) (mon name : ByteArray) (n : Int) (vs : List Int) : Option Int :=
  match slotIx p.mons mon name with
  | none => some 61
  | some s => if vs.length = vsum p.mons then fitO (allV p.mons)[s]? n else some 2
def setL (p : Pr) (mon name : ByteArray) (n : Int) (vs : List Int) : List Int :=
  match slotIx p.mons mon name with
  | none => []
  | some s => vs.set s n
def SetBack (er : Option Int) (l : List Int) (w w' : World) (r : Ending) : Prop := ((∃ c, er = some c ∧ (c = 61 ∨ c = 2 ∨ c = 110) ∧ r = .returned (.tuple #[.slice none 0 0, .int .i64 c])) ∨ (er = none ∧ ∃ ad cp, r = .returned (.tuple #[.slice ad l.length cp, .int .i64 0]) ∧ SlAt 1 iv w'.heap.size w' ad cp l)) ∧ Below w.heap.size w w'
theorem setBack_no {er : Option Int} {l : List Int} {w w' : World} {c : Int} (h : er = some c) (hc : c = 61 ∨ c = 2 ∨ c = 110) (hb : Below w.heap.size w w') : SetBack er l w w' (.returned (.tuple #[.slice none 0 0, .int .i64 c])) := ⟨.inl ⟨c, h, hc, rfl⟩, hb⟩
theorem setBack_yes {er : Option Int} {l : List Int} {w w' : World} {ad : Option Addr} {k cp : Nat} (h : er = none) (hk : l.length = k) (hs : SlAt 1 iv w'.heap.size w' ad cp l) (hb : Below w.heap.size w w') : SetBack er l w w' (.returned (.tuple #[.slice ad k cp, .int .i64 0])) := by subst hk; exact ⟨.inr ⟨h, ad, cp, rfl, hs⟩, hb⟩
theorem SetBack.no {f : FuncId} {args : Array Value} {er : Option Int} {l : List Int} {w : World} (h : Calls Tryd.prog f args w fun r w' => SetBack er l w w' r) {c : Int} (he : er = some c) : Calls Tryd.prog f args w fun r w' => r = .returned (.tuple #[.slice none 0 0, .int .i64 c]) ∧ Below w.heap.size w w' :=
  h.mono fun r w' hh => by
    rcases hh.1 with ⟨c', h1, _, h2⟩ | ⟨h1, _⟩
    · rw [he] at h1; cases h1; exact ⟨h2, hh.2⟩
    · rw [he] at h1; cases h1
theorem SetBack.yes {f : FuncId} {args : Array Value} {er : Option Int} {l : List Int} {w : World} (h : Calls Tryd.prog f args w fun r w' => SetBack er l w w' r) (he : er = none) : Calls Tryd.prog f args w fun r w' => (∃ ad cp, r = .returned (.tuple #[.slice ad l.length cp, .int .i64 0]) ∧ SlAt 1 iv w'.heap.size w' ad cp l) ∧ Below w.heap.size w w' :=
  h.mono fun r w' hh => by
    rcases hh.1 with ⟨c', h1, _⟩ | ⟨_, h2⟩
    · rw [he] at h1; cases h1
    · exact ⟨h2, hh.2⟩
/-- A number put into a row that is owned. -/
theorem own_put {W : World} {base : Nat} {v : Value} {vs : List Int} (h : W.ownsRow base 2 1 v vs.length (vs.flatMap iv)) {s : Nat} (hs : s < vs.length) : ∃ g cp, v = .slice (some ⟨g, 0, none⟩) vs.length cp ∧ base ≤ g ∧ g < W.heap.size ∧ vs.length ≤ cp ∧ W.cell? ⟨g, s, none⟩ = some (.int .i64 vs[s]) ∧ W.frozen? ⟨g, s, none⟩ = false ∧
    ∀ n : Int, (W.setCell ⟨g, s, none⟩ (.int .i64 n)).ownsRow base 2 1 (.slice (some ⟨g, 0, none⟩) vs.length cp) (vs.set s n).length ((vs.set s n).flatMap iv) ∧ W.grownBy (W.setCell ⟨g, s, none⟩ (.int .i64 n)) (some g) := by
  rcases h.2 with ⟨_, hn⟩ | ⟨g, cp, cur, rfl, h2, h3, h4, _⟩
  · omega
  · refine ⟨g, cp, rfl, h2, (Array.getElem?_eq_some_iff.1 h3).1, h4, ?_, h.frozenAt s, fun n => ?_⟩
    · have h5 : (vs.flatMap iv)[s]? = some (.int .i64 vs[s]) := by
        have := flatGet 1 iv iv_len 0 (by omega) vs s hs
        rw [Nat.mul_one, Nat.add_zero] at this
        rw [this]; rfl
      have h6 := h.cells (g := g) rfl s _ h5
      rwa [Addr.add_lit, Nat.zero_add] at h6
    · have h7 := h.stored s (.int .i64 n)
      rw [iv_set] at h7
      rw [List.length_set]
      exact h7
set_option maxRecDepth 100000 in
set_option maxHeartbeats 16000000 in
theorem set_any (p : Pr) (hvs : vsum p.mons ≤ 1000000) (mon name : ByteArray) (n : Int) (vs : List Int) (vad : Option Addr) (vcap : Nat) (n₀ : Nat) (w : World) (hn : n₀ ≤ w.heap.size) (hp : p.Is n₀ w) (hV : SlAt 1 iv n₀ w vad vcap vs) :
    Calls Tryd.prog 16 #[p.val, .string mon, .string name, .int .i64 n, .slice vad vs.length vcap] w fun r w' => SetBack (setE p mon name n vs) (setL p mon name n vs) w w' r := by
  have hv1 := hV.1; have hv2 := hV.2.1
  unfold maxLen at hv2
  obtain ⟨i0, hi, iz0, iz1, iz2⟩ := info_parts info2
  have h29 : ∀ W, Below w.heap.size w W → Calls Tryd.prog 29 #[p.val, .string mon, .string name] W fun r w' => FirstBack (slotIx p.mons mon name) W w' r := fun W hW => slot_any p mon name n₀ W (by have := hW.size; omega) (hp.below (hW.mono hn)) hvs
  have h25 : ∀ W, Below w.heap.size w W → Calls Tryd.prog 25 #[p.val] W fun r w' => r = .returned (.int .i64 (vsum p.mons : Nat)) ∧ Below W.heap.size W w' := fun W hW => variables_any p n₀ W (by have := hW.size; omega) (hp.below (hW.mono hn)) hvs
  have h32 : vs.length ≤ 1000000 → ∀ W, Below w.heap.size w W → Calls Tryd.prog 32 #[.slice vad vs.length vcap] W fun r w' => OwnBack vs W w' r := fun h W hW => clone_any vad vcap vs n₀ W (by have := hW.size; omega) (hV.below (hW.mono hn)) h
  unfold OwnBack at h32
  have h31 : ∀ W, Below w.heap.size w W → Calls Tryd.prog 31 #[p.val] W fun r w' => SlotsBack p.mons W w' r := fun W hW => slots_any p n₀ W (by have := hW.size; omega) (hp.below (hW.mono hn)) hvs
  unfold SlotsBack at h31
  have HE : Hid (setE p mon name n vs = match slotIx p.mons mon name with | none => some 61 | some s => if vs.length = vsum p.mons then fitO (allV p.mons)[s]? n else some 2) := rfl
  have HL : Hid (setL p mon name n vs = match slotIx p.mons mon name with | none => [] | some s => vs.set s n) := rfl
  have HLT : Hid (∀ s, slotIx p.mons mon name = some s → s < vsum p.mons) := fun s h => slotIx_lt h
  have HAV := hid (allV_len p.mons)
  generalize setE p mon name n vs = ER at *
  generalize setL p mon name n vs = SL at *
  obtain ⟨so, hso⟩ : ∃ a, slotIx p.mons mon name = a := ⟨_, rfl⟩
  obtain ⟨L, hLL⟩ : ∃ L, allV p.mons = L := ⟨_, rfl⟩
  obtain ⟨vn, hvn⟩ : ∃ a, vsum p.mons = a := ⟨_, rfl⟩
  simp only [hso] at h29
  simp only [hso, hLL, hvn] at HE
  simp only [hso] at HL
  simp only [hso, hvn] at HLT
  simp only [hLL] at h31
  rw [hLL, hvn] at HAV
  rw [hvn] at hvs
  simp only [hvn] at h25
  clear hso hLL hvn
  obtain ⟨pad, hpad⟩ : ∃ a, p.mad = a := ⟨_, rfl⟩
  obtain ⟨pml, hpml⟩ : ∃ a, p.mons.length = a := ⟨_, rfl⟩
  obtain ⟨pmc, hpmc⟩ : ∃ a, p.mcap = a := ⟨_, rfl⟩
  obtain ⟨prd, hprd⟩ : ∃ a, p.rad = a := ⟨_, rfl⟩
  obtain ⟨prl, hprl⟩ : ∃ a, p.roles.length = a := ⟨_, rfl⟩
  obtain ⟨prc, hprc⟩ : ∃ a, p.rcap = a := ⟨_, rfl⟩
  simp only [Pr.val, hpad, hpml, hpmc, hprd, hprl, hprc] at h29 h25 h31 ⊢
  clear hpad hpml hpmc hprd hprl hprc hp
  go_enter Tryd.func16, Tryd.ntmps16
  go_upto_region 1 with fail
  obtain ⟨bP, hB, hz⟩ := one_box w #[.slice pad pml pmc, .slice prd prl prc] 25
  obtain ⟨W0, hW0⟩ : ∃ W0, w.alloc (.cells #[.slice pad pml pmc, .slice prd prl prc] 25) = W0 := ⟨_, rfl⟩
  rw [hW0] at bP hB hz ⊢
  clear hW0
  have s0 := cellOf bP 0
  have s1 := cellOf bP 1
  simp at s0 s1
  have HZ := hid hz
  clear hz bP
  have hq := h29 W0 hB
  clear h29
  rcases so with _ | s
  · have hq := FirstBack.no hq rfl
    have HE2 : Hid (ER = some 61) := HE.out
    clear HE HL HLT HAV h31 h25 h32 hV
    go_wp2_with (go_at_call 29; (with_reducible refine hq.mono ?_); rintro r u1 ⟨rfl, bb1⟩)
    go_ret2
    exact setBack_no HE2.out (.inl rfl) (hB.tr le_rfl' bb1)
  have hq := FirstBack.yes hq rfl
  have hslt := HLT.out s rfl
  have HL2 : Hid (SL = vs.set s n) := HL.out
  have HE1 : Hid (ER = (if vs.length = vn then fitO L[s]? n else some 2 : Option Int)) := HE.out
  clear HE HL HLT
  by_cases hl : vs.length = vn
  · have hlb : (((vs.length : Nat) : Int) != ((vn : Nat) : Int)) = false := by rw [hl]; simp
    have hsv : s < vs.length := by omega
    have hsL : s < L.length := by have := HAV.out; omega
    have hsi : (s : Int) < (vs.length : Int) := by omega
    have hsLi : (s : Int) < (L.length : Int) := by omega
    have hvm : vs.length ≤ 1000000 := by omega
    have h32 := h32 hvm
    have hll : (((vs.length : Nat) : Int) != ((L.length : Nat) : Int)) = false := by rw [HAV.out, hl]; simp
    have HE2 : Hid (ER = (if fitF L[s].type L[s].lo L[s].hi n then none else some 110 : Option Int)) := by
      show _ = _
      rw [HE1.out, if_pos hl, List.getElem?_eq_getElem hsL]; rfl
    clear HE1 hl HAV
    rcases he' : L[s] with ⟨nm, ty, lo, hi', x, pos⟩
    rw [he'] at HE2
    simp only at HE2
    have HCE : Hid (∀ (W : World) (b : Nat), RowAt 6 Va.cells W b 0 L → W.cell? ⟨b, s * 6, none⟩ = some (.string nm) ∧ W.cell? ⟨b, s * 6 + 1, none⟩ = some (.int .i64 ty) ∧ W.cell? ⟨b, s * 6 + 2, none⟩ = some (.int .i64 lo) ∧ W.cell? ⟨b, s * 6 + 3, none⟩ = some (.int .i64 hi') ∧ W.cell? ⟨b, s * 6 + 4, none⟩ = some (.int .i64 x) ∧ W.cell? ⟨b, s * 6 + 5, none⟩ = some (.int .i64 pos)) := fun W b h => by
      have h2 := row6 h s hsL (by rw [he']; rfl)
      simp only [Nat.zero_add] at h2
      exact h2
    have hF := fits_any nm ty lo hi' x pos n
    clear he'
    cases hf : fitF ty lo hi' n
    · rw [hf] at hF
      have HE3 : Hid (ER = some 110) := by show _ = _; rw [HE2.out, hf]; rfl
      clear hf HE2 h32
      go_wp2_with (first | (go_at_call 29; (with_reducible refine hq.mono ?_); rintro r u1 ⟨rfl, bb1⟩; have hB1 := hB.tr le_rfl' bb1; have hz1 := bb1.size; have x0 := (bb1.cell (p := ⟨w.heap.size, 0, none⟩) (by show w.heap.size < _; have := HZ.out; have := hB.size; omega)).trans s0; have x1 := (bb1.cell (p := ⟨w.heap.size, 1, none⟩) (by show w.heap.size < _; have := HZ.out; have := hB.size; omega)).trans s1) | (go_at_call 25; (with_reducible refine (h25 _ hB1).mono ?_); rintro r u2 ⟨rfl, bb2⟩; have hB2 := hB1.tr le_rfl' bb2; have hz2 := bb2.size; have y0 := (bb2.cell (p := ⟨w.heap.size, 0, none⟩) (by show w.heap.size < _; have := HZ.out; have := hB.size; omega)).trans x0; have y1 := (bb2.cell (p := ⟨w.heap.size, 1, none⟩) (by show w.heap.size < _; have := HZ.out; have := hB.size; omega)).trans x1) | (go_at_call 31; (with_reducible refine (h31 _ hB2).mono ?_); rintro r u3 ⟨sv, rfl, hsown, bb3⟩; obtain ⟨sad, scp, rfl, hs1, hs2, hs3⟩ := slOwn2 Va.len hsown; have hB3 := hB2.tr le_rfl' bb3; unfold maxLen at hs2; rcases hs3 with hs3 | ⟨sb, rfl, hsb1, hsb2, hrow⟩; (exfalso; subst hs3; simp at hsL); obtain ⟨c0, c1, c2, c3, c4, c5⟩ := HCE.out u3 sb hrow; clear hsown) | (go_at_call 30; (with_reducible refine (hF _).mono ?_); rintro r u4 ⟨rfl, cc, rfl⟩; have hB4 := hB3.al (Nat.le_refl _) (.cells cc 59)))
      go_ret2
      exact setBack_no HE3.out (.inr (.inr rfl)) hB4
    · rw [hf] at hF
      have HE3 : Hid (ER = none) := by show _ = _; rw [HE2.out, hf]; rfl
      clear hf HE2
      go_wp2_with (first | (go_at_call 29; (with_reducible refine hq.mono ?_); rintro r u1 ⟨rfl, bb1⟩; have hB1 := hB.tr le_rfl' bb1; have hz1 := bb1.size; have x0 := (bb1.cell (p := ⟨w.heap.size, 0, none⟩) (by show w.heap.size < _; have := HZ.out; have := hB.size; omega)).trans s0; have x1 := (bb1.cell (p := ⟨w.heap.size, 1, none⟩) (by show w.heap.size < _; have := HZ.out; have := hB.size; omega)).trans s1) | (go_at_call 25; (with_reducible refine (h25 _ hB1).mono ?_); rintro r u2 ⟨rfl, bb2⟩; have hB2 := hB1.tr le_rfl' bb2; have hz2 := bb2.size; have y0 := (bb2.cell (p := ⟨w.heap.size, 0, none⟩) (by show w.heap.size < _; have := HZ.out; have := hB.size; omega)).trans x0; have y1 := (bb2.cell (p := ⟨w.heap.size, 1, none⟩) (by show w.heap.size < _; have := HZ.out; have := hB.size; omega)).trans x1) | (go_at_call 31; (with_reducible refine (h31 _ hB2).mono ?_); rintro r u3 ⟨sv, rfl, hsown, bb3⟩; obtain ⟨sad, scp, rfl, hs1, hs2, hs3⟩ := slOwn2 Va.len hsown; have hB3 := hB2.tr le_rfl' bb3; unfold maxLen at hs2; rcases hs3 with hs3 | ⟨sb, rfl, hsb1, hsb2, hrow⟩; (exfalso; subst hs3; simp at hsL); obtain ⟨c0, c1, c2, c3, c4, c5⟩ := HCE.out u3 sb hrow; clear hsown) | (go_at_call 30; (with_reducible refine (hF _).mono ?_); rintro r u4 ⟨rfl, cc, rfl⟩; have hB4 := hB3.al (Nat.le_refl _) (.cells cc 59)) | (go_at_call 32; (with_reducible refine (h32 _ hB4).mono ?_); rintro r u5 ⟨v5, rfl, hown5, bb5⟩; have hB5 := hB4.tr le_rfl' bb5; obtain ⟨g, cp, rfl, hg1, hg2, hg3, hgc, hgf, hput⟩ := own_put hown5 hsv; have HPUT := hid (hput n); clear hput hown5))
      go_ret2
      obtain ⟨hown6, hgr⟩ := HPUT.out
      obtain ⟨ad', cp', e', hs'⟩ := slOwn iv_len hown6
      injection e' with e1 e2 e3
      subst e1 e3
      exact setBack_yes HE3.out (by rw [HL2.out, List.length_set]) (by rw [HL2.out]; exact hs') (hB5.grown hgr (by have := hB5.size; omega) (fun k hk => by cases hk; have := hB4.size; omega))
  · have hlb : (((vs.length : Nat) : Int) != ((vn : Nat) : Int)) = true := by rw [bne_iff_ne]; omega
    have hll : (((vs.length : Nat) : Int) != ((L.length : Nat) : Int)) = true := by rw [HAV.out]; exact hlb
    have HE2 : Hid (ER = some 2) := by show _ = _; rw [HE1.out, if_neg hl]
    clear HE1 hl
    go_wp2_with (first | (go_at_call 29; (with_reducible refine hq.mono ?_); rintro r u1 ⟨rfl, bb1⟩; have hB1 := hB.tr le_rfl' bb1; have hz1 := bb1.size; have x0 := (bb1.cell (p := ⟨w.heap.size, 0, none⟩) (by show w.heap.size < _; have := HZ.out; have := hB.size; omega)).trans s0; have x1 := (bb1.cell (p := ⟨w.heap.size, 1, none⟩) (by show w.heap.size < _; have := HZ.out; have := hB.size; omega)).trans s1) | (go_at_call 25; (with_reducible refine (h25 _ hB1).mono ?_); rintro r u2 ⟨rfl, bb2⟩; have hB2 := hB1.tr le_rfl' bb2; have hz2 := bb2.size; have y0 := (bb2.cell (p := ⟨w.heap.size, 0, none⟩) (by show w.heap.size < _; have := HZ.out; have := hB.size; omega)).trans x0; have y1 := (bb2.cell (p := ⟨w.heap.size, 1, none⟩) (by show w.heap.size < _; have := HZ.out; have := hB.size; omega)).trans x1))
    go_ret2
    exact setBack_no HE2.out (.inr (.inl rfl)) hB2
set_option maxRecDepth 100000 in
set_option maxHeartbeats 16000000 in
theorem refSet_any (p : Pr) (hvs : vsum p.mons ≤ 1000000) (mon name : ByteArray) (n : Int) (vs : List Int) (vad : Option Addr) (vcap : Nat) (n₀ : Nat) (w : World) (hn : n₀ ≤ w.heap.size) (hp : p.Is n₀ w) (hV : SlAt 1 iv n₀ w vad vcap vs) :
    Calls Tryd.prog 17 #[p.val, .string mon, .string name, .int .i64 n, .slice vad vs.length vcap] w fun r w' => SetBack (setE p mon name n vs) (setL p mon name n vs) w w' r := by
  have hv1 := hV.1; have hv2 := hV.2.1
  unfold maxLen at hv2
  obtain ⟨i0, hi, iz0, iz1, iz2⟩ := info_parts info2
  have h29 : ∀ W, Below w.heap.size w W → Calls Tryd.prog 33 #[p.val, .string mon, .string name] W fun r w' => FirstBack (slotIx p.mons mon name) W w' r := fun W hW => refSlot_any p mon name n₀ W (by have := hW.size; omega) (hp.below (hW.mono hn)) hvs
  have h31 : ∀ W, Below w.heap.size w W → Calls Tryd.prog 22 #[p.val] W fun r w' => SlotsBack p.mons W w' r := fun W hW => refSlots_any p n₀ W (by have := hW.size; omega) (hp.below (hW.mono hn)) hvs
  unfold SlotsBack at h31
  have HE : Hid (setE p mon name n vs = match slotIx p.mons mon name with | none => some 61 | some s => if vs.length = vsum p.mons then fitO (allV p.mons)[s]? n else some 2) := rfl
  have HL : Hid (setL p mon name n vs = match slotIx p.mons mon name with | none => [] | some s => vs.set s n) := rfl
  have HLT : Hid (∀ s, slotIx p.mons mon name = some s → s < vsum p.mons) := fun s h => slotIx_lt h
  have HAV := hid (allV_len p.mons)
  generalize setE p mon name n vs = ER at *
  generalize setL p mon name n vs = SL at *
  obtain ⟨so, hso⟩ : ∃ a, slotIx p.mons mon name = a := ⟨_, rfl⟩
  obtain ⟨L, hLL⟩ : ∃ L, allV p.mons = L := ⟨_, rfl⟩
  obtain ⟨vn, hvn⟩ : ∃ a, vsum p.mons = a := ⟨_, rfl⟩
  simp only [hso] at h29
  simp only [hso, hLL, hvn] at HE
  simp only [hso] at HL
  simp only [hso, hvn] at HLT
  simp only [hLL] at h31
  rw [hLL, hvn] at HAV
  rw [hvn] at hvs
  clear hso hLL hvn
  obtain ⟨pad, hpad⟩ : ∃ a, p.mad = a := ⟨_, rfl⟩
  obtain ⟨pml, hpml⟩ : ∃ a, p.mons.length = a := ⟨_, rfl⟩
  obtain ⟨pmc, hpmc⟩ : ∃ a, p.mcap = a := ⟨_, rfl⟩
  obtain ⟨prd, hprd⟩ : ∃ a, p.rad = a := ⟨_, rfl⟩
  obtain ⟨prl, hprl⟩ : ∃ a, p.roles.length = a := ⟨_, rfl⟩
  obtain ⟨prc, hprc⟩ : ∃ a, p.rcap = a := ⟨_, rfl⟩
  simp only [Pr.val, hpad, hpml, hpmc, hprd, hprl, hprc] at h29 h31 ⊢
  clear hpad hpml hpmc hprd hprl hprc hp
  go_enter Tryd.func17, Tryd.ntmps17
  go_upto_region 1 with fail
  obtain ⟨bP, hB, hz⟩ := one_box w #[.slice pad pml pmc, .slice prd prl prc] 25
  obtain ⟨W0, hW0⟩ : ∃ W0, w.alloc (.cells #[.slice pad pml pmc, .slice prd prl prc] 25) = W0 := ⟨_, rfl⟩
  rw [hW0] at bP hB hz ⊢
  clear hW0
  have s0 := cellOf bP 0
  have s1 := cellOf bP 1
  simp at s0 s1
  have HZ := hid hz
  clear hz bP
  have hq := h29 W0 hB
  clear h29
  rcases so with _ | s
  · have hq := FirstBack.no hq rfl
    have HE2 : Hid (ER = some 61) := HE.out
    clear HE HL HLT HAV h31 hV
    go_wp2_with (go_at_call 33; (with_reducible refine hq.mono ?_); rintro r u1 ⟨rfl, bb1⟩)
    go_ret2
    exact setBack_no HE2.out (.inl rfl) (hB.tr le_rfl' bb1)
  have hq := FirstBack.yes hq rfl
  have hslt := HLT.out s rfl
  have HL2 : Hid (SL = vs.set s n) := HL.out
  have HE1 : Hid (ER = (if vs.length = vn then fitO L[s]? n else some 2 : Option Int)) := HE.out
  clear HE HL HLT
  by_cases hl : vs.length = vn
  · have hlb : (((vs.length : Nat) : Int) != ((vn : Nat) : Int)) = false := by rw [hl]; simp
    have hsv : s < vs.length := by omega
    have hsL : s < L.length := by have := HAV.out; omega
    have hsi : (s : Int) < (vs.length : Int) := by omega
    have hsLi : (s : Int) < (L.length : Int) := by omega
    have hvm : vs.length ≤ 1000000 := by omega

    have hll : (((vs.length : Nat) : Int) != ((L.length : Nat) : Int)) = false := by rw [HAV.out, hl]; simp
    have HE2 : Hid (ER = (if fitF L[s].type L[s].lo L[s].hi n then none else some 110 : Option Int)) := by
      show _ = _
      rw [HE1.out, if_pos hl, List.getElem?_eq_getElem hsL]; rfl
    clear HE1 hl HAV
    rcases he' : L[s] with ⟨nm, ty, lo, hi', x, pos⟩
    rw [he'] at HE2
    simp only at HE2
    have HCE : Hid (∀ (W : World) (b : Nat), RowAt 6 Va.cells W b 0 L → W.cell? ⟨b, s * 6, none⟩ = some (.string nm) ∧ W.cell? ⟨b, s * 6 + 1, none⟩ = some (.int .i64 ty) ∧ W.cell? ⟨b, s * 6 + 2, none⟩ = some (.int .i64 lo) ∧ W.cell? ⟨b, s * 6 + 3, none⟩ = some (.int .i64 hi') ∧ W.cell? ⟨b, s * 6 + 4, none⟩ = some (.int .i64 x) ∧ W.cell? ⟨b, s * 6 + 5, none⟩ = some (.int .i64 pos)) := fun W b h => by
      have h2 := row6 h s hsL (by rw [he']; rfl)
      simp only [Nat.zero_add] at h2
      exact h2
    have hF := fitsR_any nm ty lo hi' x pos n
    clear he'
    cases hf : fitF ty lo hi' n
    · rw [hf] at hF
      have HE3 : Hid (ER = some 110) := by show _ = _; rw [HE2.out, hf]; rfl
      clear hf HE2 
      go_wp2_with (first | (go_at_call 33; (with_reducible refine hq.mono ?_); rintro r u1 ⟨rfl, bb1⟩; have hB1 := hB.tr le_rfl' bb1; have hz1 := bb1.size; have x0 := (bb1.cell (p := ⟨w.heap.size, 0, none⟩) (by show w.heap.size < _; have := HZ.out; have := hB.size; omega)).trans s0; have x1 := (bb1.cell (p := ⟨w.heap.size, 1, none⟩) (by show w.heap.size < _; have := HZ.out; have := hB.size; omega)).trans s1) | fail | (go_at_call 22; (with_reducible refine (h31 _ hB1).mono ?_); rintro r u3 ⟨sv, rfl, hsown, bb3⟩; obtain ⟨sad, scp, rfl, hs1, hs2, hs3⟩ := slOwn2 Va.len hsown; have hB3 := hB1.tr le_rfl' bb3; unfold maxLen at hs2; rcases hs3 with hs3 | ⟨sb, rfl, hsb1, hsb2, hrow⟩; (exfalso; subst hs3; simp at hsL); obtain ⟨c0, c1, c2, c3, c4, c5⟩ := HCE.out u3 sb hrow; clear hsown) | (go_at_call 34; (with_reducible refine (hF _).mono ?_); rintro r u4 ⟨rfl, cc, rfl⟩; have hB4 := hB3.al (Nat.le_refl _) (.cells cc 59)))
      go_ret2
      exact setBack_no HE3.out (.inr (.inr rfl)) hB4
    · rw [hf] at hF
      have HE3 : Hid (ER = none) := by show _ = _; rw [HE2.out, hf]; rfl
      clear hf HE2
      go_wp2_with (first | (go_at_call 33; (with_reducible refine hq.mono ?_); rintro r u1 ⟨rfl, bb1⟩; have hB1 := hB.tr le_rfl' bb1; have hz1 := bb1.size; have x0 := (bb1.cell (p := ⟨w.heap.size, 0, none⟩) (by show w.heap.size < _; have := HZ.out; have := hB.size; omega)).trans s0; have x1 := (bb1.cell (p := ⟨w.heap.size, 1, none⟩) (by show w.heap.size < _; have := HZ.out; have := hB.size; omega)).trans s1) | fail | (go_at_call 22; (with_reducible refine (h31 _ hB1).mono ?_); rintro r u3 ⟨sv, rfl, hsown, bb3⟩; obtain ⟨sad, scp, rfl, hs1, hs2, hs3⟩ := slOwn2 Va.len hsown; have hB3 := hB1.tr le_rfl' bb3; unfold maxLen at hs2; rcases hs3 with hs3 | ⟨sb, rfl, hsb1, hsb2, hrow⟩; (exfalso; subst hs3; simp at hsL); obtain ⟨c0, c1, c2, c3, c4, c5⟩ := HCE.out u3 sb hrow; clear hsown) | (go_at_call 34; (with_reducible refine (hF _).mono ?_); rintro r u4 ⟨rfl, cc, rfl⟩; have hB4 := hB3.al (Nat.le_refl _) (.cells cc 59)) | (at_builtin; have hz4 := hB4.size; have hown0 := World.ownsRow_made (base := w.heap.size) (e := 2) (size := 1) (u3.alloc (.cells cc 59)) #[] 0 hz4 (by unfold maxLen; omega) rfl; rw [World.size_alloc] at hown0; have hsl0 := (hV.below (hB4.mono hn)).below ((Below.refl n₀ (u3.alloc (.cells cc 59))).al (by omega) (.cells #[] 2)); refine wpList_append_sl (cells := iv) rfl _ _ 29 rfl w.heap.size 2 i0 _ 1 8 Tryd.underlying29 hi iz0 iz1 iz2 rfl (by decide) iv_len iv_one _ [] rfl hown0 vad vcap vs n₀ rfl hsl0 (by unfold maxLen; simp; omega) (by simp; omega) (by simp at hz4 ⊢; omega) ?_; intro v5 u5 hown5 hgrow5 _; have hB5 := owns_grown_below (hB4.al le_rfl' (.cells #[] 2)) hown0 hgrow5 (by simp at hz4 ⊢; omega); rw [List.nil_append] at hown5; obtain ⟨g, cp, rfl, hg1, hg2, hg3, hgc, hgf, hput⟩ := own_put hown5 hsv; have HPUT := hid (hput n); clear hput hown5))
      go_ret2
      obtain ⟨hown6, hgr⟩ := HPUT.out
      obtain ⟨ad', cp', e', hs'⟩ := slOwn iv_len hown6
      injection e' with e1 e2 e3
      subst e1 e3
      exact setBack_yes HE3.out (by rw [HL2.out, List.length_set]) (by rw [HL2.out]; exact hs') (hB5.grown hgr (by have := hB5.size; omega) (fun k hk => by cases hk; exact hg1))
  · have hlb : (((vs.length : Nat) : Int) != ((vn : Nat) : Int)) = true := by rw [bne_iff_ne]; omega
    have hll : (((vs.length : Nat) : Int) != ((L.length : Nat) : Int)) = true := by rw [HAV.out]; exact hlb
    have HE2 : Hid (ER = some 2) := by show _ = _; rw [HE1.out, if_neg hl]
    clear HE1 hl
    go_wp2_with (first | (go_at_call 33; (with_reducible refine hq.mono ?_); rintro r u1 ⟨rfl, bb1⟩; have hB1 := hB.tr le_rfl' bb1; have hz1 := bb1.size; have x0 := (bb1.cell (p := ⟨w.heap.size, 0, none⟩) (by show w.heap.size < _; have := HZ.out; have := hB.size; omega)).trans s0; have x1 := (bb1.cell (p := ⟨w.heap.size, 1, none⟩) (by show w.heap.size < _; have := HZ.out; have := hB.size; omega)).trans s1) | (go_at_call 22; (with_reducible refine (h31 _ hB1).mono ?_); rintro r u3 ⟨sv, rfl, hsown, bb3⟩; obtain ⟨sad, scp, rfl, hs1, hs2, hs3⟩ := slOwn2 Va.len hsown; have hB2 := hB1.tr le_rfl' bb3))
    go_ret2
    exact setBack_no HE2.out (.inr (.inl rfl)) hB2
end Go.Proofs.YtopiceoofdlkbaaDoor
