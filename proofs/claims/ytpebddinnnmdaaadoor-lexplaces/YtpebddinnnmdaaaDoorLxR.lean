/-
  For every list of tokens that comes in the statement LexJoins hands back true (its walk).
-/
import Derived.Test.YtpebddinnnmdaaaDoorLxQ
import Derived.Laws.AppendOwnNone
namespace Go.Proofs.YtpebddinnnmdaaaDoor
open Go.RowKit
/-- A token that came in. -/
structure Tk where
  kind : Int
  text : ByteArray
  n : Int
  pos : Int
def Tk.cells (t : Tk) : List Value := [.int .i64 t.kind, .string t.text, .int .i64 t.n, .int .i64 t.pos]
/-- Element j, cell i of rows of four cells. -/
theorem flat4_get {α : Type} (f : α → List Value) (hf : ∀ a, (f a).length = 4) (l : List α) (j i : Nat) (hj : j < l.length) (hi : i < 4) : (l.flatMap f)[j * 4 + i]? = (f l[j])[i]? := by
  induction l generalizing j with
  | nil => simp at hj
  | cons a r ih =>
    rw [List.flatMap_cons]
    cases j with
    | zero => rw [Nat.zero_mul, Nat.zero_add, List.getElem?_append_left (by rw [hf]; exact hi)]; rfl
    | succ j =>
      rw [List.getElem?_append_right (by rw [hf]; omega), hf]
      rw [show (j + 1) * 4 + i - 4 = j * 4 + i by omega]
      exact ih j (by simpa using hj)
theorem flat4_length {α : Type} (f : α → List Value) (hf : ∀ a, (f a).length = 4) (l : List α) : (l.flatMap f).length = l.length * 4 := by
  induction l with
  | nil => rfl
  | cons a r ih => rw [List.flatMap_cons, List.length_append, hf, ih, List.length_cons]; omega
/-- These tokens lie there, one behind the other. -/
def ArgAt (w : World) (b off : Nat) (l : List Tk) : Prop := ∀ (j : Nat) (h : j < l.length), w.cell? ⟨b, off + j * 4, none⟩ = some (.int .i64 l[j].kind) ∧ w.cell? ⟨b, off + j * 4 + 1, none⟩ = some (.string l[j].text) ∧
  w.cell? ⟨b, off + j * 4 + 2, none⟩ = some (.int .i64 l[j].n) ∧ w.cell? ⟨b, off + j * 4 + 3, none⟩ = some (.int .i64 l[j].pos)
theorem ArgAt.texts {w : World} {b off : Nat} {l : List Tk} (h : ArgAt w b off l) : TextsAt w b off (l.map Tk.text) := by
  intro j hj
  have hj' : j < l.length := by simpa using hj
  obtain ⟨h0, h1, h2, h3⟩ := h j hj'
  exact ⟨_, _, _, h0, by simpa using h1, h2, h3⟩
theorem ArgAt.cell {w : World} {b off : Nat} {l : List Tk} (h : ArgAt w b off l) (j : Nat) (u : Value) (hu : (l.flatMap Tk.cells)[j]? = some u) : w.cell? ((⟨b, off, none⟩ : Addr).add j) = some u := by
  have hlen := flat4_length Tk.cells (fun _ => rfl) l
  have hj : j < l.length * 4 := by
    rw [← hlen]; exact (List.getElem?_eq_some_iff.1 hu).1
  have hq : j / 4 < l.length := by omega
  have hg := flat4_get Tk.cells (fun _ => rfl) l (j / 4) (j % 4) hq (by omega)
  rw [show j / 4 * 4 + j % 4 = j by omega, hu] at hg
  have hadd : (⟨b, off, none⟩ : Addr).add j = ⟨b, off + j, none⟩ := Go.WideShapes.add_plain _ _ _
  rw [hadd]
  obtain ⟨h0, h1, h2, h3⟩ := h (j / 4) hq
  have hm : j % 4 = 0 ∨ j % 4 = 1 ∨ j % 4 = 2 ∨ j % 4 = 3 := by omega
  rcases hm with e | e | e | e
  · rw [e] at hg; rw [show off + j = off + j / 4 * 4 by omega, h0]; exact hg.symm
  · rw [e] at hg; rw [show off + j = off + j / 4 * 4 + 1 by omega, h1]; exact hg.symm
  · rw [e] at hg; rw [show off + j = off + j / 4 * 4 + 2 by omega, h2]; exact hg.symm
  · rw [e] at hg; rw [show off + j = off + j / 4 * 4 + 3 by omega, h3]; exact hg.symm
theorem ArgAt.below {B : Nat} {w w' : World} {b off : Nat} {l : List Tk} (h : ArgAt w b off l) (hb : Below B w w') (hB : b < B) : ArgAt w' b off l := by
  intro j hj
  obtain ⟨h0, h1, h2, h3⟩ := h j hj
  exact ⟨(hb.cell (p := ⟨b, _, none⟩) hB).trans h0, (hb.cell (p := ⟨b, _, none⟩) hB).trans h1, (hb.cell (p := ⟨b, _, none⟩) hB).trans h2, (hb.cell (p := ⟨b, _, none⟩) hB).trans h3⟩
theorem tk_one (l : List Tk) (u : Value) (h : u ∈ l.flatMap Tk.cells) : u.oneCell' = true := by
  obtain ⟨t, _, ht⟩ := List.mem_flatMap.1 h
  simp only [Tk.cells, List.mem_cons, List.not_mem_nil, or_false] at ht
  rcases ht with rfl | rfl | rfl | rfl <;> rfl
/-- Tokens' cells at the head of a block lie as tokens. -/
theorem argAt_of {w : World} {g : Nat} {l : List Tk} (h : ∀ j, j < l.length * 4 → w.cell? ⟨g, j, none⟩ = (l.flatMap Tk.cells)[j]?) : ArgAt w g 0 l := by
  intro j hj
  have hg := fun i hi => flat4_get Tk.cells (fun _ => rfl) l j i hj hi
  refine ⟨?_, ?_, ?_, ?_⟩
  · rw [show 0 + j * 4 = j * 4 + 0 by omega, h _ (by omega), hg 0 (by omega)]; rfl
  · rw [show 0 + j * 4 + 1 = j * 4 + 1 by omega, h _ (by omega), hg 1 (by omega)]; rfl
  · rw [show 0 + j * 4 + 2 = j * 4 + 2 by omega, h _ (by omega), hg 2 (by omega)]; rfl
  · rw [show 0 + j * 4 + 3 = j * 4 + 3 by omega, h _ (by omega), hg 3 (by omega)]; rfl
/-- The texts' lengths, together. -/
def sizes (l : List Tk) : Nat := (l.map fun t => t.text.size).sum
theorem sizes_snoc (l : List Tk) (k : Nat) (h : k < l.length) : sizes (l.take (k + 1)) = sizes (l.take k) + l[k].text.size := by
  unfold sizes
  rw [List.take_succ_eq_append_getElem h, List.map_append, List.sum_append]; simp
theorem sizes_bound (l : List Tk) (k : Nat) (h : ∀ (j : Nat) (hj : j < l.length), j < k → l[j].text.size ≤ 4000) : sizes (l.take k) ≤ 4000 * k := by
  induction k with
  | zero => simp [sizes]
  | succ k ih =>
    have h1 := ih (fun j hj hk => h j hj (by omega))
    by_cases hk : k < l.length
    · rw [sizes_snoc l k hk]
      have h2 := h k hk (by omega)
      omega
    · rw [List.take_of_length_le (by omega)]; rw [List.take_of_length_le (by omega)] at h1; omega
theorem joinB_size (l : List Tk) : (Lx.joinB (l.map Tk.text)).length ≤ sizes l + l.length := by
  cases l with
  | nil => simp [Lx.joinB]
  | cons a r =>
    simp only [List.map_cons, Lx.joinB, List.length_append, sizes, List.sum_cons, List.length_cons]
    have e : a.text.data.toList.length = a.text.size := by simp
    have h2 : ((r.map Tk.text).flatMap (fun y => 32 :: y.data.toList)).length ≤ (r.map fun t => t.text.size).sum + r.length := by
      induction r with
      | nil => simp
      | cons b r ih =>
        simp only [List.map_cons, List.flatMap_cons, List.length_append, List.length_cons, List.sum_cons]
        have e2 : b.text.data.toList.length = b.text.size := by simp
        omega
    omega
theorem wpList_append_wanted {P : Program} {w : World} {ops : Array Oper} {rest : List Oper} {o : Oper} {a : Act} {Q : Exit → Act → World → Prop} (hwt : Region.wanted o (yielded ops a.tmps) = true) (s x : Operand) (t : TypeId)
    (ho : o.op = .call { callee := .builtin .append, args := #[s, x], argTypes := #[t, t] })
    (base : Nat) (e : TypeId) (i : TypeInfo) (z : Value) (size bytes : Nat) (ht : P.underlying t = some (.slice e)) (hi : P.info? e = some i) (hz : i.zero = some z)
    (hsize : i.size = size) (hby : i.bytes = bytes) (hzs : z.cells.size = size) (hsz : 0 < size)
    (v : Value) (n : Nat) (xs : List Value) (hs : a.eval s = v) (hown : w.ownsRow base e size v n xs)
    (ad : Addr) (m c : Nat) (news : List Value) (hx : a.eval x = .slice (some ad) m c) (hl : news.length = m * size) (hnews : ∀ j u, news[j]? = some u → w.cell? (ad.add j) = some u) (h1 : ∀ u ∈ news, u.oneCell' = true)
    (h63 : n + m ≤ maxLen) (hbytes : (n + m) * bytes ≤ 140737488355328) (hbase : base ≤ w.heap.size)
    (h : ∀ v' w', w'.ownsRow base e size v' (n + m) (xs ++ news) → w.grownBy w' v.ownBlock → (v' = .slice none 0 0 ↔ v = .slice none 0 0 ∧ m = 0) → wpList P ops Q rest (a.put o.dst v') w') : wpList P ops Q (o :: rest) a w :=
  wpList_step fun _ hK => by
    rw [if_pos hwt]
    exact wp_append_own w s x t ho base e i z size bytes ht hi hz hsize hby hzs hsz v n xs hs hown ad m c news hx hl hnews h1 h63 hbytes hbase fun v' w' h2 h3 h4 => hK _ _ (h v' w' h2 h3 h4)
theorem owns_shape' {w : World} {B e size n : Nat} {v : Value} {xs : List Value} (h : w.ownsRow B e size v n xs) (hn : ¬ v = .slice none 0 0) : ∃ g cap, v = .slice (some ⟨g, 0, none⟩) n cap ∧ B ≤ g ∧ g < w.heap.size ∧ n ≤ cap ∧ cap ≤ maxLen ∧ ∀ j, j < n * size → w.cell? ⟨g, j, none⟩ = xs[j]? := by
  have h0 := h
  obtain ⟨hl, ⟨rfl, rfl⟩ | ⟨g, cap, cur, rfl, hB, hh, hc, hm, hcs, hx⟩⟩ := h
  · exact absurd rfl hn
  · exact ⟨g, cap, rfl, hB, (Array.getElem?_eq_some_iff.1 hh).1, hc, hm, fun j hj => h0.cellAt j hj⟩
theorem owns_empty (w : World) : (w.alloc (Obj.cells #[] 33)).ownsRow w.heap.size 33 4 (Value.slice (some ⟨w.heap.size, 0, none⟩) 0 0) 0 [] :=
  World.ownsRow_made w #[] 0 (Nat.le_refl _) (by unfold maxLen; omega) rfl
theorem beq_string_self (s : ByteArray) : (s.toList == s.toList) = true := by simp
set_option maxRecDepth 100000 in
set_option maxHeartbeats 1000000 in
theorem lexJoins_walk (l : List Tk) (b off c : Nat) (w : World) (hb : b < w.heap.size) (hE : HasErr w) (hA : ArgAt w b off l) (hlen : l.length ≤ 140737488351232) :
    Calls Tryd.prog 5 #[.slice (some ⟨b, off, none⟩) l.length c] w fun e w' => e = .returned (.bool true) ∧ Below w.heap.size w w' := by
  obtain ⟨i0, hi, hz0, hz1, hz2⟩ := info_parts Tryd.info33
  by_cases h300 : 300 < l.length
  · go_enter Tryd.func5, Tryd.ntmps5
    go_wp2_with (go_at_call 9; refine (live_any _ hE).mono ?_; rintro e w1 ⟨rfl, hb1⟩)
    go_ret
    exact ⟨rfl, hb1⟩
  · go_enter Tryd.func5, Tryd.ntmps5
    go_wp2
    go_loop [3, 4] (fun v i => ∃ k : Nat, k ≤ l.length ∧ i = .int .i64 k ∧ v = .int .i64 (sizes (l.take k) : Nat) ∧ ∀ (j : Nat) (hj : j < l.length), j < k → l[j].text.size ≤ 4000)
      (fun _ i => l.length - (intOf i).toNat)
    case atStart => exact ⟨0, by omega, rfl, rfl, fun j hj h => by omega⟩
    case round =>
      obtain ⟨k, hk, rfl, rfl, hall⟩ := hrel
      have hsb := sizes_bound l k hall
      have HA := hid hall
      clear hall
      by_cases hlt : k < l.length
      · obtain ⟨c0, c1, c2, c3⟩ := hA k hlt
        by_cases hbig : 4000 < l[k].text.size
        · go_wp2_with (go_at_call 9; refine (live_any _ hE).mono ?_; rintro e w1 ⟨rfl, hb1⟩)
          go_ret
          exact ⟨rfl, hb1⟩
        · have HS := hid (sizes_snoc l k hlt)
          go_wp2
          go_round
          case rel =>
            refine ⟨k + 1, by omega, by go_num, by rw [HS.out]; go_num, fun j hj h => ?_⟩
            by_cases hjk : j < k
            · exact HA.out j hj hjk
            · obtain rfl : j = k := by omega
              omega
          case measure => simp [intOf]; omega
      · have hk1 : k = l.length := by omega
        rw [show l.take k = l by rw [hk1]; simp] at hsb ⊢
        have hk2 : l.length ≤ k := by omega
        have hsb2 : sizes l ≤ 1200000 := by omega
        clear hk1 hsb
        by_cases hbig : 4000 < sizes l
        · go_wp2_with (go_at_call 9; refine (live_any _ hE).mono ?_; rintro e w1 ⟨rfl, hb1⟩)
          go_ret
          exact ⟨rfl, hb1⟩
        · go_wp2_with (at_builtin; refine wpList_append_wanted ?e1 _ _ 23 rfl w.heap.size 33 i0 (.agg #[.int .i64 0, .string ⟨#[]⟩, .int .i64 0, .int .i64 0]) 4 40 Tryd.underlying23 hi hz0 hz1 hz2 rfl (by decide) _ 0 [] rfl ?e2 ⟨b, off, none⟩ l.length c (l.flatMap Tk.cells) rfl (flat4_length _ (fun _ => rfl) l) ?e3 (tk_one l) ?e4 ?e5 ?e6 ?e7)
          case e2 => exact owns_empty w
          case e3 => exact fun j u hu => by rw [← Go.WideShapes.add_plain]; exact hA.cell j u hu
          case e4 => unfold maxLen; omega
          case e5 => omega
          case e7 =>
            intro v' w2 hown' hgrow hnn
            obtain ⟨g, cap, rfl, hB, hg, hcap, hmx, hcell⟩ := owns_shape' hown' hnn
            have hA2 := argAt_of hcell
            have hbw : Below w.heap.size w w2 := ((Below.refl _ w).alloc (Nat.le_refl _) _).grown hgrow (by simp) (fun k hk => by simp [Value.ownBlock] at hk; omega)
            have hjs := joinB_size l
            have hJ := join_any (l.map Tk.text) g 0 cap w2 hg (by simp; omega) hA2.texts (by omega)
            rw [List.length_map] at hJ
            have hR := fun (w3 : World) (h3 : Below w.heap.size w w3) => refJoin_any (l.map Tk.text) b off c w3 (by simp; omega) (hA.below h3 hb).texts (by omega)
            simp only [List.length_map] at hR
            have HJ := hid hJ
            have HR := hid hR
            have HB := hid hbw
            have hsw := hbw.size
            clear hJ hR hcell hown' hgrow hnn hA2
            go_wp2_with (first
              | (go_at_call 18; refine HJ.out.mono ?_; rintro e w3 ⟨rfl, hb3⟩)
              | (go_at_call 19; refine (HR.out _ (by exact HB.out.trans (hb3.mono hsw))).mono ?_; rintro e w' ⟨rfl, hw'⟩; have hw2 := hw'.symm; subst hw2)
              | (go_at_call 9; refine (live_any _ (by exact hE.after (HB.out.trans (hb3.mono hsw)))).mono ?_; rintro e w4 ⟨rfl, hb4⟩))
            go_ret
            have hs3 := hb3.size
            exact ⟨rfl, (HB.out.trans (hb3.mono hsw)).trans (hb4.mono (by omega))⟩
theorem refJoin_empty (ao : Option Addr) (c : Nat) (w : World) :
    Calls Tryd.prog 19 #[.slice ao 0 c] w fun e w' => e = .returned (.string ⟨#[]⟩) ∧ w' = w := by
  go_enter Tryd.func19, Tryd.ntmps19
  go_wp2
  refine wp_loop_rounds 1 ?_
  rw [rounds_succ]
  go_wp2
  go_ret
  exact ⟨rfl, rfl⟩
theorem wpList_append_wanted_none {P : Program} {w : World} {ops : Array Oper} {rest : List Oper} {o : Oper} {a : Act} {Q : Exit → Act → World → Prop} (hwt : Region.wanted o (yielded ops a.tmps) = true) (s x : Operand) (t : TypeId)
    (ho : o.op = .call { callee := .builtin .append, args := #[s, x], argTypes := #[t, t] })
    (base : Nat) (e : TypeId) (i : TypeInfo) (size : Nat) (ht : P.underlying t = some (.slice e)) (hi : P.info? e = some i)
    (v : Value) (n : Nat) (xs : List Value) (hs : a.eval s = v) (hown : w.ownsRow base e size v n xs) (hx : a.eval x = .slice none 0 0)
    (h : wpList P ops Q rest (a.put o.dst v) w) : wpList P ops Q (o :: rest) a w := by
  refine wpList_step fun K hK => ?_
  rw [if_pos hwt]
  have hrun := run_append_owned_none (P := P) (w := w) base t o.type e i size ht hi v n xs hown
  unfold Oper.wp
  simp [execOp, ho, resolve, invoke, builtin, hs, hx, hrun, Result.andThen]
  exact hK _ _ h
theorem emptyEnd (w w2 : World) (hE : HasErr w) (hbw : Below w.heap.size w w2) (g cap : Nat) (hg : g < w2.heap.size) :
    Calls Tryd.prog 18 #[.slice (some ⟨g, 0, none⟩) 0 cap] w2 fun e w' => e = .returned (.string ⟨#[]⟩) ∧ HasErr w' ∧ Below w.heap.size w w' := by
  refine (join_any [] g 0 cap w2 hg (by simp) (fun j hj => by simp at hj) (by simp [Lx.joinB])).mono ?_
  rintro e w' ⟨rfl, hb⟩
  exact ⟨rfl, (hE.after hbw).after hb, hbw.trans (hb.mono hbw.size)⟩
set_option maxRecDepth 100000 in
set_option maxHeartbeats 1000000 in
theorem lexJoins_nil (w : World) (hE : HasErr w) :
    Calls Tryd.prog 5 #[.slice none 0 0] w fun e w' => e = .returned (.bool true) ∧ Below w.heap.size w w' := by
  obtain ⟨i0, hi, hz0, hz1, hz2⟩ := info_parts Tryd.info33
  go_enter Tryd.func5, Tryd.ntmps5
  go_wp2
  refine wp_loop_rounds 1 ?_
  rw [rounds_succ]
  go_wp2_with (first
    | (at_builtin; refine wpList_append_wanted_none ?e1 _ _ 23 rfl w.heap.size 33 i0 4 Tryd.underlying23 hi _ 0 [] rfl ?e2 rfl ?e7)
    | (go_at_call 18; refine (emptyEnd w _ hE ((Below.refl _ w).alloc (Nat.le_refl _) _) w.heap.size 0 (by simp)).mono ?_; rintro e w3 ⟨rfl, hE3, hb3⟩)
    | (go_at_call 19; refine (refJoin_empty _ _ _).mono ?_; rintro e w' ⟨rfl, hw'⟩; have hw2 := hw'.symm; subst hw2)
    | (go_at_call 9; refine (live_any _ hE3).mono ?_; rintro e w4 ⟨rfl, hb4⟩))
  case e2 => exact owns_empty w
  go_ret
  exact ⟨rfl, hb3.trans (hb4.mono hb3.size)⟩
set_option maxRecDepth 100000 in
set_option maxHeartbeats 1000000 in
theorem lexJoins_bare (ad : Addr) (c : Nat) (w : World) (hE : HasErr w) :
    Calls Tryd.prog 5 #[.slice (some ad) 0 c] w fun e w' => e = .returned (.bool true) ∧ Below w.heap.size w w' := by
  obtain ⟨i0, hi, hz0, hz1, hz2⟩ := info_parts Tryd.info33
  go_enter Tryd.func5, Tryd.ntmps5
  go_wp2
  refine wp_loop_rounds 1 ?_
  rw [rounds_succ]
  go_wp2_with (at_builtin; refine wpList_append_wanted ?e1 _ _ 23 rfl w.heap.size 33 i0 (.agg #[.int .i64 0, .string ⟨#[]⟩, .int .i64 0, .int .i64 0]) 4 40 Tryd.underlying23 hi hz0 hz1 hz2 rfl (by decide) _ 0 [] rfl ?e2 ad 0 c [] rfl rfl ?e3 (fun u hu => by simp at hu) ?e4 ?e5 ?e6 ?e7)
  case e2 => exact owns_empty w
  case e3 => intro j u hu; simp at hu
  case e4 => unfold maxLen; omega
  case e5 => omega
  case e6 => simp
  case e7 =>
    intro v' w2 hown' hgrow hnn
    obtain ⟨g, cap, rfl, hB, hg, hcap, hmx, hcell⟩ := owns_shape' hown' hnn
    have hbw : Below w.heap.size w w2 := ((Below.refl _ w).alloc (Nat.le_refl _) _).grown hgrow (by simp) (fun k hk => by simp [Value.ownBlock] at hk; omega)
    clear hcell hown' hgrow hnn
    go_wp2_with (first
      | (go_at_call 18; refine (emptyEnd w _ hE hbw g cap hg).mono ?_; rintro e w3 ⟨rfl, hE3, hb3⟩)
      | (go_at_call 19; refine (refJoin_empty _ _ _).mono ?_; rintro e w' ⟨rfl, hw'⟩; have hw2 := hw'.symm; subst hw2)
      | (go_at_call 9; refine (live_any _ hE3).mono ?_; rintro e w4 ⟨rfl, hb4⟩))
    go_ret
    exact ⟨rfl, hb3.trans (hb4.mono hb3.size)⟩
end Go.Proofs.YtpebddinnnmdaaaDoor
