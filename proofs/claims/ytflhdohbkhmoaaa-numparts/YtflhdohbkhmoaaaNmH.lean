/-
  NumParts' walk: Div and Gcd, the numbers copied by an append.
-/
import Derived.Test.YtflhdohbkhmoaaaNmG
import Derived.OwnWalk
import Derived.Deep.AppendSrc
namespace Go.Proofs.Ytflhdohbkhmoaaa
open Go.ChangeShapes Go.WideShapes Go.ChangeAt Go.RowKit
theorem info2 : (Try.prog.info? 2).map (fun i => (i.zero, i.size, i.bytes)) = some (some (.int .i64 0), 1, 8) := by kernel_rfl
theorem info_of {P : Program} {e : TypeId} {z : Option Value} {s b : Nat} (h : (P.info? e).map (fun i => (i.zero, i.size, i.bytes)) = some (z, s, b)) : ∃ i, P.info? e = some i ∧ i.zero = z ∧ i.size = s ∧ i.bytes = b := by
  cases hi : P.info? e with
  | none => rw [hi] at h; cases h
  | some i =>
    rw [hi] at h
    simp only [Option.map_some, Option.some.injEq, Prod.mk.injEq] at h
    exact ⟨i, rfl, h.1, h.2.1, h.2.2⟩
def ints (l : List Int) : List Value := l.map (Value.int .i64 ·)
/-- What an append of numbers to an empty row that is owned leaves. -/
theorem run_append_ints (w : World) (base : Nat) (ty : TypeId) (v : Value) (hown : w.ownsRow base 2 1 v 0 []) (hv : v ≠ .slice none 0 0) (ad : Option Addr) (c : Nat) (r : List Int) (hsl : Sl w ad r) (hn : r.length ≤ 100) (hbase : base ≤ w.heap.size) :
    ∃ v' w', (Builtin.append_ #[30, 30] ty #[v, .slice ad r.length c]).run Try.prog w = .ok v' w' ∧ w'.ownsRow base 2 1 v' r.length (ints r) ∧ w.grownBy w' v.ownBlock := by
  obtain ⟨i, hi, iz0, iz1, iz2⟩ := info_of info2
  rcases ad with _ | a
  · rcases hsl with rfl | ⟨b, off, h, _⟩
    · refine ⟨v, w, ?_, hown, World.grownBy.refl _ _⟩
      obtain ⟨hl, ⟨rfl, _⟩ | ⟨g, cap, cur, rfl, hB, hh, hc, hm, hcs, hx⟩⟩ := hown
      · exact absurd rfl hv
      · exact run_append_room_src (P := Try.prog) w 30 30 ty 2 i Try.underlying30 hi g 0 0 cap (.slice none 0 c) 0 [] (Src.ofNil w Try.underlying30 c) (by omega) (fun j hj => by simp at hj) (fun j hj => by simp at hj)
    · cases h
  · obtain ⟨v', w', hr, h2, h3, _⟩ := run_append_own (P := Try.prog) w base 30 ty 2 i (.int .i64 0) 1 8 Try.underlying30 hi iz0 iz1 iz2 rfl (by decide) v 0 [] hown a r.length c (ints r) (by simp [ints])
      (fun j u hj => by
        rcases hsl with rfl | ⟨b, off, h, hrow⟩
        · simp [ints] at hj
        · cases h
          have hlt : j < r.length := by have := (List.getElem?_eq_some_iff.1 hj).1; simpa [ints] using this
          have e : u = .int .i64 r[j] := by
            rw [ints, List.getElem?_map, List.getElem?_eq_getElem hlt] at hj
            exact (Option.some.inj hj).symm
          rw [Addr.add_lit, e]
          exact hrow j hlt)
      (fun u hu => by obtain ⟨x, _, rfl⟩ := List.mem_map.1 hu; rfl) (by unfold maxLen; omega) (by omega) hbase
    refine ⟨v', w', hr, ?_, h3⟩
    rwa [Nat.zero_add, List.nil_append] at h2
theorem wpList_append_ints {w : World} {ops : Array Go.Oper} {rest : List Go.Oper} {o : Go.Oper} {a : Act} {Q : Exit → Act → World → Prop} (hgd : Region.wanted o (yielded ops a.tmps) = true) (s x : Operand)
    (ho : o.op = .call { callee := .builtin .append, args := #[s, x], argTypes := #[30, 30] }) (base : Nat) (v : Value) (hs : a.eval s = v) (hown : w.ownsRow base 2 1 v 0 []) (hv : v ≠ .slice none 0 0) (ad : Option Addr) (c : Nat) (r : List Int)
    (hx : a.eval x = .slice ad r.length c) (hsl : Sl w ad r) (hn : r.length ≤ 100) (hbase : base ≤ w.heap.size)
    (h : ∀ v' w', w'.ownsRow base 2 1 v' r.length (ints r) → w.grownBy w' v.ownBlock → wpList Try.prog ops Q rest (a.put o.dst v') w') : wpList Try.prog ops Q (o :: rest) a w := by
  obtain ⟨v', w', hr, h2, h3⟩ := run_append_ints w base o.type v hown hv ad c r hsl hn hbase
  refine wpList_step fun K hK => ?_
  rw [if_pos hgd]
  unfold Go.Oper.wp execOp
  simp only [ho, resolve, invoke, builtin, Sem.run_bind, Sem.run_pure, Result.andThen_ok, List.map_toArray, List.map_cons, List.map_nil, hs, hx, hr]
  exact hK _ _ (h v' w' h2 h3)
theorem sl_own {w : World} {base : Nat} {v : Value} {r : List Int} (h : w.ownsRow base 2 1 v r.length (ints r)) : ∃ ad cp, v = .slice ad r.length cp ∧ Sl w ad r := by
  have h0 := h
  obtain ⟨hl, ⟨rfl, hn⟩ | ⟨g, cap, cur, rfl, hB, hh, hc, hm, hcs, hx⟩⟩ := h
  · have : r = [] := List.eq_nil_of_length_eq_zero hn
    subst this
    exact ⟨none, 0, rfl, .inl rfl⟩
  · refine ⟨_, cap, rfl, .inr ⟨g, 0, rfl, fun j hj => ?_⟩⟩
    have := h0.cells (g := g) rfl j (.int .i64 r[j]) (by rw [ints, List.getElem?_map, List.getElem?_eq_getElem hj]; rfl)
    rwa [Addr.add_lit] at this
theorem Sl.below {w w' : World} {ad : Option Addr} {r : List Int} (h : Sl w ad r) (hb : Below w.heap.size w w') : Sl w' ad r := by
  rcases h with h | ⟨b, off, rfl, hrow⟩
  · exact .inl h
  · refine .inr ⟨b, off, rfl, fun j hj => ?_⟩
    have h1 := hrow j hj
    have hlt : b < w.heap.size := by
      apply Decidable.byContradiction
      intro hge
      have : w.heap[b]? = none := Array.getElem?_eq_none (by omega)
      simp [World.cell?, this] at h1
    rw [hb.cell (p := ⟨b, off + j, none⟩) hlt]
    exact h1
theorem slice_ne {a : Addr} {n c : Nat} : Value.slice (some a) n c ≠ .slice none 0 0 := fun h => by cases h
theorem grown_made {w w1 : World} (B0 : Below w.heap.size w (w.alloc (.cells #[] 2))) (hg : (w.alloc (.cells #[] 2)).grownBy w1 (Value.ownBlock (.slice (some ⟨w.heap.size, 0, none⟩) 0 0))) : Below w.heap.size w w1 :=
  B0.grown hg B0.size (fun k hk => by cases hk; exact Nat.le_refl _)
set_option maxRecDepth 100000 in
set_option maxHeartbeats 4000000 in
theorem walkP (a b : Int) (l : List Int) (ad : Option Addr) (cap : Nat) (w : World) (ha : InR a) (hr : ∀ x ∈ l, InR x) (hs : Sl w ad l) :
    Calls Try.prog 6 #[.int .i64 a, .int .i64 b, .slice ad l.length cap] w fun r w' => r = .returned (.bool true) ∧ Below w.heap.size w w' := by
  have hD := fun w => div_any (a := a) (b := b) ha w
  have hE := fun w => divR_any (a := a) (b := b) ha w
  generalize divF a b = dv at *
  by_cases hbig : 100 < l.length
  · have hd : decide ((100 : Int) < (l.length : Int)) = true := by simp; omega
    clear hr hs ha
    go_enter Try.func6, Try.ntmps6
    go_wp2_with (go_at_call 15; refine (live_gx _).mono ?_; rintro r u3 ⟨rfl, bb⟩)
    go_ret
    exact ⟨rfl, bb.1⟩
  · have hd : decide ((100 : Int) < (l.length : Int)) = false := by simp; omega
    have h100 : l.length ≤ 100 := by omega
    have hn : l.length ≤ 140737488355328 := by omega
    have hG := fun W ad cp hS => gcd_any l ad cp W hn hr hS
    have hH := fun W hB => gcdR_any l ad cap W hn hr (hs.below hB)
    have hown0 := World.ownsRow_made (base := w.heap.size) (e := 2) (size := 1) w #[] 0 (Nat.le_refl _) (by unfold maxLen; omega) rfl
    have B0 : Below w.heap.size w (w.alloc (.cells #[] 2)) := (Below.refl _ w).alloc (Nat.le_refl _) _
    have hS0 := hs.below B0
    generalize gcdL l = gv at *
    clear hr hn ha hbig
    go_enter Try.func6, Try.ntmps6
    go_wp2_with (first
      | (go_at_call 20; refine (hD _).mono ?_; rintro r u1 ⟨rfl, hu1⟩; have hu2 := hu1.symm; subst hu2)
      | (go_at_call 21; refine (hE _).mono ?_; rintro r u2 ⟨rfl, hu1⟩; have hu2 := hu1.symm; subst hu2)
      | (at_builtin; refine wpList_append_ints (by rfl) _ _ rfl w.heap.size _ rfl hown0 slice_ne ad cap l rfl hS0 h100 B0.size ?_; intro v1 w1 hown1 hg1; have B1 : Below w.heap.size w w1 := grown_made B0 hg1; obtain ⟨ad1, cp1, rfl, hS1⟩ := sl_own hown1)
      | (go_at_call 22; refine (hG _ _ _ hS1).mono ?_; rintro r w2 ⟨rfl, n2, rfl⟩; have B2 : Below w.heap.size w (w1.drewN n2) := B1.trans ⟨rfl, rfl, rfl, Nat.le_refl _, fun _ _ => rfl⟩)
      | (go_at_call 23; refine (hH _ B2).mono ?_; rintro r w3 ⟨rfl, n3, rfl⟩; have B3 : Below w.heap.size w ((w1.drewN n2).drewN n3) := B2.trans ⟨rfl, rfl, rfl, Nat.le_refl _, fun _ _ => rfl⟩)
      | (go_at_call 15; refine (live_gx _).mono ?_; rintro r u3 ⟨rfl, bb⟩))
    go_ret
    refine ⟨rfl, ?_⟩
    simp only [World.drewN_drewN] at B3
    exact B3.trans (bb.1.mono B3.size)
end Go.Proofs.Ytflhdohbkhmoaaa
