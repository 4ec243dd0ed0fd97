/-
  Rows of rows of numbers; copies of a row (slices.Clone); rows that are made with a length.
-/
import Derived.Test.YthdkgfmlihgceaaHdH
import Derived.Laws.MakeOwn
namespace Go.Proofs.Ythdkgfmlihgceaa
open Go.RowKit
/-- A row of numbers, and where it lies. -/
structure Rw where
  ad : Option Addr
  cap : Nat
  l : List Int
def Rw.val (r : Rw) : Value := .slice r.ad r.l.length r.cap
def Rw.cells (r : Rw) : List Value := [r.val]
/-- A slice of rows lies below n, with all its rows. -/
def RwsAt (n : Nat) (W : World) (ad : Option Addr) (cap : Nat) (rs : List Rw) : Prop := SlAt 1 Rw.cells n W ad cap rs ∧ ∀ r ∈ rs, SlAt 1 icell n W r.ad r.cap r.l
theorem RwsAt.below {n : Nat} {W W' : World} {ad : Option Addr} {cap : Nat} {rs : List Rw} (h : RwsAt n W ad cap rs) (hb : Below n W W') : RwsAt n W' ad cap rs := ⟨h.1.below hb, fun r hr => (h.2 r hr).below hb⟩
theorem RwsAt.mono {n m : Nat} {W : World} {ad : Option Addr} {cap : Nat} {rs : List Rw} (h : RwsAt n W ad cap rs) (hn : n ≤ m) : RwsAt m W ad cap rs := ⟨h.1.mono hn, fun r hr => (h.2 r hr).mono hn⟩
theorem setBox {w : World} {k i : Nat} {c : Array Value} {T : TypeId} (h : w.heap[k]? = some (.cells c T (0, 0))) (v : Value) : (w.setCell ⟨k, i, none⟩ v).heap[k]? = some (.cells (c.setIfInBounds i v) T (0, 0)) := by
  simp [World.setCell, Array.getElem?_modify, h]
theorem info32 : (Try.prog.info? 32).map (fun i => (i.zero, i.size, i.bytes)) = some (some (.slice none 0 0), 1, 24) := by kernel_rfl
theorem info4 : (Try.prog.info? 4).map (fun i => (i.zero, i.size, i.bytes)) = some (some (.bool false), 1, 1) := by kernel_rfl
theorem made_one (z : Value) (n : Nat) : madeCells #[z] n = Array.replicate n z := by
  apply Array.ext'
  simp [madeCells, List.range_eq_range', Nat.mod_one]
  apply List.ext_getElem?
  intro i
  by_cases h : i < n <;> simp [h]
/-- make([]T, n), of one cell each. -/
theorem make_run {T e : TypeId} {z : Value} {b : Nat} (hT : Try.prog.underlying T = some (.slice e)) (he : (Try.prog.info? e).map (fun i => (i.zero, i.size, i.bytes)) = some (some z, 1, b)) (hz : z.cells = #[z]) (n : Nat) (hn : b * n ≤ 281474976710656) (hn2 : n ≤ 9223372036854775807) (W : World) :
    (Instr.makeSlice T (.int .i64 (n : Int)) (.int .i64 (n : Int))).run Try.prog W = .ok (.slice (some ⟨W.heap.size, 0, none⟩) n n) (W.alloc (.cells (Array.replicate n z) e)) := by
  obtain ⟨i0, hi, hz0, hz1, hz2⟩ := info_of he
  have h := run_make W T e i0 _ hT hi hz0 .i64 .i64 n n (by omega) (by omega) (by rw [hz2]; omega) (by omega)
  rw [hz1, hz, Nat.mul_one] at h
  rw [← made_one]
  exact h
/-- What an append of numbers to an empty row that is owned leaves. -/
theorem run_append_ints (w : World) (base : Nat) (ty : TypeId) (v : Value) (hown : w.ownsRow base 3 1 v 0 []) (hv : v ≠ .slice none 0 0) (n : Nat) (ad : Option Addr) (c : Nat) (r : List Int) (hsl : SlAt 1 icell n w ad c r) (hn : r.length ≤ 1000000) (hbase : base ≤ w.heap.size) :
    ∃ v' w', (Builtin.append_ #[32, 32] ty #[v, .slice ad r.length c]).run Try.prog w = .ok v' w' ∧ w'.ownsRow base 3 1 v' r.length (ints r) ∧ w.grownBy w' v.ownBlock := by
  obtain ⟨i, hi, iz0, iz1, iz2⟩ := info_of info3
  rcases ad with _ | a
  · rcases hsl.2.2 with rfl | ⟨b, off, h, _⟩
    · refine ⟨v, w, ?_, hown, World.grownBy.refl _ _⟩
      obtain ⟨hl, ⟨rfl, _⟩ | ⟨g, cap, cur, rfl, hB, hh, hc, hm, hcs, hx⟩⟩ := hown
      · exact absurd rfl hv
      · exact run_append_room_src (P := Try.prog) w 32 32 ty 3 i Try.underlying32 hi g 0 0 cap (.slice none 0 c) 0 [] (Src.ofNil w Try.underlying32 c) (by omega) (fun j hj => by simp at hj) (fun j hj => by simp at hj)
    · cases h
  · obtain ⟨v', w', hr, h2, h3, _⟩ := run_append_own (P := Try.prog) w base 32 ty 3 i (.int .i64 0) 1 8 Try.underlying32 hi iz0 iz1 iz2 rfl (by decide) v 0 [] hown a r.length c (ints r) (by simp [ints])
      (fun j u hj => by
        rcases hsl.2.2 with rfl | ⟨b, off, h, _, hrow⟩
        · simp [ints] at hj
        · cases h
          have hlt : j < r.length := by have := (List.getElem?_eq_some_iff.1 hj).1; simpa [ints] using this
          have e : u = .int .i64 r[j] := by
            rw [ints, List.getElem?_map, List.getElem?_eq_getElem hlt] at hj
            exact (Option.some.inj hj).symm
          rw [Addr.add_lit, e]
          have := hrow j hlt 0 (by omega)
          rw [Nat.mul_one] at this
          exact this)
      (fun u hu => by obtain ⟨x, _, rfl⟩ := List.mem_map.1 hu; rfl) (by unfold maxLen; omega) (by omega) hbase
    refine ⟨v', w', hr, ?_, h3⟩
    rwa [Nat.zero_add, List.nil_append] at h2
theorem wpList_append_ints {w : World} {ops : Array Go.Oper} {rest : List Go.Oper} {o : Go.Oper} {a : Act} {Q : Exit → Act → World → Prop} (hgd : Region.wanted o (yielded ops a.tmps) = true) (s x : Operand)
    (ho : o.op = .call { callee := .builtin .append, args := #[s, x], argTypes := #[32, 32] }) (base : Nat) (v : Value) (hs : a.eval s = v) (hown : w.ownsRow base 3 1 v 0 []) (hv : v ≠ .slice none 0 0) (n : Nat) (ad : Option Addr) (c : Nat) (r : List Int)
    (hx : a.eval x = .slice ad r.length c) (hsl : SlAt 1 icell n w ad c r) (hn : r.length ≤ 1000000) (hbase : base ≤ w.heap.size)
    (h : ∀ v' w', w'.ownsRow base 3 1 v' r.length (ints r) → w.grownBy w' v.ownBlock → wpList Try.prog ops Q rest (a.put o.dst v') w') : wpList Try.prog ops Q (o :: rest) a w := by
  obtain ⟨v', w', hr, h2, h3⟩ := run_append_ints w base o.type v hown hv n ad c r hsl hn hbase
  refine wpList_step fun K hK => ?_
  rw [if_pos hgd]
  unfold Go.Oper.wp execOp
  simp only [ho, resolve, invoke, builtin, Sem.run_bind, Sem.run_pure, Result.andThen_ok, List.map_toArray, List.map_cons, List.map_nil, hs, hx, hr]
  exact hK _ _ (h v' w' h2 h3)
theorem slice_ne {a : Addr} {n c : Nat} : Value.slice (some a) n c ≠ .slice none 0 0 := fun h => by cases h
theorem grown_made {w w1 : World} (B0 : Below w.heap.size w (w.alloc (.cells #[] 3))) (hg : (w.alloc (.cells #[] 3)).grownBy w1 (Value.ownBlock (.slice (some ⟨w.heap.size, 0, none⟩) 0 0))) : Below w.heap.size w w1 :=
  B0.grown hg B0.size (fun k hk => by cases hk; exact Nat.le_refl _)
theorem someSl (a : Addr) (n c : Nat) (W : World) : (binOp .eql 32 (.slice (some a) n c) (.slice none 0 0)).run Try.prog W = .ok (.bool false) W := by kernel_rfl
/-- Numbers that a row of its own holds, and from where on it lies. -/
theorem sl_own2 {w : World} {base : Nat} {v : Value} {r : List Int} (h : w.ownsRow base 3 1 v r.length (ints r)) : ∃ ad cp, v = .slice ad r.length cp ∧ SlAt 1 icell w.heap.size w ad cp r ∧ ∀ a, ad = some a → base ≤ a.block := by
  obtain ⟨ad, cp, rfl, hs⟩ := sl_own h
  exact ⟨ad, cp, rfl, hs, fun a e => by subst e; exact (h.lt a.block rfl).1⟩
theorem SlAt.set {α : Type} {size : Nat} {cells : α → List Value} {n₀ : Nat} {W : World} {ad : Option Addr} {cap : Nat} {l : List α} (h : SlAt size cells n₀ W ad cap l) {R i : Nat} (hne : ∀ a, ad = some a → a.block ≠ R) (v : Value) : SlAt size cells n₀ (W.setCell ⟨R, i, none⟩ v) ad cap l := by
  obtain ⟨h1, h2, h3⟩ := h
  refine ⟨h1, h2, ?_⟩
  rcases h3 with h3 | ⟨b, off, h4, h5, h6⟩
  · exact .inl h3
  · refine .inr ⟨b, off, h4, h5, fun j hj q hq => ?_⟩
    have hb : b ≠ R := hne _ h4
    have e := Below.heap_setCell W ⟨R, i, none⟩ v b hb
    have := h6 j hj q hq
    rw [← this]
    simp only [World.cell?, e]
theorem SlAt.grown {α : Type} {size : Nat} {cells : α → List Value} {n₀ : Nat} {W W' : World} {ad : Option Addr} {cap : Nat} {l : List α} (h : SlAt size cells n₀ W ad cap l) (hn : n₀ ≤ W.heap.size) {r : Nat} (hg : W.grownBy W' (some r)) (hne : ∀ a, ad = some a → a.block ≠ r) : SlAt size cells n₀ W' ad cap l := by
  obtain ⟨h1, h2, h3⟩ := h
  refine ⟨h1, h2, ?_⟩
  rcases h3 with h3 | ⟨b, off, h4, h5, h6⟩
  · exact .inl h3
  · refine .inr ⟨b, off, h4, h5, fun j hj q hq => ?_⟩
    have hb : b ≠ r := hne _ h4
    have e := hg.block b (by omega) (fun e => hb (by injection e))
    have := h6 j hj q hq
    rw [← this]
    simp only [World.cell?, e]
def IntBack (l : List Int) (w w' : World) (r : Ending) : Prop := ∃ ad cp, r = .returned (.slice ad l.length cp) ∧ SlAt 1 icell w'.heap.size w' ad cp l ∧ (∀ a, ad = some a → w.heap.size ≤ a.block) ∧ Below w.heap.size w w'
set_option maxRecDepth 100000 in
set_option maxHeartbeats 2000000 in
theorem clone_any (l : List Int) (a : Addr) (cap n₀ : Nat) (w : World) (hn : n₀ ≤ w.heap.size) (hsl : SlAt 1 icell n₀ w (some a) cap l) (hl : l.length ≤ 1000000) :
    Calls Try.prog 21 #[.slice (some a) l.length cap] w fun r w' => IntBack l w w' r := by
  have hown0 := World.ownsRow_made (base := w.heap.size) (e := 3) (size := 1) w #[] 0 (Nat.le_refl _) (by unfold maxLen; omega) rfl
  have B0 : Below w.heap.size w (w.alloc (.cells #[] 3)) := (Below.refl _ w).al le_rfl' _
  have hS0 := hsl.below (B0.mono hn)
  have hsome := someSl
  go_enter Try.func21, Try.ntmps21
  go_wp2_with (at_builtin; refine wpList_append_ints (by rfl) _ _ rfl w.heap.size _ rfl hown0 slice_ne n₀ (some a) cap l rfl hS0 hl B0.size ?_; intro v1 w1 hown1 hg1; have B1 : Below w.heap.size w w1 := grown_made B0 hg1; obtain ⟨ad1, cp1, rfl, hS1, hA1⟩ := sl_own2 hown1)
  go_ret
  exact ⟨ad1, cp1, rfl, hS1, hA1, B1⟩
end Go.Proofs.Ythdkgfmlihgceaa
