/-
  Appends of whole slices, whatever they lie in: what is owned behind them.
-/
import Derived.Test.YtopiceoofdlkbaaDoorNxK
import Derived.OwnWalk
import Derived.Deep.AppendSrc
namespace Go.Proofs.YtopiceoofdlkbaaDoor
open Go.RowKit
theorem flatGet {α : Type} (size : Nat) (cells : α → List Value) (hlen : ∀ x, (cells x).length = size) (i : Nat) (hi : i < size) : ∀ (l : List α) (j : Nat) (hj : j < l.length), (l.flatMap cells)[j * size + i]? = (cells l[j])[i]? := by
  intro l
  induction l with
  | nil => intro j hj; simp at hj
  | cons a l ih =>
    intro j hj
    rw [List.flatMap_cons]
    cases j with
    | zero => rw [List.getElem?_append_left (by rw [hlen]; omega)]; simp
    | succ j => rw [List.getElem?_append_right (by rw [hlen, Nat.add_mul]; omega), hlen, show (j + 1) * size + i - size = j * size + i by rw [Nat.add_mul]; omega, ih j (by simpa using hj)]; simp
theorem flatLen {α : Type} (size : Nat) (cells : α → List Value) (hlen : ∀ x, (cells x).length = size) (l : List α) : (l.flatMap cells).length = l.length * size := by
  induction l with
  | nil => simp
  | cons a l ih => rw [List.flatMap_cons, List.length_append, hlen, ih, List.length_cons, Nat.add_mul]; omega
theorem rowFlat {α : Type} {size : Nat} {cells : α → List Value} (hlen : ∀ x, (cells x).length = size) (hs : 0 < size) {W : World} {b off : Nat} {l : List α} (h : RowAt size cells W b off l) : ∀ j u, (l.flatMap cells)[j]? = some u → W.cell? ((⟨b, off, none⟩ : Addr).add j) = some u := by
  intro j u hj
  have hlt := (List.getElem?_eq_some_iff.1 hj).1
  rw [flatLen size cells hlen] at hlt
  have h1 : j / size < l.length := Nat.div_lt_of_lt_mul (by rw [Nat.mul_comm]; exact hlt)
  have h2 : j % size < size := Nat.mod_lt _ hs
  have h3 : j / size * size + j % size = j := by rw [Nat.mul_comm]; exact Nat.div_add_mod j size
  have h4 := h (j / size) h1 (j % size) h2
  rw [← flatGet size cells hlen (j % size) h2 l (j / size) h1, h3, hj] at h4
  have h5 : off + j / size * size + j % size = off + j := by omega
  rw [h5] at h4
  rw [Addr.add_lit]
  exact h4
/-- A row that is owned is a slice of what it holds. -/
theorem slOwn {α : Type} {size : Nat} {cells : α → List Value} (hlen : ∀ x, (cells x).length = size) {base : Nat} {T : TypeId} {v : Value} {l : List α} {w : World} (h : w.ownsRow base T size v l.length (l.flatMap cells)) :
    ∃ ad cp, v = .slice ad l.length cp ∧ SlAt size cells w.heap.size w ad cp l := by
  have h0 := h
  obtain ⟨hl, ⟨rfl, hn⟩ | ⟨g, cap, cur, rfl, hB, hh, hc, hm, hcs, hx⟩⟩ := h
  · have : l = [] := List.eq_nil_of_length_eq_zero hn
    subst this
    exact ⟨none, 0, rfl, Nat.le_refl _, by unfold maxLen; omega, .inl rfl⟩
  · refine ⟨some ⟨g, 0, none⟩, cap, rfl, hc, hm, .inr ⟨g, 0, rfl, (Array.getElem?_eq_some_iff.1 hh).1, fun j hj i hi => ?_⟩⟩
    have hlt : j * size + i < l.length * size := by
      have h1 : (j + 1) * size ≤ l.length * size := Nat.mul_le_mul_right size hj
      rw [Nat.add_mul] at h1; omega
    rw [Nat.zero_add, ← flatGet size cells hlen i hi l j hj]
    have h2 : (l.flatMap cells)[j * size + i]? = some ((l.flatMap cells)[j * size + i]'(by rw [hl]; exact hlt)) := List.getElem?_eq_getElem _
    rw [h2]
    have h3 := h0.cells (g := g) rfl _ _ h2
    rw [Addr.add_lit, Nat.zero_add] at h3
    exact h3
/-- An append of a slice that is nil. -/
theorem run_append_nothing {P : Program} (w : World) (base : Nat) (t ty e : TypeId) (i : TypeInfo) (size : Nat) (ht : P.underlying t = some (.slice e)) (hi : P.info? e = some i) (v : Value) (n : Nat) (xs : List Value) (hown : w.ownsRow base e size v n xs) (c : Nat) :
    (Builtin.append_ #[t, t] ty #[v, .slice none 0 c]).run P w = .ok v w := by
  obtain ⟨hl, ⟨rfl, rfl⟩ | ⟨g, cap, cur, rfl, hB, hh, hc, hm, hcs, hx⟩⟩ := hown
  · simp [Builtin.append_, run_underlying ht, sizeOf, typeInfo, hi, Builtin.lenOf, Builtin.firstCells]
  · have h := run_append_room_src (P := P) w t t ty e i ht hi g 0 n cap (.slice none 0 c) 0 [] (Src.ofNil w ht c) (by omega) (fun j hj => by simp at hj) (fun j hj => by simp at hj)
    exact h
/-- What an append of a slice leaves, whatever the slice lies in. -/
theorem run_append_sl {P : Program} {α : Type} {cells : α → List Value} (w : World) (base : Nat) (t ty e : TypeId) (i : TypeInfo) (z : Value) (size bytes : Nat) (ht : P.underlying t = some (.slice e)) (hi : P.info? e = some i) (hz : i.zero = some z)
    (hsize : i.size = size) (hby : i.bytes = bytes) (hzs : z.cells.size = size) (hsz : 0 < size) (hlen : ∀ x, (cells x).length = size) (hone : ∀ x, ∀ u ∈ cells x, u.oneCell' = true)
    (v : Value) (l : List α) (hown : w.ownsRow base e size v l.length (l.flatMap cells)) (ad : Option Addr) (c : Nat) (r : List α) (n₀ : Nat) (hsl : SlAt size cells n₀ w ad c r)
    (h63 : l.length + r.length ≤ maxLen) (hbytes : (l.length + r.length) * bytes ≤ 140737488355328) (hbase : base ≤ w.heap.size) :
    ∃ v' w', (Builtin.append_ #[t, t] ty #[v, .slice ad r.length c]).run P w = .ok v' w' ∧ w'.ownsRow base e size v' (l ++ r).length ((l ++ r).flatMap cells) ∧ w.grownBy w' v.ownBlock ∧ (v ≠ .slice none 0 0 → v' ≠ .slice none 0 0) := by
  have hlr : (l ++ r).length = l.length + r.length := by simp
  have hfl : (l ++ r).flatMap cells = l.flatMap cells ++ r.flatMap cells := by simp
  rw [hlr, hfl]
  rcases ad with _ | a
  · rcases hsl.2.2 with rfl | ⟨b, off, h, _⟩
    · refine ⟨v, w, run_append_nothing w base t ty e i size ht hi v l.length _ hown c, ?_, World.grownBy.refl _ _, fun h => h⟩
      simpa using hown
    · cases h
  · obtain ⟨v', w', hr, h2, h3, h4⟩ := run_append_own (P := P) w base t ty e i z size bytes ht hi hz hsize hby hzs hsz v l.length _ hown a r.length c (r.flatMap cells) (flatLen size cells hlen r)
      (fun j u hj => by
        rcases hsl.2.2 with rfl | ⟨b, off, h, _, hrow⟩
        · simp at hj
        · cases h; exact rowFlat hlen hsz hrow j u hj)
      (fun u hu => by obtain ⟨x, _, hx⟩ := List.mem_flatMap.1 hu; exact hone x u hx) h63 hbytes hbase
    exact ⟨v', w', hr, h2, h3, fun hv hv' => hv (h4.1 hv').1⟩
theorem wpList_append_sl {P : Program} {w : World} {α : Type} {cells : α → List Value} {ops : Array Go.Oper} {rest : List Go.Oper} {o : Go.Oper} {a : Act} {Q : Exit → Act → World → Prop} (hgd : o.guard = none) (s x : Operand) (t : TypeId)
    (ho : o.op = .call { callee := .builtin .append, args := #[s, x], argTypes := #[t, t] })
    (base : Nat) (e : TypeId) (i : TypeInfo) (z : Value) (size bytes : Nat) (ht : P.underlying t = some (.slice e)) (hi : P.info? e = some i) (hz : i.zero = some z)
    (hsize : i.size = size) (hby : i.bytes = bytes) (hzs : z.cells.size = size) (hsz : 0 < size) (hlen : ∀ x, (cells x).length = size) (hone : ∀ x, ∀ u ∈ cells x, u.oneCell' = true)
    (v : Value) (l : List α) (hs : a.eval s = v) (hown : w.ownsRow base e size v l.length (l.flatMap cells)) (ad : Option Addr) (c : Nat) (r : List α) (n₀ : Nat) (hx : a.eval x = .slice ad r.length c) (hsl : SlAt size cells n₀ w ad c r)
    (h63 : l.length + r.length ≤ maxLen) (hbytes : (l.length + r.length) * bytes ≤ 140737488355328) (hbase : base ≤ w.heap.size)
    (h : ∀ v' w', w'.ownsRow base e size v' (l ++ r).length ((l ++ r).flatMap cells) → w.grownBy w' v.ownBlock → (v ≠ .slice none 0 0 → v' ≠ .slice none 0 0) → wpList P ops Q rest (a.put o.dst v') w') : wpList P ops Q (o :: rest) a w := by
  obtain ⟨v', w', hr, h2, h3, h4⟩ := run_append_sl (P := P) w base t o.type e i z size bytes ht hi hz hsize hby hzs hsz hlen hone v l hown ad c r n₀ hsl h63 hbytes hbase
  refine wpList_plain hgd fun _ hK => ?_
  unfold Go.Oper.wp execOp
  simp only [ho, resolve, invoke, builtin, Sem.run_bind, Sem.run_pure, Result.andThen_ok, List.map_toArray, List.map_cons, List.map_nil, hs, hx, hr]
  exact hK _ _ (h v' w' h2 h3 h4)
theorem Va.len (v : Va) : v.cells.length = 6 := rfl
theorem Va.one (v : Va) : ∀ u ∈ v.cells, u.oneCell' = true := by
  intro u hu
  simp only [Va.cells, List.mem_cons, List.not_mem_nil, or_false] at hu
  rcases hu with rfl | rfl | rfl | rfl | rfl | rfl <;> rfl
theorem St.len (s : St) : s.cells.length = 12 := by
  rcases s with ⟨kind, mon, name, n, ⟨eop, emon, ename, en, ead, ecap, ekids, epos⟩, ad, cap, blocks, pos⟩; rfl
theorem St.one (s : St) : ∀ u ∈ s.cells, u.oneCell' = true := by
  rcases s with ⟨kind, mon, name, n, ⟨eop, emon, ename, en, ead, ecap, ekids, epos⟩, ad, cap, blocks, pos⟩
  intro u hu
  simp only [St.cells, Ex.cells, List.cons_append, List.nil_append, List.mem_cons, List.not_mem_nil, or_false] at hu
  rcases hu with rfl | rfl | rfl | rfl | rfl | rfl | rfl | rfl | rfl | rfl | rfl | rfl <;> rfl
theorem info47 : (Tryd.prog.info? 59).map (fun i => (i.zero, i.size, i.bytes)) = some (some (.agg #[.string ⟨#[]⟩, .int .i64 0, .int .i64 0, .int .i64 0, .int .i64 0, .int .i64 0]), 6, 56) := by kernel_rfl
theorem info56 : (Tryd.prog.info? 88).map (fun i => (i.zero, i.size, i.bytes)) = some (some (.agg #[.int .i64 0, .string ⟨#[]⟩, .string ⟨#[]⟩, .int .i64 0, .int .i64 0, .string ⟨#[]⟩, .string ⟨#[]⟩, .int .i64 0, .slice none 0 0, .int .i64 0, .slice none 0 0, .int .i64 0]), 12, 160) := by kernel_rfl
end Go.Proofs.YtopiceoofdlkbaaDoor
