/-
  Lists that are appended to: where the row lies behind it; slices out of rows.
-/
import Derived.Test.YtaekbgljbgmchaaGreatDoorPzS
namespace Go.Proofs.YtaekbgljbgmchaaGreatDoor
open Go.RowKit
open Lx (Out)
open Pz
/-- Behind an append of something the row lies where it lay, or in a new block. -/
theorem append_where {P : Program} (w : World) (base : Nat) (t ty e : TypeId) (i : TypeInfo) (z : Value) (ht : P.underlying t = some (.slice e)) (hi : P.info? e = some i) (hz : i.zero = some z)
    (v : Value) (n : Nat) (xs : List Value) (hown : w.ownsRow base e i.size v n xs) (a : Addr) (m c : Nat) (news : List Value) (hl : news.length = m * i.size) (hnews : ∀ j u, news[j]? = some u → w.cell? (a.add j) = some u) (h1 : ∀ u ∈ news, u.oneCell' = true)
    (hm : 0 < m) (h63 : n + m ≤ maxLen) (hbytes : (n + m) * i.bytes ≤ 140737488355328) (v' : Value) (w' : World) (hr : (Builtin.append_ #[t, t] ty #[v, .slice (some a) m c]).run P w = .ok v' w') :
    v'.ownBlock = v.ownBlock ∨ v'.ownBlock = some w.heap.size := by
  have hsmall : n + m ≤ 9223372036854775807 := by simp only [maxLen] at h63; omega
  rcases hown.2 with ⟨rfl, rfl⟩ | ⟨g, cap, cur, rfl, hbg, hg, hnc, hcm, hcs, htake⟩
  · have h2 := run_append_nil (P := P) w t ty e i z ht hi hz a m c news hl hnews hm (by omega) (by simp only [Nat.zero_add] at hbytes; omega)
    rw [h2] at hr
    injection hr with h3 h4
    exact .inr (by rw [← h3]; rfl)
  · by_cases hroom : n + m ≤ cap
    · have hfit : n * i.size + news.length ≤ cur.size := by rw [hl, hcs, ← Nat.add_mul]; exact Nat.mul_le_mul_right _ hroom
      have h2 := run_append_room (P := P) w t ty e i ht hi g n cap cur hg a m c news hl hnews h1 hroom hfit
      rw [h2] at hr
      injection hr with h3 h4
      exact .inl (by rw [← h3]; rfl)
    · have h2 := run_append_grow (P := P) w t ty e i z ht hi hz ⟨g, 0, none⟩ n cap xs hown.1 (hown.cells (g := g) rfl) a m c news hl hnews (by omega) (by omega) (growslice_fits (by omega) hbytes)
      rw [h2] at hr
      injection hr with h3 h4
      exact .inr (by rw [← h3]; rfl)
theorem wpList_append_own2 {P : Program} {w : World} {ops : Array Go.Oper} {rest : List Go.Oper} {o : Go.Oper} {a : Act} {Q : Exit → Act → World → Prop} (hgd : o.guard = none) (s x : Operand) (t : TypeId)
    (ho : o.op = .call { callee := .builtin .append, args := #[s, x], argTypes := #[t, t] })
    (base : Nat) (e : TypeId) (i : TypeInfo) (z : Value) (size bytes : Nat) (ht : P.underlying t = some (.slice e)) (hi : P.info? e = some i) (hz : i.zero = some z)
    (hsize : i.size = size) (hby : i.bytes = bytes) (hzs : z.cells.size = size) (hsz : 0 < size)
    (v : Value) (n : Nat) (xs : List Value) (hs : a.eval s = v) (hown : w.ownsRow base e size v n xs)
    (ad : Addr) (m c : Nat) (news : List Value) (hx : a.eval x = .slice (some ad) m c) (hl : news.length = m * size) (hnews : ∀ j u, news[j]? = some u → w.cell? (ad.add j) = some u) (h1 : ∀ u ∈ news, u.oneCell' = true)
    (hm : 0 < m) (h63 : n + m ≤ maxLen) (hbytes : (n + m) * bytes ≤ 140737488355328) (hbase : base ≤ w.heap.size)
    (h : ∀ v' w', w'.ownsRow base e size v' (n + m) (xs ++ news) → w.grownBy w' v.ownBlock → (v'.ownBlock = v.ownBlock ∨ v'.ownBlock = some w.heap.size) → wpList P ops Q rest (a.put o.dst v') w') : wpList P ops Q (o :: rest) a w := by
  obtain ⟨v', w', hr, h2, h3, _⟩ := run_append_own (P := P) w base t o.type e i z size bytes ht hi hz hsize hby hzs hsz v n xs hown ad m c news hl hnews h1 h63 hbytes hbase
  subst hsize hby
  have h4 := append_where w base t o.type e i z ht hi hz v n xs hown ad m c news hl hnews h1 hm h63 hbytes v' w' hr
  refine wpList_plain hgd fun _ hK => ?_
  unfold Go.Oper.wp execOp
  simp only [ho, resolve, invoke, builtin, Sem.run_bind, Sem.run_pure, Result.andThen_ok, List.map_toArray, List.map_cons, List.map_nil, hs, hx, hr]
  exact hK _ _ (h v' w' h2 h3 h4)
theorem flat_get {α : Type} (size : Nat) (cells : α → List Value) (hlen : ∀ x, (cells x).length = size) (i : Nat) (hi : i < size) : ∀ (l : List α) (j : Nat) (hj : j < l.length), (l.flatMap cells)[j * size + i]? = (cells l[j])[i]? := by
  intro l
  induction l with
  | nil => intro j hj; simp at hj
  | cons a l ih =>
    intro j hj
    rw [List.flatMap_cons]
    cases j with
    | zero => rw [List.getElem?_append_left (by rw [hlen]; omega)]; simp
    | succ j => rw [List.getElem?_append_right (by rw [hlen, Nat.add_mul]; omega), hlen, show (j + 1) * size + i - size = j * size + i by rw [Nat.add_mul]; omega, ih j (by simpa using hj)]; simp
/-- A row that is owned is a slice of what it holds. -/
theorem sl_of_own {α : Type} {size : Nat} {cells : α → List Value} (hlen : ∀ x, (cells x).length = size) {base : Nat} {T : TypeId} {v : Value} {l : List α} {w : World} (h : w.ownsRow base T size v l.length (l.flatMap cells)) :
    ∃ ad cp, v = .slice ad l.length cp ∧ SlAt size cells w.heap.size (only (from_ base) w) ad cp l := by
  have h0 := h
  obtain ⟨hl, ⟨rfl, hn⟩ | ⟨g, cap, cur, rfl, hB, hh, hc, hm, hcs, hx⟩⟩ := h
  · have : l = [] := List.eq_nil_of_length_eq_zero hn
    subst this
    exact ⟨none, 0, rfl, Nat.le_refl _, by unfold maxLen; omega, .inl rfl⟩
  · refine ⟨some ⟨g, 0, none⟩, cap, rfl, hc, hm, .inr ⟨g, 0, rfl, ltB hh, fun j hj i hi => ?_⟩⟩
    rw [only_in _ w g _ (from_iff.2 hB), Nat.zero_add]
    have hlt : j * size + i < l.length * size := by
      have h1 : (j + 1) * size ≤ l.length * size := Nat.mul_le_mul_right size hj
      rw [Nat.add_mul] at h1; omega
    rw [h0.cellAt (j * size + i) hlt, flat_get size cells hlen i hi l j hj]
/-- Blocks from n on, but for the row of v. -/
def but (n : Nat) (v : Value) (k : Nat) : Bool := decide (n ≤ k) && decide (v.ownBlock ≠ some k)
theorem but_iff {n : Nat} {v : Value} {k : Nat} : but n v k = true ↔ n ≤ k ∧ v.ownBlock ≠ some k := by simp [but]
theorem but_lt {n : Nat} {v : Value} {k : Nat} (h : k < n) : but n v k = false := by
  cases hb : but n v k
  · rfl
  · have := (but_iff.1 hb).1; omega
theorem owns_kp {w w' : World} {base e size : Nat} {v : Value} {n : Nat} {xs : List Value} {b : Nat} (h : w.ownsRow base e size v n xs) (k : Kp b w w') (hb : b < base) : w'.ownsRow base e size v n xs := by
  obtain ⟨hl, ⟨rfl, rfl⟩ | ⟨g, cap, cur, rfl, hB, hh, hc, hm, hcs, hx⟩⟩ := h
  · exact ⟨hl, .inl ⟨rfl, rfl⟩⟩
  · exact ⟨hl, .inr ⟨g, cap, cur, rfl, hB, k.box hh (by omega), hc, hm, hcs, hx⟩⟩
/-- What holds of blocks beside a row holds behind an append, beside the new row. -/
theorem grow_by {B : (Nat → Bool) → World → Prop} (hs : ∀ Q w w', B Q w → Kq Q w w' → B Q w') (hw : ∀ Q Q' w, B Q w → (∀ k, Q k = true → k < w.heap.size → Q' k = true) → B Q' w)
    {n : Nat} {v v' : Value} {w w' : World} (h : B (but n v) w) (hg : w.grownBy w' v.ownBlock) (hv : v'.ownBlock = v.ownBlock ∨ v'.ownBlock = some w.heap.size) : B (but n v') w' := by
  have h1 : B (fun k => but n v k && decide (k < w.heap.size)) w := hw _ _ _ h (fun k hk hl => by simp only [hk, Bool.true_and, decide_eq_true_eq]; exact hl)
  have h2 := hs _ _ w' h1 ⟨hg.size, fun k hk hl => hg.block k hl (fun e => by
    have := (but_iff.1 (Bool.and_eq_true_iff.1 hk).1).2
    exact this e.symm)⟩
  refine hw _ _ _ h2 (fun k hk _ => ?_)
  obtain ⟨ha, hb⟩ := Bool.and_eq_true_iff.1 hk
  have hlt : k < w.heap.size := of_decide_eq_true hb
  refine but_iff.2 ⟨(but_iff.1 ha).1, ?_⟩
  rcases hv with hv | hv
  · rw [hv]; exact (but_iff.1 ha).2
  · rw [hv]; intro e; injection e with e; omega
theorem grown_kp {b n : Nat} {v : Value} {u w w' : World} {e size m : Nat} {xs : List Value} (h : Kp b u w) (ho : w.ownsRow n e size v m xs) (hg : w.grownBy w' v.ownBlock) (hn : u.heap.size ≤ n) : Kp b u w' :=
  ⟨hg.os.trans h.os, hg.tape.trans h.tape, hg.output.trans h.output, Nat.le_trans h.size hg.size, fun k hk hb => by
    rw [hg.block k (Nat.lt_of_lt_of_le hk h.size) (fun e1 => by have := (ho.lt k e1.symm).1; omega)]; exact h.block k hk hb⟩
theorem Pz.At.grown {b g cap : Nat} {toks : List Out} {s : S} {n : Nat} {v : Value} {w w' : World} {e size m : Nat} {xs : List Value} (h : At b g cap toks s w) (ho : w.ownsRow n e size v m xs) (hg : w.grownBy w' v.ownBlock) (hb : b < n) (hgl : g < n) : At b g cap toks s w' := by
  have hbl : ∀ k, k < w.heap.size → k < n → w'.heap[k]? = w.heap[k]? := fun k hk hn => hg.block k hk (fun e1 => by have := (ho.lt k e1.symm).1; omega)
  refine ⟨by rw [hbl b h.lt hb]; exact h.box, fun j hj => ?_, h.gb, Nat.lt_of_lt_of_le h.glt hg.size, h.cp, h.small, h.ok⟩
  have := h.row j hj
  rw [World.cell?_of_block (a := ⟨g, j * 4, none⟩) (hbl g h.glt hgl), World.cell?_of_block (a := ⟨g, j * 4 + 1, none⟩) (hbl g h.glt hgl), World.cell?_of_block (a := ⟨g, j * 4 + 2, none⟩) (hbl g h.glt hgl), World.cell?_of_block (a := ⟨g, j * 4 + 3, none⟩) (hbl g h.glt hgl)]
  exact this
end Go.Proofs.YtaekbgljbgmchaaGreatDoor
