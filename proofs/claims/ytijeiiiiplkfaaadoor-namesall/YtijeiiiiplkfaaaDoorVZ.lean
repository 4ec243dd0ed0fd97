/-
  The statement NamesAll: its walk.
-/
import Derived.Test.YtijeiiiiplkfaaaDoorNxR
import Derived.Test.YtijeiiiiplkfaaaDoorNxV
import Derived.Test.YtijeiiiiplkfaaaDoorRdA
import Derived.Test.YtijeiiiiplkfaaaDoorNxM
import Derived.Deep.AppendLies
import Derived.Test.YtijeiiiiplkfaaaDoorNxT
import Derived.Test.YtijeiiiiplkfaaaDoorSmA
import Derived.Test.YtijeiiiiplkfaaaDoorNxQ
import Derived.Deep.RegionHeld3
import Derived.Deep.DeepCutAuto
namespace Go.Proofs.YtijeiiiiplkfaaaDoor
open Go.RowKit
theorem name_nopt {s : ByteArray} (h : Lx.name s = true) : (46 : UInt8) ∉ s.data.toList := by
  intro hm
  simp only [Lx.name, Bool.and_eq_true, List.all_eq_true] at h
  have h1 := h.1.2 46 hm
  revert h1
  decide
theorem cut_at (a b c d : List UInt8) (ha : (46 : UInt8) ∉ a) (hc : (46 : UInt8) ∉ c) (h : a ++ 46 :: b = c ++ 46 :: d) : a = c ∧ b = d := by
  induction a generalizing c with
  | nil =>
    cases c with
    | nil => simpa using h
    | cons y c => simp at h; exact absurd (by simp [h.1]) hc
  | cons x a ih =>
    cases c with
    | nil => simp at h; exact absurd (by simp [h.1]) ha
    | cons y c =>
      simp only [List.cons_append, List.cons.injEq] at h
      have := ih c (fun h' => ha (by simp [h'])) (fun h' => hc (by simp [h'])) h.2
      exact ⟨by rw [h.1, this.1], this.2⟩
theorem vname_list (a b : ByteArray) : (vname (a, b)).data.toList = a.data.toList ++ 46 :: b.data.toList := by
  simp [vname]
theorem vname_inj {a b c d : ByteArray} (ha : Lx.name a = true) (hc : Lx.name c = true) (h : vname (a, b) = vname (c, d)) : a = c ∧ b = d := by
  have h1 := congrArg (fun x : ByteArray => x.data.toList) h
  simp only [vname_list] at h1
  obtain ⟨h2, h3⟩ := cut_at _ _ _ _ (name_nopt ha) (name_nopt hc) h1
  constructor
  · apply ByteArray.ext; apply Array.ext'; exact h2
  · apply ByteArray.ext; apply Array.ext'; exact h3
theorem vars_from (l : List Ex) : ∀ S a b, (a, b) ∈ l.foldl vstep S → (a, b) ∈ S ∨ ∃ x ∈ l, ∃ n ad cap kids pos, x = Ex.mk 4 a b n ad cap kids pos := by
  induction l with
  | nil => intro S a b h; exact .inl h
  | cons x l ih =>
    intro S a b h
    rw [List.foldl_cons] at h
    rcases ih _ a b h with h1 | ⟨y, hy, h2⟩
    · rcases x with ⟨op, mon, name, n, ad, cap, kids, pos⟩
      by_cases hv : op = 4 ∧ (mon, name) ∉ S
      · rw [vstep_yes hv, List.mem_append, List.mem_singleton] at h1
        rcases h1 with h1 | h1
        · exact .inl h1
        · obtain ⟨rfl, -⟩ := hv
          cases h1
          exact .inr ⟨_, List.mem_cons_self, n, ad, cap, kids, pos, rfl⟩
      · rw [vstep_no hv] at h1
        exact .inl h1
    · exact .inr ⟨y, List.mem_cons_of_mem _ hy, h2⟩
theorem vars_nodup (l : List Ex) : ∀ S, S.Nodup → (l.foldl vstep S).Nodup := by
  induction l with
  | nil => intro S h; exact h
  | cons x l ih =>
    intro S h
    rw [List.foldl_cons]
    apply ih
    rcases x with ⟨op, mon, name, n, ad, cap, kids, pos⟩
    by_cases hv : op = 4 ∧ (mon, name) ∉ S
    · rw [vstep_yes hv]
      exact List.nodup_append.2 ⟨h, by simp, fun a ha b hb => by simp at hb; rintro rfl; exact hv.2 (hb ▸ ha)⟩
    · rw [vstep_no hv]; exact h
theorem unkL_none {k : Lk} {l : List Ex} (h : Ex.unkL k l = none) : ∀ x ∈ l, x.unk k = none := by
  induction l with
  | nil => intro x hx; cases hx
  | cons a l ih =>
    rw [Ex.unkL, Option.or_eq_none_iff] at h
    intro x hx
    rcases List.mem_cons.1 hx with rfl | hx
    · exact h.1
    · exact ih h.2 x hx
theorem unk_subs {k : Lk} (e : Ex) (h : e.unk k = none) : ∀ x ∈ e.subs, x.unk k = none := by
  match e with
  | .mk op mon name n ad cap kids pos =>
    intro x hx
    rw [Ex.subs_mk, List.mem_cons, Ex.subsL_eq, List.mem_flatMap] at hx
    rcases hx with rfl | ⟨y, hy, hx⟩
    · exact h
    · rw [Ex.unk_mk] at h
      split at h
      · cases h
      · exact unk_subs y (unkL_none h y hy) x hx
termination_by e
decreasing_by
  have := List.sizeOf_lt_of_mem hy
  simp only [Ex.mk.sizeOf_spec]
  omega
/-- What an expression reads, where nothing is unknown, is declared; and its names are names. -/
theorem vars_known {k : Lk} {e : Ex} (h : e.unk k = none) (hok : e.ok = true) {a b : ByteArray} (hab : (a, b) ∈ varsOf e.subs) : k.V a b = true ∧ Lx.name a = true ∧ Lx.name b = true := by
  rcases vars_from e.subs [] a b hab with h1 | ⟨x, hx, n, ad, cap, kids, pos, rfl⟩
  · cases h1
  · have h2 := unk_subs e h _ hx
    rw [Ex.unk_mk] at h2
    have h3 := List.all_eq_true.1 hok _ hx
    simp only [Ex.ok1, Bool.and_eq_true] at h3
    refine ⟨?_, by simpa [fitsName, exNames] using h3.2.1.1.1, by simpa [fitsName, exNames] using h3.2.1.1.2⟩
    cases hv : k.V a b
    · rw [if_pos ⟨rfl, hv⟩] at h2; cases h2
    · rfl
/-- The places. -/
def slotN (l : List Mo) (p : ByteArray × ByteArray) : Nat := (slotIx l p.1 p.2).getD 0
theorem find_nodup {α : Type} (f : α → ByteArray) (l : List α) (k : Nat) (hk : k < l.length) (h : (l.map f).Nodup) : l.findIdx? (fun x => decide (f x = f l[k])) = some k := by
  rw [List.findIdx?_eq_some_iff_getElem]
  refine ⟨hk, by simp, fun j hj => ?_⟩
  simp only [decide_eq_true_iff]
  intro e
  exact (List.pairwise_iff_getElem.1 h) j k (by simp; omega) (by simpa using hk) hj (by simpa using e)
theorem mons_nodup {l : List Mo} (h : declM [] l = none) : (l.map Mo.name).Nodup := by simpa using declM_names [] l List.nodup_nil h
theorem vars_nd {l : List Mo} (h : declM [] l = none) (m : Mo) (hm : m ∈ l) : (m.vars.map Va.name).Nodup := by
  have h1 := dupN_nodup [] m.nps List.nodup_nil (declM_each [] l h m hm)
  simp only [List.nil_append, Mo.nps, List.map_append, List.map_map] at h1
  exact (List.nodup_append.1 h1).1
/-- The place of a variable is what stands ahead of it. -/
theorem slot_at {l : List Mo} (h : declM [] l = none) (i k : Nat) (hi : i < l.length) (hk : k < l[i].vars.length) : slotIx l l[i].name l[i].vars[k].name = some (k + vsum (l.take i)) := by
  rw [slotIx_at (find_nodup Mo.name l i hi (mons_nodup h)) hi, find_nodup Va.name l[i].vars k hk (vars_nd h _ (List.getElem_mem hi))]
  rfl
theorem slot_has {l : List Mo} {a b : ByteArray} {n : Nat} (h : slotIx l a b = some n) : ∃ i k, ∃ (hi : i < l.length) (hk : k < l[i].vars.length), l[i].name = a ∧ l[i].vars[k].name = b ∧ n = k + vsum (l.take i) := by
  cases hm : monIx l a with
  | none => rw [slotIx_no hm] at h; cases h
  | some i =>
    obtain ⟨hi, h1, -⟩ := List.findIdx?_eq_some_iff_getElem.1 hm
    rw [slotIx_at hm hi] at h
    obtain ⟨k, hk, rfl⟩ := Option.map_eq_some_iff.1 h
    obtain ⟨hk', h2, -⟩ := List.findIdx?_eq_some_iff_getElem.1 hk
    exact ⟨i, k, hi, hk', by simpa using h1, by simpa using h2, rfl⟩
theorem vsum_step (l : List Mo) (i j : Nat) (h : i < j) (hi : i < l.length) : vsum (l.take i) + l[i].vars.length ≤ vsum (l.take j) := by
  rw [← vsum_snoc l i hi]
  have := vsum_le (l.take j) (i + 1)
  rwa [List.take_take, Nat.min_eq_left (by omega)] at this
/-- Unlike variables have unlike places. -/
theorem slot_inj {l : List Mo} {a b c d : ByteArray} {n : Nat} (h1 : slotIx l a b = some n) (h2 : slotIx l c d = some n) : (a, b) = (c, d) := by
  obtain ⟨i, k, hi, hk, rfl, rfl, e1⟩ := slot_has h1
  obtain ⟨j, m, hj, hm, rfl, rfl, e2⟩ := slot_has h2
  have hij : i = j := by
    rcases Nat.lt_trichotomy i j with h | h | h
    · have := vsum_step l i j h hi; omega
    · exact h
    · have := vsum_step l j i h hj; omega
  subst hij
  have hkm : k = m := by omega
  subst hkm
  rfl
theorem mo_names {p : Pr} (h : p.ok = true) : ∀ m ∈ p.mons, Lx.name m.name = true ∧ ∀ v ∈ m.vars, Lx.name v.name = true := by
  intro m hm
  simp only [Pr.ok, Pr.decl, Bool.and_eq_true, List.all_eq_true] at h
  have h1 := h.1.1.2 m hm
  simp only [Mo.ok, Bool.and_eq_true, List.all_eq_true] at h1
  refine ⟨h1.1.1.1.1, fun v hv => ?_⟩
  have h2 := h1.1.2 v hv
  simp only [Va.ok, Bool.and_eq_true] at h2
  exact h2.1.1
/-- What the law's loops find. -/
structure Finds (l : List Mo) (a b : ByteArray) (i k : Nat) : Prop where
  hi : i < l.length
  hk : k < l[i].vars.length
  hit : vname (l[i].name, l[i].vars[k].name) = vname (a, b)
  slot : slotIx l l[i].name l[i].vars[k].name = some (slotN l (a, b))
  only : ∀ j m, ∀ (hj : j < l.length) (hm : m < l[j].vars.length), vname (l[j].name, l[j].vars[m].name) = vname (a, b) → j = i ∧ m = k
theorem finds_of {q : Pr} {e : Ex} (hq : q.nchk.1 = 0) (hun : e.unk q.lk = none) (hok : e.ok = true) {a b : ByteArray} (hab : (a, b) ∈ varsOf e.subs) : ∃ i k, Finds q.mons a b i k := by
  obtain ⟨h1, h2, -, -⟩ := chk_parts hq
  obtain ⟨hV, ha, hb⟩ := vars_known hun hok hab
  rw [← slot_lk] at hV
  obtain ⟨n, hn⟩ := Option.isSome_iff_exists.1 hV
  obtain ⟨i, k, hi, hk, rfl, rfl, e⟩ := slot_has hn
  refine ⟨i, k, hi, hk, rfl, ?_, fun j m hj hm hjm => ?_⟩
  · rw [slotN, hn]; rfl
  · obtain ⟨e1, e2⟩ := vname_inj ((mo_names h1 _ (List.getElem_mem hj)).1) ha hjm
    have s1 := slot_at h2 j m hj hm
    have s2 := slot_at h2 i k hi hk
    have f1 := find_nodup Mo.name q.mons j hj (mons_nodup h2)
    have f2 := find_nodup Mo.name q.mons i hi (mons_nodup h2)
    rw [e1, f2] at f1
    have hij : i = j := by simpa using f1
    subst hij
    rw [e2, s2] at s1
    have : k + vsum (q.mons.take i) = m + vsum (q.mons.take i) := by simpa using s1
    exact ⟨rfl, by omega⟩
theorem slots_unlike {q : Pr} {e : Ex} (hun : e.unk q.lk = none) (hok : e.ok = true) {i j : Nat} (hi : i < (varsOf e.subs).length) (hj : j < i) : slotN q.mons (varsOf e.subs)[j] ≠ slotN q.mons (varsOf e.subs)[i] := by
  have hs : ∀ x ∈ varsOf e.subs, slotIx q.mons x.1 x.2 = some (slotN q.mons x) := by
    intro x hx
    have hV := (vars_known hun hok (a := x.1) (b := x.2) hx).1
    rw [← slot_lk] at hV
    obtain ⟨n, hn⟩ := Option.isSome_iff_exists.1 hV
    rw [slotN, hn]; rfl
  intro h
  have h1 := hs _ (List.getElem_mem (show j < (varsOf e.subs).length by omega))
  have h2 := hs _ (List.getElem_mem hi)
  rw [← h] at h2
  have h3 := slot_inj h1 h2
  have hnd : (varsOf e.subs).Nodup := vars_nodup e.subs [] List.nodup_nil
  exact (List.pairwise_iff_getElem.1 hnd) j i (by omega) hi hj h3
/-- The program with the law's role more: what it reads is declared. -/
theorem role_unk {q : Pr} {roles : List Ro} {r : Ro} {e : Ex} {ad ad2 : Option Addr} {cap cap2 : Nat} {kind : Int} {mon name : ByteArray} {n : Int} {bl : List Bl} {pos : Int} (hq : q.nchk.1 = 0) (hr : q.roles = roles ++ [r]) (hb : r.body = .mk ad cap [.mk kind mon name n e ad2 cap2 bl pos]) : e.unk q.lk = none := by
  obtain ⟨-, -, -, h4⟩ := chk_parts hq
  rw [Pr.unk, Option.or_eq_none_iff, hr, unkOf_append, Option.or_eq_none_iff] at h4
  have h5 := h4.2.2
  rw [unkOf, Option.or_eq_none_iff] at h5
  have h6 := h5.1
  rw [Ro.unk, hb, Bl.unk_mk, St.unkL, Option.or_eq_none_iff, St.unk_mk] at h6
  have h7 := h6.1
  split at h7
  · cases h7
  · exact (Option.or_eq_none_iff.1 h7).1
end Go.Proofs.YtijeiiiiplkfaaaDoor
namespace Go.Proofs.YtijeiiiiplkfaaaDoor
open Go.RowKit
theorem step_append_sl {P : Program} {w : World} {α : Type} {cells : α → List Value} {ops : Array Go.Oper} {o : Go.Oper} {a : Act} {K : Act → World → Prop} {Q : Exit → Act → World → Prop} {E : Prop} (hgd : o.guard = none) (s x : Operand) (t : TypeId)
    (ho : o.op = .call { callee := .builtin .append, args := #[s, x], argTypes := #[t, t] })
    (base : Nat) (e : TypeId) (i : TypeInfo) (z : Value) (size bytes : Nat) (ht : P.underlying t = some (.slice e)) (hi : P.info? e = some i) (hz : i.zero = some z)
    (hsize : i.size = size) (hby : i.bytes = bytes) (hzs : z.cells.size = size) (hsz : 0 < size) (hlen : ∀ x, (cells x).length = size) (hone : ∀ x, ∀ u ∈ cells x, u.oneCell' = true)
    (v : Value) (l : List α) (hs : a.eval s = v) (hown : w.ownsRow base e size v l.length (l.flatMap cells)) (ad : Option Addr) (c : Nat) (r : List α) (n₀ : Nat) (hx : a.eval x = .slice ad r.length c) (hsl : SlAt size cells n₀ w ad c r)
    (h63 : l.length + r.length ≤ maxLen) (hbytes : (l.length + r.length) * bytes ≤ 140737488355328) (hbase : base ≤ w.heap.size)
    (h : ∀ v' w', w'.ownsRow base e size v' (l ++ r).length ((l ++ r).flatMap cells) → w.grownBy w' v.ownBlock → (v ≠ .slice none 0 0 → v' ≠ .slice none 0 0) → K (a.put o.dst v') w') :
    if Region.wanted o (yielded ops a.tmps) = true then Oper.wp P o a w K Q else E := by
  have hw : Region.wanted o (yielded ops a.tmps) = true := by simp [Region.wanted, hgd]
  rw [if_pos hw]
  obtain ⟨v', w', hr, h2, h3, h4⟩ := run_append_sl (P := P) w base t o.type e i z size bytes ht hi hz hsize hby hzs hsz hlen hone v l hown ad c r n₀ hsl h63 hbytes hbase
  unfold Go.Oper.wp execOp
  simp only [ho, resolve, invoke, builtin, Sem.run_bind, Sem.run_pure, Result.andThen_ok, List.map_toArray, List.map_cons, List.map_nil, hs, hx, hr]
  exact h v' w' h2 h3 h4
/-- The same, and what stands below. -/
theorem step_append_slB {P : Program} {w : World} {α : Type} {cells : α → List Value} {ops : Array Go.Oper} {o : Go.Oper} {a : Act} {K : Act → World → Prop} {Q : Exit → Act → World → Prop} {E : Prop} (hgd : o.guard = none) (s x : Operand) (t : TypeId)
    (ho : o.op = .call { callee := .builtin .append, args := #[s, x], argTypes := #[t, t] })
    (base : Nat) (e : TypeId) (i : TypeInfo) (z : Value) (size bytes : Nat) (ht : P.underlying t = some (.slice e)) (hi : P.info? e = some i) (hz : i.zero = some z)
    (hsize : i.size = size) (hby : i.bytes = bytes) (hzs : z.cells.size = size) (hsz : 0 < size) (hlen : ∀ x, (cells x).length = size) (hone : ∀ x, ∀ u ∈ cells x, u.oneCell' = true)
    (v : Value) (l : List α) (hs : a.eval s = v) (hown : w.ownsRow base e size v l.length (l.flatMap cells)) (ad : Option Addr) (c : Nat) (r : List α) (n₀ : Nat) (hx : a.eval x = .slice ad r.length c) (hsl : SlAt size cells n₀ w ad c r)
    (h63 : l.length + r.length ≤ maxLen) (hbytes : (l.length + r.length) * bytes ≤ 140737488355328) (hbase : base ≤ w.heap.size) (W0 : World) (hb : Below base W0 w)
    (h : ∀ v' w', w'.ownsRow base e size v' (l ++ r).length ((l ++ r).flatMap cells) → w.grownBy w' v.ownBlock → (v ≠ .slice none 0 0 → v' ≠ .slice none 0 0) → Below base W0 w' → K (a.put o.dst v') w') :
    if Region.wanted o (yielded ops a.tmps) = true then Oper.wp P o a w K Q else E := by
  exact step_append_sl hgd s x t ho base e i z size bytes ht hi hz hsize hby hzs hsz hlen hone v l hs hown ad c r n₀ hx hsl h63 hbytes hbase fun v' w' h1 h2 h3 => h v' w' h1 h2 h3 (owns_grown_below hb hown h2 hbase)
end Go.Proofs.YtijeiiiiplkfaaaDoor
namespace Go.Proofs.YtijeiiiiplkfaaaDoor
open Go.RowKit
def stmtS (b5 : Nat) (e : Ex) : St := .mk 4 ⟨#[]⟩ ⟨#[]⟩ 0 e (some ⟨b5, 0, none⟩) 1 [.mk none 0 []] 0
def roleR (b7 b5 : Nat) (e : Ex) : Ro := ⟨⟨#[122, 122, 57]⟩, true, 0, .mk (some ⟨b7, 0, none⟩) 1 [stmtS b5 e], 0⟩
theorem owns_ne {w : World} {base e size : Nat} {v : Value} {n : Nat} {xs : List Value} (h : w.ownsRow base e size v n xs) {k : Nat} {c : Array Value} {t : TypeId} {z : Nat × Nat} (hk : w.heap[k]? = some (.cells c t z)) (ht : t ≠ e) : some k ≠ v.ownBlock := by
  intro hh
  rcases h.2 with ⟨rfl, _⟩ | ⟨g, cap, cur, rfl, _, hg, _⟩
  · cases hh
  · have : k = g := by
      simp only [Value.ownBlock] at hh
      exact Option.some.inj hh
    subst this
    rw [hk] at hg
    cases hg
    exact ht rfl
theorem lt_of_block {w : World} {k : Nat} {o : Obj} (h : w.heap[k]? = some o) : k < w.heap.size := (Array.getElem?_eq_some_iff.1 h).1
theorem step_append_role {w : World} {ops : Array Go.Oper} {o : Go.Oper} {a : Act} {K : Act → World → Prop} {Q : Exit → Act → World → Prop} {E : Prop} (hgd : o.guard = none) (s x : Operand)
    (ho : o.op = .call { callee := .builtin .append, args := #[s, x], argTypes := #[23, 23] })
    (op : Int) (emon ename : ByteArray) (en : Int) (ead : Option Addr) (ecap : Nat) (ekids : List Ex) (epos : Int)
    (base : Nat) (v : Value) (l : List Ro) (hs : a.eval s = v) (hown : w.ownsRow base 58 5 v l.length (l.flatMap Ro.cells))
    (hsrc : ∃ b9 b7 b5 : Nat, a.eval x = .slice (some ⟨b9, 0, none⟩) 1 1 ∧ w.heap[b9]? = some (.cells #[.string ⟨#[122, 122, 57]⟩, .bool true, .int .i64 0, .slice (some ⟨b7, 0, none⟩) 1 1, .int .i64 0] 58 (0, 0)) ∧ w.heap[b7]? = some (.cells #[.int .i64 4, .string ⟨#[]⟩, .string ⟨#[]⟩, .int .i64 0, .int .i64 op, .string emon, .string ename, .int .i64 en, .slice ead ekids.length ecap, .int .i64 epos, .slice (some ⟨b5, 0, none⟩) 1 1, .int .i64 0] 56 (0, 0)) ∧ w.heap[b5]? = some (.cells #[.slice none 0 0] 38 (0, 0)))
    (h63 : l.length ≤ 1000) (hbase : base ≤ w.heap.size) (W0 : World) (hb : Below base W0 w)
    (h : ∀ b7 b5 v' w', w'.ownsRow base 58 5 v' (l ++ [roleR b7 b5 (.mk op emon ename en ead ecap ekids epos)]).length ((l ++ [roleR b7 b5 (.mk op emon ename en ead ecap ekids epos)]).flatMap Ro.cells) → w'.heap[b7]? = some (.cells #[.int .i64 4, .string ⟨#[]⟩, .string ⟨#[]⟩, .int .i64 0, .int .i64 op, .string emon, .string ename, .int .i64 en, .slice ead ekids.length ecap, .int .i64 epos, .slice (some ⟨b5, 0, none⟩) 1 1, .int .i64 0] 56 (0, 0)) → w'.heap[b5]? = some (.cells #[.slice none 0 0] 38 (0, 0)) → Below base W0 w' → K (a.put o.dst v') w') :
    if Region.wanted o (yielded ops a.tmps) = true then Oper.wp Tryd.prog o a w K Q else E := by
  obtain ⟨b9, b7, b5, hx, h9, h7, h5⟩ := hsrc
  obtain ⟨i0, hi0, iz0, iz1, iz2⟩ := info_parts info58
  have hsl : SlAt 5 Ro.cells (b9 + 1) w (some ⟨b9, 0, none⟩) 1 [roleR b7 b5 (.mk op emon ename en ead ecap ekids epos)] := by
    refine ⟨by simp, by unfold maxLen; omega, .inr ⟨b9, 0, rfl, by omega, fun j hj i hi => ?_⟩⟩
    have hj2 : j < 1 := by simpa using hj
    obtain rfl : j = 0 := by omega
    rw [cellOf h9]
    rcases i with _ | _ | _ | _ | _ | i <;> first | rfl | omega
  refine step_append_slB hgd s x 23 ho base 58 i0 _ 5 64 Tryd.underlying23 hi0 iz0 iz1 iz2 rfl (by decide) Ro.len Ro.one v l hs hown (some ⟨b9, 0, none⟩) 1 [roleR b7 b5 (.mk op emon ename en ead ecap ekids epos)] (b9 + 1) hx hsl (by unfold maxLen; simp; omega) (by simp; omega) hbase W0 hb ?_
  intro v' w' h1 h2 _ h4
  exact h b7 b5 v' w' h1 ((h2.block b7 (lt_of_block h7) (owns_ne hown h7 (by decide))).trans h7) ((h2.block b5 (lt_of_block h5) (owns_ne hown h5 (by decide))).trans h5) h4
/-- The program with the role more lies there. -/
structure AllAt (w W1 : World) (bq : Nat) (p : Pr) (e : Ex) (wx : World) : Prop where
  is : ∃ ad2 cp2 b7 b5, (⟨p.mad, p.mcap, p.mons, ad2, cp2, p.roles ++ [roleR b7 b5 e]⟩ : Pr).Is wx.heap.size wx ∧ wx.cell? ⟨bq, 0, none⟩ = some (.slice p.mad p.mons.length p.mcap) ∧ wx.cell? ⟨bq, 1, none⟩ = some (.slice ad2 (p.roles.length + 1) cp2)
  below : Below bq W1 wx
  lt : bq < wx.heap.size
theorem all_at {w W1 w2 : World} {bq : Nat} {p : Pr} {op : Int} {emon ename : ByteArray} {en : Int} {ead : Option Addr} {ecap : Nat} {ekids : List Ex} {epos : Int} (hp : p.Is w.heap.size w) (he : (Ex.mk op emon ename en ead ecap ekids epos).Is w.heap.size w) (hB : Below w.heap.size w W1) (B : Below W1.heap.size W1 w2) (hz : W1.heap.size = bq + 1) (hwq : w.heap.size ≤ bq) {ad2 : Option Addr} {cp2 b7 b5 : Nat}
    (hsl : (p.roles ++ [roleR b7 b5 (.mk op emon ename en ead ecap ekids epos)]).length ≤ cp2 ∧ cp2 ≤ maxLen ∧ ((p.roles ++ [roleR b7 b5 (.mk op emon ename en ead ecap ekids epos)]) = [] ∨ ∃ b, ad2 = some ⟨b, 0, none⟩ ∧ W1.heap.size ≤ b ∧ b < w2.heap.size ∧ RowAt 5 Ro.cells w2 b 0 (p.roles ++ [roleR b7 b5 (.mk op emon ename en ead ecap ekids epos)])))
    (h7 : w2.heap[b7]? = some (.cells #[.int .i64 4, .string ⟨#[]⟩, .string ⟨#[]⟩, .int .i64 0, .int .i64 op, .string emon, .string ename, .int .i64 en, .slice ead ekids.length ecap, .int .i64 epos, .slice (some ⟨b5, 0, none⟩) 1 1, .int .i64 0] 56 (0, 0))) (h5 : w2.heap[b5]? = some (.cells #[.slice none 0 0] 38 (0, 0)))
    (h4 : W1.heap[bq]? = some (.cells #[.slice p.mad p.mons.length p.mcap, .slice p.rad p.roles.length p.rcap] 25 (0, 0))) : AllAt w W1 bq p (.mk op emon ename en ead ecap ekids epos) (w2.setCell ⟨bq, 1, none⟩ (.slice ad2 (p.roles.length + 1) cp2)) := by
  have hz2 := B.size
  have e4 := (B.block bq (by omega)).trans h4
  have n7 : b7 ≠ bq := by intro h; rw [h, e4] at h7; simp at h7
  have n5 : b5 ≠ bq := by intro h; rw [h, e4] at h5; simp at h5
  have hbl : ∀ k, k ≠ bq → (w2.setCell ⟨bq, 1, none⟩ (.slice ad2 (p.roles.length + 1) cp2)).heap[k]? = w2.heap[k]? := fun k hk => Below.heap_setCell _ ⟨bq, 1, none⟩ _ k hk
  have hzs : (w2.setCell ⟨bq, 1, none⟩ (.slice ad2 (p.roles.length + 1) cp2)).heap.size = w2.heap.size := by simp
  have hBF : Below w.heap.size w (w2.setCell ⟨bq, 1, none⟩ (.slice ad2 (p.roles.length + 1) cp2)) := (hB.tr le_rfl' B).setCell (p := ⟨bq, 1, none⟩) hwq _
  have hh := heap_setCell_same w2 bq 1 _ 25 (.slice ad2 (p.roles.length + 1) cp2) e4
  have k0 : (w2.setCell ⟨bq, 1, none⟩ (.slice ad2 (p.roles.length + 1) cp2)).cell? ⟨bq, 0, none⟩ = some (.slice p.mad p.mons.length p.mcap) := by rw [cellOf hh]; rfl
  have k1 : (w2.setCell ⟨bq, 1, none⟩ (.slice ad2 (p.roles.length + 1) cp2)).cell? ⟨bq, 1, none⟩ = some (.slice ad2 (p.roles.length + 1) cp2) := by rw [cellOf hh]; rfl
  have hbf : Below bq W1 (w2.setCell ⟨bq, 1, none⟩ (.slice ad2 (p.roles.length + 1) cp2)) := (B.mono (by omega)).setCell (p := ⟨bq, 1, none⟩) (by show bq ≤ bq; omega) _
  have g7 := (hbl b7 n7).trans h7
  have g5 := (hbl b5 n5).trans h5
  obtain ⟨W5, hW5⟩ : ∃ W5, w2.setCell ⟨bq, 1, none⟩ (.slice ad2 (p.roles.length + 1) cp2) = W5 := ⟨_, rfl⟩
  rw [hW5] at hzs hBF k0 k1 hbf g7 g5 ⊢
  simp only [hW5] at hbl
  have hB5z := hBF.size
  have hst : (stmtS b5 (.mk op emon ename en ead ecap ekids epos)).Is W5.heap.size W5 := by
    refine St.Is.up ⟨⟨⟨by decide, by decide⟩, i64z, i64z, by unfold Len; decide, by unfold Len; decide⟩, (he.below hBF).mono hB5z, ⟨by simp, by unfold maxLen; simp, .inr ⟨b5, 0, rfl, lt_of_block g5, fun j hj i hi => ?_⟩⟩, fun b hb => ?_⟩
    · have hj2 : j < 1 := by simpa using hj
      obtain rfl : j = 0 := by omega
      obtain rfl : i = 0 := by omega
      rw [cellOf g5]; rfl
    · simp only [List.mem_cons, List.not_mem_nil, or_false] at hb
      subst hb
      exact Bl.Is.up ⟨⟨by simp, by unfold maxLen; simp, .inl rfl⟩, fun s hs => by cases hs⟩
  refine ⟨⟨ad2, cp2, b7, b5, ⟨⟨(hp.1.1.below hBF).mono hB5z, fun x hx => ((hp.1.2 x hx).below hBF).mono hB5z⟩, ⟨hsl.1, hsl.2.1, ?_⟩, fun r hr => ?_⟩, k0, k1⟩, hbf, by omega⟩
  · rcases hsl.2.2 with h | ⟨b, rfl, h5', h6', h7'⟩
    · exact .inl h
    · refine .inr ⟨b, 0, rfl, by omega, fun j hj i hi => ?_⟩
      refine Eq.trans ?_ (h7' j hj i hi)
      exact World.cell?_of_block (hbl b (by omega))
  · rcases List.mem_append.1 hr with hr | hr
    · exact ((hp.2.2 r hr).below hBF).mono hB5z
    · rw [List.mem_singleton.1 hr]
      refine ⟨by show (ByteArray.mk #[122, 122, 57]).size ≤ 140737488351232; decide, i64z, i64z, Bl.Is.up ⟨⟨by simp, by unfold maxLen; simp, .inr ⟨b7, 0, rfl, lt_of_block g7, fun j hj i hi => ?_⟩⟩, fun s hs => ?_⟩⟩
      · have hj2 : j < 1 := by simpa using hj
        obtain rfl : j = 0 := by omega
        rw [cellOf g7]
        rcases i with _ | _ | _ | _ | _ | _ | _ | _ | _ | _ | _ | _ | i <;> first | rfl | omega
      · simp only [List.mem_cons, List.not_mem_nil, or_false] at hs
        subst hs
        exact hst
end Go.Proofs.YtijeiiiiplkfaaaDoor
namespace Go.Proofs.YtijeiiiiplkfaaaDoor
open Go.RowKit
def strC (p : ByteArray × ByteArray) : List Value := [.string (vname p)]
theorem strC_len (p : ByteArray × ByteArray) : (strC p).length = 1 := rfl
theorem map_strC (l : List (ByteArray × ByteArray)) : (l.map fun p => Value.string (vname p)) = l.flatMap strC := by
  induction l with
  | nil => rfl
  | cons a l ih => rw [List.map_cons, List.flatMap_cons, ih]; rfl
def slotZ (l : List Mo) (p : ByteArray × ByteArray) : Int := ((slotN l p : Nat) : Int)
def intC (x : Int) : List Value := [.int .i64 x]
theorem intC_len (x : Int) : (intC x).length = 1 := rfl
theorem intC_one (x : Int) : ∀ u ∈ intC x, u.oneCell' = true := by
  intro u hu
  simp only [intC, List.mem_cons, List.not_mem_nil, or_false] at hu
  subst hu; rfl
theorem info3z : (Tryd.prog.info? 3).map (fun i => (i.zero, i.size, i.bytes)) = some (some (.int .i64 0), 1, 8) := by kernel_rfl
theorem owns_keepZ {w w' : World} {base e size : Nat} {v : Value} {n : Nat} {xs : List Value} (h : w.ownsRow base e size v n xs) (hb : Below w.heap.size w w') : w'.ownsRow base e size v n xs := by
  refine ⟨h.1, ?_⟩
  rcases h.2 with h2 | ⟨g, cap, cur, e1, e2, e3, e4⟩
  · exact .inl h2
  · exact .inr ⟨g, cap, cur, e1, e2, (hb.block g (Array.getElem?_eq_some_iff.1 e3).1).trans e3, e4⟩
theorem slOneZ {W : World} {b : Nat} {x : Int} (h : W.heap[b]? = some (.cells #[.int .i64 x] 3 (0, 0))) : SlAt 1 intC (b + 1) W (some ⟨b, 0, none⟩) 1 [x] := by
  refine ⟨by simp, by unfold maxLen; omega, .inr ⟨b, 0, rfl, by omega, fun j hj i hi => ?_⟩⟩
  have hj2 : j < 1 := by simpa using hj
  obtain rfl : j = 0 := by omega
  obtain rfl : i = 0 := by omega
  rw [cellOf h]; rfl
theorem made_at {W : World} {g base : Nat} (hg : W.heap.size = g) (hb : base ≤ g) : (W.alloc (.cells #[] 58)).ownsRow base 58 5 (.slice (some ⟨g, 0, none⟩) 0 0) 0 [] := by
  subst hg
  exact World.ownsRow_made W #[] 0 hb (by unfold maxLen; omega) rfl
def sOne (b : Bool) (x : Int) : List Int := if b then [x] else []
theorem snoc_mapZ {α β : Type} (f : α → β) (l : List α) (k : Nat) (h : k < l.length) : (l.take (k + 1)).map f = (l.take k).map f ++ [f l[k]] := by
  rw [List.take_succ_eq_append_getElem h, List.map_append]; rfl
theorem slSomeZ {α : Type} {size : Nat} {cells : α → List Value} {n : Nat} {W : World} {ad : Option Addr} {cap : Nat} {l : List α} (h : SlAt size cells n W ad cap l) {k : Nat} (hk : k < l.length) : ∃ b off, ad = some ⟨b, off, none⟩ ∧ b < n ∧ RowAt size cells W b off l := by
  rcases h.2.2 with h | ⟨b, off, h1, h2, h3⟩
  · subst h; simp at hk
  · exact ⟨b, off, h1, h2, h3⟩
theorem vars_count (l : List Ex) : (varsOf l).length ≤ l.length := by
  have : ∀ (l : List Ex) S, (l.foldl vstep S).length ≤ S.length + l.length := by
    intro l
    induction l with
    | nil => intro S; simp
    | cons x l ih =>
      intro S
      rw [List.foldl_cons]
      have h1 := ih (vstep S x)
      rcases x with ⟨op, mon, name, n, ad, cap, kids, pos⟩
      by_cases hv : op = 4 ∧ (mon, name) ∉ S
      · rw [vstep_yes hv] at h1 ⊢
        simp only [List.length_append, List.length_cons, List.length_nil] at h1 ⊢
        omega
      · rw [vstep_no hv] at h1 ⊢
        simp only [List.length_cons]
        omega
  have h := this l []
  simpa [varsOf] using h
set_option maxRecDepth 100000 in
set_option maxHeartbeats 4000000 in
theorem small_many (n₀ : Nat) (p : Pr) (w : World) (hp : p.Is n₀ w) (x2 : 20 < p.roles.length) :
    Calls Tryd.prog 7 #[p.val, .int .i64 400] w fun r w' => r = .returned (.bool false) ∧ Below w.heap.size w w' := by
  rcases p with ⟨mad, mcap, mons, rad, rcap, roles⟩
  obtain ⟨⟨hM1, hM2⟩, hR1, hR2⟩ := hp
  simp only at hM1 hM2 hR1 hR2 x2
  have hl1 := hM1.1; have hl2 := hM1.2.1; have hl3 := hR1.1; have hl4 := hR1.2.1
  unfold maxLen at hl2 hl4
  simp only [Pr.val]
  by_cases x1 : 20 < mons.length
  · have x1' : (20 : Int) < (mons.length : Int) := by omega
    go_enter Tryd.func7, Tryd.ntmps7
    go_wp2
    go_ret
    exact ⟨rfl, (Below.refl _ _).al le_rfl' _⟩
  have x1' : decide ((20 : Int) < (mons.length : Int)) = false := by simp; omega
  have x2' : (20 : Int) < (roles.length : Int) := by omega
  go_enter Tryd.func7, Tryd.ntmps7
  go_wp2
  go_ret
  exact ⟨rfl, (Below.refl _ _).al le_rfl' _⟩
set_option maxRecDepth 100000 in
set_option maxHeartbeats 16000000 in
theorem namesAll_walk (p : Pr) (e : Ex) (w : World) (hS : Shapes w) (hp : p.Is w.heap.size w) (he : e.Is w.heap.size w) :
    Calls Tryd.prog 5 #[p.val, e.val] w fun r w' => r = .returned (.bool true) ∧ Below w.heap.size w w' := by
  have hs2 := hS.size
  have h7 : ∀ W, Below w.heap.size w W → Calls Tryd.prog 7 #[p.val, .int .i64 400] W fun r w' => SmallBack p W w' r := fun W hW => small_any w.heap.size p W hW.size (hp.below hW)
  have h7n : 20 < p.roles.length → ∀ W, Below w.heap.size w W → Calls Tryd.prog 7 #[p.val, .int .i64 400] W fun r w' => r = .returned (.bool false) ∧ Below W.heap.size W w' := fun h W hW => small_many w.heap.size p W (hp.below hW) h
  obtain ⟨i0, hi0, iz0, iz1, iz2⟩ := info_parts info58
  have h8 : ∀ W, Below w.heap.size w W → Calls Tryd.prog 8 #[] W fun r w' => r = .returned (.bool true) ∧ Below W.heap.size W w' := fun W hW => live_any W (hS.below hW hs2)
  have h21 : ∀ W, Below w.heap.size w W → Calls Tryd.prog 21 #[e.val, .int .i64 400] W fun r w' => r = .returned (.int .i64 (restE e 400)) ∧ Below W.heap.size W w' := fun W hW => restExpr_any w.heap.size e 400 W (by omega) (by omega) hW.size (he.below hW)
  have h22 : ∀ W, Below w.heap.size w W → Calls Tryd.prog 22 #[e.val] W fun r w' => r = .returned (.int .i64 (if e.ok then 0 else 20)) ∧ Below W.heap.size W w' := fun W hW => checkExpr_any e w.heap.size W hW.size (he.below hW) (hS.below hW hs2)
  have h11 := num_any
  obtain ⟨rs, hrs⟩ : ∃ rs, restE e 400 = rs := ⟨_, rfl⟩
  obtain ⟨ok, hok⟩ : ∃ ok, e.ok = ok := ⟨_, rfl⟩
  have HRS := hid hrs
  have HOK := hid hok
  simp only [hrs] at h21
  simp only [hok] at h22
  clear hrs hok
  have HP := hid hp
  have HE := hid he
  rcases hpp : p with ⟨mad, mcap, mons, rad, rcap, roles⟩
  rcases hee : e with ⟨op, emon, ename, en, ead, ecap, ekids, epos⟩
  have HPP := hid hpp
  have HEE := hid hee
  rw [hpp] at hp
  simp only [hpp, Pr.val] at h7 h7n ⊢
  simp only [hee, Ex.val, Ex.cells] at h21 h22 ⊢
  clear hpp hee
  obtain ⟨⟨h3, h4⟩, h5, h6⟩ := hp
  simp only at h3 h4 h5 h6
  have hl1 := h3.1; have hl2 := h3.2.1; have hl3 := h5.1; have hl4 := h5.2.1
  unfold maxLen at hl2 hl4
  go_enter Tryd.func5, Tryd.ntmps5
  go_upto_region 1 with fail
  obtain ⟨bR, bX, hB, hz⟩ := two_box w #[.slice mad mons.length mcap, .slice rad roles.length rcap] #[.int .i64 op, .string emon, .string ename, .int .i64 en, .slice ead ekids.length ecap, .int .i64 epos] 25 51
  obtain ⟨W0, hW0⟩ : ∃ W0, (w.alloc (.cells #[.slice mad mons.length mcap, .slice rad roles.length rcap] 25)).alloc (.cells #[.int .i64 op, .string emon, .string ename, .int .i64 en, .slice ead ekids.length ecap, .int .i64 epos] 51) = W0 := ⟨_, rfl⟩
  rw [hW0] at bR bX hB hz ⊢
  clear hW0
  have s0 := cellOf bR 0
  have s1 := cellOf bR 1
  have se0 := cellOf bX 0
  have se1 := cellOf bX 1
  have se2 := cellOf bX 2
  have se3 := cellOf bX 3
  have se4 := cellOf bX 4
  have se5 := cellOf bX 5
  simp at s0 s1 se0 se1 se2 se3 se4 se5
  have HZ := hid hz
  clear bR bX hz
  have HK : Hid (∀ W, Below W0.heap.size W0 W → W.cell? ⟨w.heap.size, 0, none⟩ = some (.slice mad mons.length mcap) ∧ W.cell? ⟨w.heap.size, 1, none⟩ = some (.slice rad roles.length rcap) ∧ W.cell? ⟨w.heap.size + 1, 0, none⟩ = some (.int .i64 op) ∧ W.cell? ⟨w.heap.size + 1, 1, none⟩ = some (.string emon) ∧ W.cell? ⟨w.heap.size + 1, 2, none⟩ = some (.string ename) ∧ W.cell? ⟨w.heap.size + 1, 3, none⟩ = some (.int .i64 en) ∧ W.cell? ⟨w.heap.size + 1, 4, none⟩ = some (.slice ead ekids.length ecap) ∧ W.cell? ⟨w.heap.size + 1, 5, none⟩ = some (.int .i64 epos)) := fun W hW => ⟨(hW.cell (p := ⟨w.heap.size, 0, none⟩) (by show w.heap.size < _; have := HZ.out; omega)).trans s0, (hW.cell (p := ⟨w.heap.size, 1, none⟩) (by show w.heap.size < _; have := HZ.out; omega)).trans s1, (hW.cell (p := ⟨w.heap.size + 1, 0, none⟩) (by show w.heap.size + 1 < _; have := HZ.out; omega)).trans se0, (hW.cell (p := ⟨w.heap.size + 1, 1, none⟩) (by show w.heap.size + 1 < _; have := HZ.out; omega)).trans se1, (hW.cell (p := ⟨w.heap.size + 1, 2, none⟩) (by show w.heap.size + 1 < _; have := HZ.out; omega)).trans se2, (hW.cell (p := ⟨w.heap.size + 1, 3, none⟩) (by show w.heap.size + 1 < _; have := HZ.out; omega)).trans se3, (hW.cell (p := ⟨w.heap.size + 1, 4, none⟩) (by show w.heap.size + 1 < _; have := HZ.out; omega)).trans se4, (hW.cell (p := ⟨w.heap.size + 1, 5, none⟩) (by show w.heap.size + 1 < _; have := HZ.out; omega)).trans se5⟩
  have BB := Below.refl W0.heap.size W0
  by_cases g0 : 20 < roles.length
  · have h7 := h7n g0
    go_wp2_with (first
      | (go_at_call 7; (with_reducible refine (h7 _ (hB.tr le_rfl' BB)).mono ?_); rintro r u1 ⟨rfl, bb⟩; have BB := BB.tr le_rfl' bb; obtain ⟨s0, s1, se0, se1, se2, se3, se4, se5⟩ := HK.out _ BB)
      | (go_at_call 8; (with_reducible refine (h8 _ (hB.tr le_rfl' BB)).mono ?_); rintro r u2 ⟨rfl, bb2⟩))
    go_ret
    exact ⟨rfl, (hB.tr le_rfl' BB).tr le_rfl' bb2⟩
  clear h7n
  by_cases g1 : rs < 0
  · go_upto_region 2 with (first
      | (go_at_call 7; (with_reducible refine (h7 _ (hB.tr le_rfl' BB)).mono ?_); rintro r u1 ⟨c, rfl, -, bb⟩; have BB := BB.tr le_rfl' bb; obtain ⟨s0, s1, se0, se1, se2, se3, se4, se5⟩ := HK.out _ BB; cases c)
      | (go_at_call 21; (with_reducible refine (h21 _ (hB.tr le_rfl' BB)).mono ?_); rintro r u1 ⟨rfl, bb⟩; have BB := BB.tr le_rfl' bb; obtain ⟨s0, s1, se0, se1, se2, se3, se4, se5⟩ := HK.out _ BB))
    all_goals go_wp2_with (go_at_call 8; (with_reducible refine (h8 _ (hB.tr le_rfl' BB)).mono ?_); rintro r u2 ⟨rfl, bb2⟩)
    all_goals go_ret
    all_goals exact ⟨rfl, (hB.tr le_rfl' BB).tr le_rfl' bb2⟩
  have g1' : decide (rs < 0) = false := by simp; omega
  cases ok
  · go_upto_region 2 with (first
      | (go_at_call 7; (with_reducible refine (h7 _ (hB.tr le_rfl' BB)).mono ?_); rintro r u1 ⟨c, rfl, -, bb⟩; have BB := BB.tr le_rfl' bb; obtain ⟨s0, s1, se0, se1, se2, se3, se4, se5⟩ := HK.out _ BB; cases c)
      | (go_at_call 21; (with_reducible refine (h21 _ (hB.tr le_rfl' BB)).mono ?_); rintro r u1 ⟨rfl, bb⟩; have BB := BB.tr le_rfl' bb; obtain ⟨s0, s1, se0, se1, se2, se3, se4, se5⟩ := HK.out _ BB)
      | (go_at_call 22; (with_reducible refine (h22 _ (hB.tr le_rfl' BB)).mono ?_); rintro r u1 ⟨rfl, bb⟩; have BB := BB.tr le_rfl' bb; obtain ⟨s0, s1, se0, se1, se2, se3, se4, se5⟩ := HK.out _ BB)
      | (go_at_call 11; (with_reducible refine (h11 _ _).mono ?_); rintro r w' ⟨rfl, hw'⟩; have hw2 := hw'.symm; subst hw2))
    all_goals go_wp2_with (go_at_call 8; (with_reducible refine (h8 _ (hB.tr le_rfl' BB)).mono ?_); rintro r u2 ⟨rfl, bb2⟩)
    all_goals go_ret
    all_goals exact ⟨rfl, (hB.tr le_rfl' BB).tr le_rfl' bb2⟩
  go_upto_region 3 with (first
      | (go_at_call 7; (with_reducible refine (h7 _ (hB.tr le_rfl' BB)).mono ?_); rintro r u1 ⟨c, rfl, hsm, bb⟩; have BB := BB.tr le_rfl' bb; obtain ⟨s0, s1, se0, se1, se2, se3, se4, se5⟩ := HK.out _ BB; cases c)
      | (go_at_call 21; (with_reducible refine (h21 _ (hB.tr le_rfl' BB)).mono ?_); rintro r u1 ⟨rfl, bb⟩; have BB := BB.tr le_rfl' bb; obtain ⟨s0, s1, se0, se1, se2, se3, se4, se5⟩ := HK.out _ BB)
      | (go_at_call 22; (with_reducible refine (h22 _ (hB.tr le_rfl' BB)).mono ?_); rintro r u1 ⟨rfl, bb⟩; have BB := BB.tr le_rfl' bb; obtain ⟨s0, s1, se0, se1, se2, se3, se4, se5⟩ := HK.out _ BB)
      | (go_at_call 11; (with_reducible refine (h11 _ _).mono ?_); rintro r w' ⟨rfl, hw'⟩; have hw2 := hw'.symm; subst hw2)
      | (go_at_call 8; (with_reducible refine (h8 _ (hB.tr le_rfl' BB)).mono ?_); rintro r u2 ⟨rfl, bb2⟩))
  · go_ret
    exact ⟨rfl, (hB.tr le_rfl' BB).tr le_rfl' bb2⟩
  go_upto_region 4 with fail
  obtain ⟨hm1, hm2, hm3⟩ := hsm (by trivial)
  clear hsm h7 h21 h22 hw'
  obtain ⟨bQ, hBQ, hzQ⟩ := one_box u1 #[.slice mad mons.length mcap, .slice rad roles.length rcap] 25
  have BQ := BB.tr le_rfl' hBQ
  obtain ⟨s0, s1, se0, se1, se2, se3, se4, se5⟩ := HK.out _ BQ
  obtain ⟨bq, hbq⟩ : ∃ bq, u1.heap.size = bq := ⟨_, rfl⟩
  obtain ⟨W1, hW1⟩ : ∃ W1, u1.alloc (.cells #[.slice mad mons.length mcap, .slice rad roles.length rcap] 25) = W1 := ⟨_, rfl⟩
  rw [hW1] at bQ hBQ hzQ s0 s1 se0 se1 se2 se3 se4 se5 BQ ⊢
  clear hW1
  have hz1 := BB.size
  rw [hbq] at bQ hzQ hz1 ⊢
  have HZQ := hid hzQ
  have hzq2 : bq < W1.heap.size := by omega
  clear hzQ
  have B4 : Below w.heap.size w W1 := hB.tr le_rfl' BQ
  have HK1 : Hid (∀ W, Below W1.heap.size W1 W → W.cell? ⟨w.heap.size, 0, none⟩ = some (.slice mad mons.length mcap) ∧ W.cell? ⟨w.heap.size, 1, none⟩ = some (.slice rad roles.length rcap) ∧ W.cell? ⟨w.heap.size + 1, 0, none⟩ = some (.int .i64 op) ∧ W.cell? ⟨w.heap.size + 1, 1, none⟩ = some (.string emon) ∧ W.cell? ⟨w.heap.size + 1, 2, none⟩ = some (.string ename) ∧ W.cell? ⟨w.heap.size + 1, 3, none⟩ = some (.int .i64 en) ∧ W.cell? ⟨w.heap.size + 1, 4, none⟩ = some (.slice ead ekids.length ecap) ∧ W.cell? ⟨w.heap.size + 1, 5, none⟩ = some (.int .i64 epos)) := fun W hW => HK.out W (BQ.tr le_rfl' hW)
  have B := Below.refl W1.heap.size W1
  have hown0 := World.ownsRow_made (base := W1.heap.size) (e := 58) (size := 5) W1 #[] 0 (Nat.le_refl _) (by unfold maxLen; omega) rfl
  have hbqle : bq ≤ W1.heap.size := by omega
  have q1 := cellOf bQ 1
  simp at q1
  have HWQ : Hid (w.heap.size + 2 ≤ bq) := by show _ ≤ _; have := HZ.out; have := BB.size; omega
  have HKq : Hid (∀ W, Below bq W1 W → W.cell? ⟨w.heap.size, 0, none⟩ = some (.slice mad mons.length mcap) ∧ W.cell? ⟨w.heap.size, 1, none⟩ = some (.slice rad roles.length rcap) ∧ W.cell? ⟨w.heap.size + 1, 0, none⟩ = some (.int .i64 op) ∧ W.cell? ⟨w.heap.size + 1, 1, none⟩ = some (.string emon) ∧ W.cell? ⟨w.heap.size + 1, 2, none⟩ = some (.string ename) ∧ W.cell? ⟨w.heap.size + 1, 3, none⟩ = some (.int .i64 en) ∧ W.cell? ⟨w.heap.size + 1, 4, none⟩ = some (.slice ead ekids.length ecap) ∧ W.cell? ⟨w.heap.size + 1, 5, none⟩ = some (.int .i64 epos)) := fun W hW => ⟨(hW.cell (p := ⟨w.heap.size, 0, none⟩) (by show w.heap.size < _; have := HWQ.out; omega)).trans s0, (hW.cell (p := ⟨w.heap.size, 1, none⟩) (by show w.heap.size < _; have := HWQ.out; omega)).trans s1, (hW.cell (p := ⟨w.heap.size + 1, 0, none⟩) (by show w.heap.size + 1 < _; have := HWQ.out; omega)).trans se0, (hW.cell (p := ⟨w.heap.size + 1, 1, none⟩) (by show w.heap.size + 1 < _; have := HWQ.out; omega)).trans se1, (hW.cell (p := ⟨w.heap.size + 1, 2, none⟩) (by show w.heap.size + 1 < _; have := HWQ.out; omega)).trans se2, (hW.cell (p := ⟨w.heap.size + 1, 3, none⟩) (by show w.heap.size + 1 < _; have := HWQ.out; omega)).trans se3, (hW.cell (p := ⟨w.heap.size + 1, 4, none⟩) (by show w.heap.size + 1 < _; have := HWQ.out; omega)).trans se4, (hW.cell (p := ⟨w.heap.size + 1, 5, none⟩) (by show w.heap.size + 1 < _; have := HWQ.out; omega)).trans se5⟩
  go_cut [5] (fun t wx => t = .pointer (some ⟨bq, 0, none⟩) ∧ AllAt w W1 bq (⟨mad, mcap, mons, rad, rcap, roles⟩ : Pr) (.mk op emon ename en ead ecap ekids epos) wx)
  case first =>
    go_region_held3 (fun W => W.cell? ⟨w.heap.size, 0, none⟩ = some (.slice mad mons.length mcap) ∧ W.cell? ⟨w.heap.size, 1, none⟩ = some (.slice rad roles.length rcap) ∧ W.cell? ⟨w.heap.size + 1, 0, none⟩ = some (.int .i64 op) ∧ W.cell? ⟨w.heap.size + 1, 1, none⟩ = some (.string emon) ∧ W.cell? ⟨w.heap.size + 1, 2, none⟩ = some (.string ename) ∧ W.cell? ⟨w.heap.size + 1, 3, none⟩ = some (.int .i64 en) ∧ W.cell? ⟨w.heap.size + 1, 4, none⟩ = some (.slice ead ekids.length ecap) ∧ W.cell? ⟨w.heap.size + 1, 5, none⟩ = some (.int .i64 epos)) (exact HKq.out _ (by repeat (first | exact B.mono hbqle | with_reducible refine below_drewN ?_ _ | with_reducible refine below_drewV ?_ | with_reducible refine Below.al ?_ hbqle _ | refine Below.setCell ?_ (by show bq ≤ bq; exact Nat.le_refl _) _))) (first | (refine step_append_slB (cells := Ro.cells) (by rfl) _ _ 23 (by rfl) W1.heap.size 58 i0 _ 5 64 Tryd.underlying23 hi0 iz0 iz1 iz2 rfl (by decide) Ro.len Ro.one _ [] (by rfl) ?_ rad rcap roles w.heap.size (by rfl) ?_ (by unfold maxLen; simp; omega) (by simp; omega) ?_ W1 ?_ ?_; (first | exact hown0 | exact hown0.alloc _ | exact (hown0.alloc _).alloc _ | exact ((hown0.alloc _).alloc _).alloc _ | exact made_at (by simp) (by omega) | exact (made_at (by simp) (by omega)).alloc _ | exact ((made_at (by simp) (by omega)).alloc _).alloc _); exact h5.below (B4.tr le_rfl' (by repeat (first | exact B | with_reducible refine below_drewN ?_ _ | with_reducible refine below_drewV ?_ | with_reducible refine Below.al ?_ le_rfl' _))); exact (show Below W1.heap.size W1 _ from (by repeat (first | exact B | with_reducible refine below_drewN ?_ _ | with_reducible refine below_drewV ?_ | with_reducible refine Below.al ?_ le_rfl' _))).size; exact (by repeat (first | exact B | with_reducible refine below_drewN ?_ _ | with_reducible refine below_drewV ?_ | with_reducible refine Below.al ?_ le_rfl' _)); intro v1 w1 hown1 hg1 hnn1 B; rw [List.nil_append] at hown1; have hs1 := hg1.size; (try simp at hs1); have M1 : True := trivial) | (have := M1; refine step_append_role (by rfl) _ _ (by rfl) op emon ename en ead ecap ekids epos W1.heap.size v1 roles (by rfl) ?_ ?_ (by omega) ?_ W1 ?_ ?_; (first | exact hown1 | exact hown1.alloc _ | exact (hown1.alloc _).alloc _ | exact ((hown1.alloc _).alloc _).alloc _); (apply Exists.intro; apply Exists.intro; apply Exists.intro; refine ⟨rfl, ?_, ?_, ?_⟩ <;> (repeat (first | exact heapAt9 _ (by simp) | (refine (Below.heap_alloc _ _ _ (by first | omega | (simp; done) | (simp; omega))).trans ?_) | (refine (hg1.block _ (by first | omega | (simp; done) | (simp; omega)) (fun h => absurd (Option.some.inj (show some _ = some _ from h)) (by first | omega | (simp; done) | (simp; omega)))).trans ?_)))); exact (show Below W1.heap.size W1 _ from (by repeat (first | exact B | with_reducible refine below_drewN ?_ _ | with_reducible refine below_drewV ?_ | with_reducible refine Below.al ?_ le_rfl' _))).size; exact (by repeat (first | exact B | with_reducible refine below_drewN ?_ _ | with_reducible refine below_drewV ?_ | with_reducible refine Below.al ?_ le_rfl' _)); intro b7 b5 v2 w2 hown2 g7 g5 B; obtain ⟨ad2, cp2, rfl, hsl3⟩ := slOwn2 Ro.len hown2; have t1 := (B.cell (p := ⟨bq, 1, none⟩) hzq2).trans q1; have f2 := frozen_of ((B.block bq hzq2).trans bQ) 1))
    all_goals go_wp2
    all_goals go_meet
    all_goals exact ⟨rfl, all_at (by have := HP.out; rw [HPP.out] at this; exact this) (by have := HE.out; rw [HEE.out] at this; exact this) B4 B HZQ.out (by have := HWQ.out; omega) hsl3 g7 g5 bQ⟩
  case rest =>
    obtain ⟨rfl, ⟨⟨ad2, cp2, b7, b5, hq, k0, k1⟩, hbq2, hltq⟩⟩ := hcut
    simp only at hq k0 k1
    have hwq := HWQ.out
    have hBc : Below w.heap.size w wc := B4.trans (hbq2.mono (by omega))
    obtain ⟨s0, s1, se0, se1, se2, se3, se4, se5⟩ := HKq.out _ hbq2
    have HKc : Hid (∀ W, Below wc.heap.size wc W → W.cell? ⟨bq, 0, none⟩ = some (.slice mad mons.length mcap) ∧ W.cell? ⟨bq, 1, none⟩ = some (.slice ad2 (roles.length + 1) cp2) ∧ W.cell? ⟨w.heap.size + 1, 0, none⟩ = some (.int .i64 op) ∧ W.cell? ⟨w.heap.size + 1, 1, none⟩ = some (.string emon) ∧ W.cell? ⟨w.heap.size + 1, 2, none⟩ = some (.string ename) ∧ W.cell? ⟨w.heap.size + 1, 3, none⟩ = some (.int .i64 en) ∧ W.cell? ⟨w.heap.size + 1, 4, none⟩ = some (.slice ead ekids.length ecap) ∧ W.cell? ⟨w.heap.size + 1, 5, none⟩ = some (.int .i64 epos)) := fun W hW => ⟨(hW.cell (p := ⟨bq, 0, none⟩) hltq).trans k0, (hW.cell (p := ⟨bq, 1, none⟩) hltq).trans k1, (hW.cell (p := ⟨w.heap.size + 1, 0, none⟩) (by show w.heap.size + 1 < _; omega)).trans se0, (hW.cell (p := ⟨w.heap.size + 1, 1, none⟩) (by show w.heap.size + 1 < _; omega)).trans se1, (hW.cell (p := ⟨w.heap.size + 1, 2, none⟩) (by show w.heap.size + 1 < _; omega)).trans se2, (hW.cell (p := ⟨w.heap.size + 1, 3, none⟩) (by show w.heap.size + 1 < _; omega)).trans se3, (hW.cell (p := ⟨w.heap.size + 1, 4, none⟩) (by show w.heap.size + 1 < _; omega)).trans se4, (hW.cell (p := ⟨w.heap.size + 1, 5, none⟩) (by show w.heap.size + 1 < _; omega)).trans se5⟩
    have h9q : ∀ W, Below wc.heap.size wc W → Calls Tryd.prog 9 #[(⟨mad, mcap, mons, ad2, cp2, roles ++ [roleR b7 b5 (.mk op emon ename en ead ecap ekids epos)]⟩ : Pr).val] W fun r w' => r = .returned (.tuple #[.int .i64 (⟨mad, mcap, mons, ad2, cp2, roles ++ [roleR b7 b5 (.mk op emon ename en ead ecap ekids epos)]⟩ : Pr).nchk.1, .int .i64 (⟨mad, mcap, mons, ad2, cp2, roles ++ [roleR b7 b5 (.mk op emon ename en ead ecap ekids epos)]⟩ : Pr).nchk.2]) ∧ Below W.heap.size W w' := fun W hW => namesCheck_any _ wc.heap.size W hW.size (hq.below hW) ((hS.below hBc hs2).below hW (by have := hBc.size; omega))
    have hvs : vsum mons ≤ 1000000 := vsum_small mons hm2 hm3
    have h14 : ∀ a b W, Below wc.heap.size wc W → Calls Tryd.prog 14 #[(⟨mad, mcap, mons, ad2, cp2, roles ++ [roleR b7 b5 (.mk op emon ename en ead ecap ekids epos)]⟩ : Pr).val, .string a, .string b] W fun r w' => FirstBack (slotIx mons a b) W w' r := fun a b W hW => slot_any (⟨mad, mcap, mons, ad2, cp2, roles ++ [roleR b7 b5 (.mk op emon ename en ead ecap ekids epos)]⟩ : Pr) a b wc.heap.size W hW.size (hq.below hW) hvs
    have hcnt : (Ex.mk op emon ename en ead ecap ekids epos).subs.length ≤ 1000000 := by
      have h1 := rest_count e 400 (by rw [HRS.out]; omega)
      rw [HRS.out, HEE.out] at h1
      omega
    have h23 : ∀ W, Below w.heap.size w W → Calls Tryd.prog 23 #[(Ex.mk op emon ename en ead ecap ekids epos).val] W fun r w' => ∃ v, r = .returned v ∧ w'.ownsRow W.heap.size 9 1 v (varsOf (Ex.mk op emon ename en ead ecap ekids epos).subs).length ((varsOf (Ex.mk op emon ename en ead ecap ekids epos).subs).map fun p => .string (vname p)) ∧ Below W.heap.size W w' := fun W hW => reads_any _ w.heap.size W hW.size ((by have := HE.out; rw [HEE.out] at this; exact this : (Ex.mk op emon ename en ead ecap ekids epos).Is w.heap.size w).below hW) hcnt
    have HFI : Hid ((⟨mad, mcap, mons, ad2, cp2, roles ++ [roleR b7 b5 (.mk op emon ename en ead ecap ekids epos)]⟩ : Pr).nchk.1 = 0 → (∀ x ∈ varsOf (Ex.mk op emon ename en ead ecap ekids epos).subs, ∃ i k, Finds mons x.1 x.2 i k) ∧ ∀ i j (hi : i < (varsOf (Ex.mk op emon ename en ead ecap ekids epos).subs).length) (_ : j < i), slotN mons ((varsOf (Ex.mk op emon ename en ead ecap ekids epos).subs)[j]'(by omega)) ≠ slotN mons (varsOf (Ex.mk op emon ename en ead ecap ekids epos).subs)[i]) := fun h => by
      have hun := role_unk h rfl rfl
      have hok : (Ex.mk op emon ename en ead ecap ekids epos).ok = true := by have := HOK.out; rw [HEE.out] at this; exact this
      exact ⟨fun x hx => finds_of h hun hok hx, fun i j hi hj => slots_unlike hun hok hi hj⟩
    obtain ⟨L, hL⟩ : ∃ L, varsOf (Ex.mk op emon ename en ead ecap ekids epos).subs = L := ⟨_, rfl⟩
    have hLl : L.length ≤ 1000000 := by rw [← hL]; exact Nat.le_trans (vars_count _) hcnt
    have HFI2 := hid (show _ → _ from HFI.out)
    clear HFI
    have HFI := HFI2
    clear HFI2
    subst hL
    obtain ⟨L, hL⟩ : ∃ L, varsOf (Ex.mk op emon ename en ead ecap ekids epos).subs = L := ⟨_, rfl⟩
    simp only [hL] at h23 hLl
    have HFI : Hid ((⟨mad, mcap, mons, ad2, cp2, roles ++ [roleR b7 b5 (.mk op emon ename en ead ecap ekids epos)]⟩ : Pr).nchk.1 = 0 → (∀ x ∈ L, ∃ i k, Finds mons x.1 x.2 i k) ∧ ∀ i j (hi : i < L.length) (_ : j < i), slotN mons (L[j]'(by omega)) ≠ slotN mons L[i]) := fun h => by subst hL; exact HFI.out h
    clear hL
    obtain ⟨⟨c1, c2⟩, hcc⟩ : ∃ cc, (⟨mad, mcap, mons, ad2, cp2, roles ++ [roleR b7 b5 (.mk op emon ename en ead ecap ekids epos)]⟩ : Pr).nchk = cc := ⟨_, rfl⟩
    rw [hcc] at HFI
    simp only [hcc] at h9q HFI
    simp only [Pr.val, List.length_append, List.length_cons, List.length_nil, Nat.zero_add, Ex.val, Ex.cells] at h9q h14 h23
    clear hcc hcnt hq k0 k1 s0 s1 se0 se1 se2 se3 se4 se5 hown0 q1 bQ HKq B hm1 hm2 hm3
    have C : Below wc.heap.size wc wc := Below.refl _ _
    obtain ⟨k0, k1, se0, se1, se2, se3, se4, se5⟩ := HKc.out _ C
    by_cases hc0 : c1 = 0
    case neg =>
      have hcb : (c1 != 0) = true := by rw [bne_iff_ne]; exact hc0
      clear hc0
      go_wp2_with (first
        | (go_at_call 9; (with_reducible refine (h9q _ C).mono ?_); rintro r u2 ⟨rfl, bb⟩; have C := C.tr le_rfl' bb)
        | (go_at_call 11; (with_reducible refine (h11 _ _).mono ?_); rintro r w' ⟨rfl, hw'⟩; have hw2 := hw'.symm; subst hw2)
        | (go_at_call 8; (with_reducible refine (h8 _ (hBc.tr le_rfl' C)).mono ?_); rintro r u3 ⟨rfl, bb⟩; have C := C.tr le_rfl' bb))
      go_ret
      exact ⟨rfl, hBc.tr le_rfl' C⟩
    subst hc0
    obtain ⟨hfi, hun⟩ := HFI.out rfl
    have HFD := hid hfi
    have HUN := hid hun
    clear HFI hfi hun
    obtain ⟨i3, hi3, hz3, hy3, hx3⟩ := info_parts info3z
    go_wp2_with (first
      | (go_at_call 9; (with_reducible refine (h9q _ C).mono ?_); rintro r u2 ⟨rfl, bb⟩; have C := C.tr le_rfl' bb; obtain ⟨k0, k1, se0, se1, se2, se3, se4, se5⟩ := HKc.out _ C)
      | (go_at_call 11; (with_reducible refine (h11 _ _).mono ?_); rintro r w' ⟨rfl, hw'⟩; have hw2 := hw'.symm; subst hw2)
      | (go_at_call 23; (with_reducible refine (h23 _ (hBc.tr le_rfl' C)).mono ?_); rintro r u3 ⟨v8, rfl, hown8, bb⟩; have C := C.tr le_rfl' bb; rw [map_strC] at hown8; obtain ⟨ad8, cp8, rfl, h81, h82, h83⟩ := slOwn2 strC_len hown8))
    clear h23 h9q hown8 k0 k1 se0 se1 se2 se3 se4 se5
    unfold maxLen at h82
    have hBu := hBc.tr le_rfl' C
    have hC0 := C
    have hzu := hBu.size
    go_loopw [9, 10] (fun v i wr => ∃ j : Nat, j ≤ L.length ∧ i = .int .i64 j ∧ wr.ownsRow u3.heap.size 3 1 v ((L.take j).map (slotZ mons)).length (((L.take j).map (slotZ mons)).flatMap intC) ∧ Below u3.heap.size u3 wr)
      (fun _ i _ => L.length - (intOf i).toNat)
    case atStart => exact ⟨0, by omega, rfl, World.ownsRow_nil _ _ _ _, Below.refl _ _⟩
    case round =>
      obtain ⟨j, hj, rfl, hown, hbw⟩ := hrel
      by_cases hlt : j < L.length
      case neg =>
        have hjd : decide ((j : Int) < (L.length : Int)) = false := by simp; omega
        go_wp2_with (go_at_call 8; (with_reducible refine (h8 _ (hBu.tr le_rfl' hbw)).mono ?_); rintro r u4 ⟨rfl, bb⟩)
        go_ret
        exact ⟨rfl, (hBu.tr le_rfl' hbw).tr le_rfl' bb⟩
      have hji : (j : Int) < (L.length : Int) := by omega
      obtain ⟨fi, fq, hF⟩ := HFD.out _ (List.getElem_mem hlt)
      have HF := hid hF
      have hfi := hF.hi
      clear hF
      have HSN := hid (snoc_mapZ (slotZ mons) L j hlt)
      have HUJ : Hid (∀ jj, jj < j → ∀ x, ((L.take j).map (slotZ mons))[jj]? = some x → x ≠ slotZ mons L[j]) := fun jj hjj x hx => by
        rw [List.getElem?_map, List.getElem?_take, if_pos hjj, List.getElem?_eq_getElem (by omega)] at hx
        simp only [Option.map_some, Option.some.injEq] at hx
        rw [← hx]
        intro h
        have h2 : ((slotN mons L[jj] : Nat) : Int) = ((slotN mons L[j] : Nat) : Int) := h
        exact HUN.out j jj hlt hjj (by omega)
      have hSl : ((L.take j).map (slotZ mons)).length = j := by simp; omega
      obtain ⟨XN, hXN⟩ : ∃ XN, vname L[j] = XN := ⟨_, rfl⟩
      rcases h83 with h | ⟨b8, rfl, h85, h86, h87⟩
      · rw [h] at hlt; simp at hlt
      have d8 := h87 j hlt 0 (by omega)
      have e8 : (strC L[j])[0]? = some (.string XN) := by rw [← hXN]; rfl
      rw [e8] at d8
      simp only [Nat.zero_add, Nat.mul_one, Nat.add_zero] at d8
      clear e8 h87
      obtain ⟨SJ, hSJ⟩ : ∃ SJ, slotZ mons L[j] = SJ := ⟨_, rfl⟩
      obtain ⟨S0, hS0⟩ : ∃ S0, (L.take j).map (slotZ mons) = S0 := ⟨_, rfl⟩
      have HLJ : Hid (vname L[j] = XN ∧ slotZ mons L[j] = SJ) := ⟨hXN, hSJ⟩
      rw [hS0] at hown hSl
      rw [hS0, hSJ] at HUJ
      rw [hS0, hSJ] at HSN
      clear hXN hSJ hS0
      have HSL := hid hSl
      have hSl2 : S0.length ≤ 1000000 := by omega
      clear hSl
      go_wp2
      obtain ⟨wo, hwo⟩ : ∃ wo : World, wo = wr := ⟨_, rfl⟩
      subst hwo
      go_loopw [9, 11, 12] (fun v f i wr => ∃ (mm : Nat) (fb : Bool), mm ≤ mons.length ∧ i = .int .i64 mm ∧ f = .bool fb ∧ Hid (fb = decide (fi < mm)) ∧ wr.ownsRow u3.heap.size 3 1 v (S0 ++ sOne fb SJ).length ((S0 ++ sOne fb SJ).flatMap intC) ∧ Below u3.heap.size u3 wr)
        (fun _ _ i _ => mons.length - (intOf i).toNat)
      case atStart => exact ⟨0, false, by omega, rfl, rfl, rfl, (by simpa [sOne] using hown), hbw⟩
      case round =>
        obtain ⟨mm, fb, hmm, rfl, rfl, HFB, hown2, hbm⟩ := hrel
        have hzm := hbm.size
        have hmF := hBu.tr le_rfl' hbm
        obtain ⟨k0c, k1c, -⟩ := HKc.out _ (hC0.tr le_rfl' hbm)
        by_cases hlm : mm < mons.length
        case neg =>
          have hmd : decide ((mm : Int) < (mons.length : Int)) = false := by simp; omega
          have hfb : fb = true := by rw [HFB.out]; simp; omega
          subst hfb
          go_wp2
          go_roundw
          case rel => exact ⟨j + 1, by omega, by go_num, (by rw [HSN.out]; exact hown2), hbm⟩
          case measure => simp [intOf]; omega
        have hmi : (mm : Int) < (mons.length : Int) := by omega
        obtain ⟨mb, moff, rfl, hmb, hmrow⟩ := slSomeZ h3 hlm
        have hmr := hmrow.below hBu hmb
        have hmb2 : mb < u3.heap.size := by omega
        have hIm := (h4 _ (List.getElem_mem hlm))
        obtain ⟨n0, n1, -, -, -⟩ := namesSl (n₀ := w.heap.size) hmr mm hlm
        obtain ⟨nm, hnm⟩ : ∃ nm, mons[mm].name = nm := ⟨_, rfl⟩
        obtain ⟨vars, hvars⟩ : ∃ vars, mons[mm].vars = vars := ⟨_, rfl⟩
        obtain ⟨vad, hvad⟩ : ∃ vad, mons[mm].vad = vad := ⟨_, rfl⟩
        obtain ⟨vcap, hvcap⟩ : ∃ vcap, mons[mm].vcap = vcap := ⟨_, rfl⟩
        have HMV : Hid (mons[mm].name = nm ∧ mons[mm].vars = vars) := ⟨hnm, hvars⟩
        have hnl := hIm.1.1
        have hvI := hIm.2.1
        rw [hnm] at hnl n0
        rw [hvars, hvad, hvcap] at hvI n1
        clear hnm hvars hvad hvcap hIm hmr
        have hvl1 := hvI.1.1; have hvl2 := hvI.1.2.1
        unfold maxLen at hvl2
        have HN0 := hid n0
        have HN1 := hid n1
        clear n0 n1
        go_wp2
        obtain ⟨wp, hwp⟩ : ∃ wp : World, wp = wr := ⟨_, rfl⟩
        subst hwp
        go_loopw [9, 11, 13] (fun v f i wr => ∃ (kk : Nat) (fb : Bool), kk ≤ vars.length ∧ i = .int .i64 kk ∧ f = .bool fb ∧ Hid (fb = decide (fi < mm ∨ (fi = mm ∧ fq < kk))) ∧ wr.ownsRow u3.heap.size 3 1 v (S0 ++ sOne fb SJ).length ((S0 ++ sOne fb SJ).flatMap intC) ∧ Below u3.heap.size u3 wr)
          (fun _ _ i _ => vars.length - (intOf i).toNat)
        case atStart => exact ⟨0, fb, by omega, rfl, rfl, by show _ = _; rw [HFB.out]; simp, hown2, hbm⟩
        case round =>
          obtain ⟨kk, fk, hkk, rfl, rfl, HFK, hown3, hbk⟩ := hrel
          have hzk := hbk.size
          have hkF := hBu.tr le_rfl' hbk
          obtain ⟨k0k, k1k, -⟩ := HKc.out _ (hC0.tr le_rfl' hbk)
          have n0 := (hbk.cell (p := ⟨mb, _, none⟩) hmb2).trans HN0.out
          have n1 := (hbk.cell (p := ⟨mb, _, none⟩) hmb2).trans HN1.out
          by_cases hlk : kk < vars.length
          case neg =>
            have hk0v : fi = mm → fq < vars.length := fun h => by
              have h1 := HF.out.hk
              have h2 := HMV.out.2
              subst h
              rw [h2] at h1
              exact h1
            have hkd : decide ((kk : Int) < (vars.length : Int)) = false := by simp; omega
            go_wp2
            go_roundw
            case rel => exact ⟨mm + 1, fk, by omega, by go_num, rfl, (by show _ = _; rw [HFK.out, decide_eq_decide]; constructor <;> intro h <;> omega), hown3, hbk⟩
            case measure => simp [intOf]; omega
          have hki : (kk : Int) < (vars.length : Int) := by omega
          obtain ⟨vb, voff, rfl, hvb, hvrow⟩ := slSomeZ hvI.1 hlk
          have hvr := hvrow.below hkF hvb
          have hvb2 : vb < wr.heap.size := by have := hkF.size; omega
          have d0 := hvr kk hlk 0 (by omega)
          obtain ⟨vn, hvn⟩ : ∃ vn, vars[kk].name = vn := ⟨_, rfl⟩
          have e0 : (Va.cells vars[kk])[0]? = some (.string vn) := by rw [← hvn]; rfl
          rw [e0] at d0
          simp only [Nat.add_zero] at d0
          have hvln : Len vn := by rw [← hvn]; exact (hvI.2 _ (List.getElem_mem hlk)).1
          have hnl2 := hnl
          unfold Len at hvln hnl2
          have d8k := (hbk.cell (p := ⟨b8, j, none⟩) h86).trans d8
          have HHIT : Hid (nm ++ ⟨#[46]⟩ ++ vn = XN → (mm = fi ∧ kk = fq) ∧ slotIx mons nm vn = some (slotN mons L[j])) := fun h => by
            obtain ⟨e1, e2⟩ := HMV.out
            subst e2
            have h1 : vname (mons[mm].name, mons[mm].vars[kk].name) = vname (L[j].1, L[j].2) := by
              rw [e1, hvn]; exact h.trans HLJ.out.1.symm
            obtain ⟨rfl, rfl⟩ := HF.out.only mm kk hlm hlk h1
            have h2 := HF.out.slot
            rw [e1, hvn] at h2
            exact ⟨⟨rfl, rfl⟩, h2⟩
          have HVN : Hid (mm = fi → kk = fq → nm ++ ⟨#[46]⟩ ++ vn = XN) := fun h1 h2 => by
            obtain ⟨e1, e2⟩ := HMV.out
            subst e2
            have h3 := HF.out.hit
            subst h1 h2
            rw [e1, hvn] at h3
            exact h3.trans HLJ.out.1
          clear e0 hvn
          have hzc := hC0.size
          have hzw := hkF.size
          have HK5 : Hid (∀ W, Below wr.heap.size wr W → W.cell? ⟨bq, 0, none⟩ = some (.slice (some ⟨mb, moff, none⟩) mons.length mcap) ∧ W.cell? ⟨bq, 1, none⟩ = some (.slice ad2 (roles.length + 1) cp2) ∧ W.cell? ⟨mb, moff + mm * 4, none⟩ = some (.string nm) ∧ W.cell? ⟨mb, moff + mm * 4 + 1, none⟩ = some (.slice (some ⟨vb, voff, none⟩) vars.length vcap) ∧ W.cell? ⟨vb, voff + kk * 6, none⟩ = some (.string vn)) := fun W hW => ⟨(hW.cell (p := ⟨bq, 0, none⟩) (by show bq < _; omega)).trans k0k, (hW.cell (p := ⟨bq, 1, none⟩) (by show bq < _; omega)).trans k1k, (hW.cell (p := ⟨mb, _, none⟩) (by show mb < _; omega)).trans n0, (hW.cell (p := ⟨mb, _, none⟩) (by show mb < _; omega)).trans n1, (hW.cell (p := ⟨vb, _, none⟩) hvb2).trans d0⟩
          by_cases hit : nm ++ ⟨#[46]⟩ ++ vn = XN
          case neg =>
            have hs1 := str_ne hit
            have hs2' : ((nm ++ ⟨#[46]⟩ ++ vn).toList == XN.toList) = false := by rw [beq_eq_false_iff_ne]; exact hs1
            have HNO : Hid (¬ (mm = fi ∧ kk = fq)) := fun h => hit (by
              obtain ⟨e1, e2⟩ := HMV.out
              have h3 := HVN.out h.1 h.2
              exact h3)
            clear hit
            go_upto_region 20 with fail
            go_quiet (fail)
            go_wp2
            go_roundw
            case rel => exact ⟨kk + 1, fk, by omega, by go_num, rfl, (by show _ = _; rw [HFK.out, decide_eq_decide]; have := HNO.out; constructor <;> intro h <;> omega), hown3, ⟨hbk.os, hbk.tape, hbk.output, hbk.size, hbk.block⟩⟩
            case measure => simp [intOf]; omega
          obtain ⟨⟨rfl, rfl⟩, hslt⟩ := HHIT.out hit
          have hfk : fk = false := by rw [HFK.out]; simp
          subst hfk
          have hq14 := fun W hW => FirstBack.yes (h14 nm vn W hW) hslt
          have hSJ' : ((slotN mons L[j] : Nat) : Int) = SJ := HLJ.out.2
          simp only [hSJ'] at hq14
          subst hit
          clear HHIT hslt hSJ' HFK HFB HF HFD HUN
          simp only [sOne, Bool.false_eq_true, if_false, List.append_nil] at hown3
          obtain ⟨ad9, cp9, rfl, h91, h92, h93⟩ := slOwn2 intC_len hown3
          unfold maxLen at h92
          go_upto_region 20 with fail
          go_quiet (fail)
          have D := below_drewV (Below.refl wr.heap.size wr)
          clear k0k k1k n0 n1 d0 d8k
          go_upto_region 21 with fail
          go_region_held3 (fun W => W.cell? ⟨bq, 0, none⟩ = some (.slice (some ⟨mb, moff, none⟩) mons.length mcap) ∧ W.cell? ⟨bq, 1, none⟩ = some (.slice ad2 (roles.length + 1) cp2) ∧ W.cell? ⟨mb, moff + mm * 4, none⟩ = some (.string nm) ∧ W.cell? ⟨mb, moff + mm * 4 + 1, none⟩ = some (.slice (some ⟨vb, voff, none⟩) vars.length vcap) ∧ W.cell? ⟨vb, voff + kk * 6, none⟩ = some (.string vn)) (exact HK5.out _ (by repeat (first | exact D | exact Below.refl _ _ | with_reducible refine below_drewN ?_ _ | with_reducible refine below_drewV ?_))) (first | (go_at_call 14; (with_reducible refine (hq14 _ (hC0.tr le_rfl' (hbk.tr le_rfl' (by repeat (first | exact D | exact Below.refl _ _ | with_reducible refine below_drewN ?_ _ | with_reducible refine below_drewV ?_))))).mono ?_); rintro r w1 ⟨rfl, bb⟩; have D := (show Below wr.heap.size wr _ from (by repeat (first | exact D | exact Below.refl _ _ | with_reducible refine below_drewN ?_ _ | with_reducible refine below_drewV ?_))).tr le_rfl' bb))
          have hzd := D.size
          have hown5 := owns_keepZ hown3 D
          have HS9 : Hid (∀ jj (h : jj < S0.length), ∃ b9, ad9 = some ⟨b9, 0, none⟩ ∧ b9 < w1.heap.size ∧ w1.cell? ⟨b9, jj, none⟩ = some (.int .i64 S0[jj])) := fun jj h => by
            rcases h93 with h3 | ⟨b9, rfl, h5, h6, h7⟩
            · subst h3; simp at h
            · refine ⟨b9, rfl, by omega, ?_⟩
              have h8 := h7 jj h 0 (by omega)
              refine (D.cell (p := ⟨b9, jj, none⟩) h6).trans ?_
              simpa [intC] using h8
          clear h93 HK5 hq14
          go_wp2
          obtain ⟨wz, hwz⟩ : ∃ wz : World, wz = wr := ⟨_, rfl⟩
          subst hwz
          go_loopw [16] (fun i wr => ∃ jj : Nat, jj ≤ S0.length ∧ i = .int .i64 jj ∧ wr = w1)
            (fun i _ => S0.length - (intOf i).toNat)
          case atStart => exact ⟨0, by omega, rfl, rfl⟩
          case round =>
            obtain ⟨jj, hjj, rfl, hwx⟩ := hrel
            have hw2 := hwx.symm
            subst hw2
            by_cases hlj : jj < S0.length
            · have hjji : (jj : Int) < (S0.length : Int) := by omega
              obtain ⟨b9, rfl, hb9, cj⟩ := HS9.out jj hlj
              obtain ⟨x, hx⟩ : ∃ x, S0[jj] = x := ⟨_, rfl⟩
              have hne : (x == SJ) = false := by
                rw [beq_eq_false_iff_ne, ← hx]
                exact HUJ.out jj (by have := HSL.out; omega) S0[jj] (List.getElem?_eq_getElem hlj)
              rw [hx] at cj
              clear hx
              go_wp2
              go_roundw
              case rel => exact ⟨jj + 1, by omega, by go_num, (by trivial)⟩
              case measure => simp [intOf]; omega
            · have hjd4 : decide ((jj : Int) < (S0.length : Int)) = false := by simp; omega
              have hown6 := hown5.alloc (.cells #[.int .i64 SJ] 3)
              have hsrc := slOneZ (heapNew w1 (.cells #[.int .i64 SJ] 3))
              go_wp2_with (at_builtin; refine wpList_append_sl (cells := intC) rfl _ _ 61 rfl u3.heap.size 3 i3 _ 1 8 Tryd.underlying61 hi3 hz3 hy3 hx3 rfl (by decide) intC_len intC_one _ S0 rfl hown6 (some ⟨w1.heap.size, 0, none⟩) 1 [SJ] (w1.heap.size + 1) rfl hsrc (by unfold maxLen; simp; omega) (by simp; omega) (by simp; omega) ?_; intro v' w2 hown7 hgrow _)
              go_roundw
              case rel => exact ⟨kk + 1, true, by omega, by go_num, rfl, (by show _ = _; simp), hown7, owns_grown_below ((hbk.tr le_rfl' D).al le_rfl' _) hown6 hgrow (by simp; omega)⟩
              case measure => simp [intOf]; omega
end Go.Proofs.YtijeiiiiplkfaaaDoor
