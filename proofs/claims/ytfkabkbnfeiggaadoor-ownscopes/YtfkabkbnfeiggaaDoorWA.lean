/-
  block of package own's walk: the first statement that asks for what is not owned; what stmt and block keep.
-/
import Derived.Test.YtfkabkbnfeiggaaDoorOwA
import Derived.Test.YtfkabkbnfeiggaaDoorNxB
import Derived.Deep.AppendLies
import Derived.Test.YtfkabkbnfeiggaaDoorNxE
import Derived.Shelf.Slices.CompactS
namespace Go.Proofs.YtfkabkbnfeiggaaDoor
open Go.RowKit
/-- A map from names to numbers lies in block k. -/
def PMap (W : World) (k : Nat) (pl : ByteArray → Nat) : Prop := ∃ es clock, W.heap[k]? = some (.map es clock) ∧ (∀ x ∈ es.toList, MapKept.IsKey .string x.key) ∧ (es.toList.map (·.key)).Nodup ∧ ∀ n : ByteArray, (∀ x ∈ es.toList, x.key = .string n → x.val = .int .i64 (pl n : Int)) ∧ ((∀ x ∈ es.toList, x.key ≠ .string n) → pl n = 0)
theorem PMap.lt {W : World} {k : Nat} {pl : ByteArray → Nat} (h : PMap W k pl) : k < W.heap.size := by
  obtain ⟨es, c, h, _⟩ := h; exact (Array.getElem?_eq_some_iff.1 h).1
theorem PMap.kept {W W' : World} {k : Nat} {pl : ByteArray → Nat} (h : PMap W k pl) (hb : W'.heap[k]? = W.heap[k]?) : PMap W' k pl := by
  obtain ⟨es, c, h1, h2⟩ := h; exact ⟨es, c, hb.trans h1, h2⟩
theorem PMap.new (W : World) : PMap (W.alloc (.map #[] 0)) W.heap.size (fun _ => 0) := ⟨#[], 0, (MapKept.heap_alloc W _).1, by simp, by simp, fun n => ⟨by simp, fun _ => rfl⟩⟩
theorem PMap.not_cells {W : World} {k : Nat} {pl : ByteArray → Nat} (h : PMap W k pl) {a : Array Value} {T : TypeId} {f : Nat × Nat} {j : Nat} (hj : W.heap[j]? = some (.cells a T f)) : j ≠ k := by
  obtain ⟨es, c, h1, _⟩ := h
  rintro rfl
  rw [h1] at hj; cases hj
theorem PMap.look {W : World} {k : Nat} {pl : ByteArray → Nat} (h : PMap W k pl) (n : ByteArray) : (Instr.lookup 54 (.map (some k)) (.string n) false).run Tryd.prog W = .ok (.int .i64 (pl n : Int)) W := by
  obtain ⟨es, c, hb, hks, -, h⟩ := h
  have hk : MapKept.IsKey .string (.string n) := trivial
  have hT : Tryd.prog.underlying 54 = some (.map 9 3) := Tryd.underlying54
  rcases MapKept.findNow_spec hk es.toList 0 hks with ⟨h1, h2⟩ | ⟨j, e, h1, h2, h3⟩
  · simp [Instr.lookup, run_underlying hT, MapKept.run_getObj_map hb, MapKept.run_checkKey Tryd.underlying9 hk, MapKept.run_findKey Tryd.underlying9 h1, Result.andThen, (h n).2 h2]
  · have := (h n).1 e (List.mem_of_getElem? h2) h3
    simp [Instr.lookup, run_underlying hT, MapKept.run_getObj_map hb, MapKept.run_checkKey Tryd.underlying9 hk, MapKept.run_findKey Tryd.underlying9 h1, Result.andThen, this]
theorem PMap.put {W : World} {k : Nat} {pl : ByteArray → Nat} (h : PMap W k pl) (n : ByteArray) (v : Nat) : ∃ W', (Instr.mapUpdate 54 (.map (some k)) (.string n) (.int .i64 (v : Int))).run Tryd.prog W = .ok () W' ∧ PMap W' k (fun x => if x = n then v else pl x) ∧ W.grownBy W' (some k) ∧ W'.heap.size = W.heap.size := by
  obtain ⟨es, c, hb, hks, hnd, h⟩ := h
  have hk : MapKept.IsKey .string (.string n) := trivial
  have hT : Tryd.prog.underlying 54 = some (.map 9 3) := Tryd.underlying54
  have hlt := (Array.getElem?_eq_some_iff.1 hb).1
  have hg : ∀ o, W.grownBy { W with heap := W.heap.setIfInBounds k o } (some k) := fun o => ⟨rfl, rfl, rfl, by simp, fun j _ hj => by
    show (W.heap.setIfInBounds k _)[j]? = _
    rw [Array.getElem?_setIfInBounds_ne (fun e => hj (by rw [e]))]⟩
  rcases MapKept.findNow_spec hk es.toList 0 hks with ⟨h1, h2⟩ | ⟨j, e, h1, h2, h3⟩
  · refine ⟨_, ?_, ?_, hg (.map (es.push ⟨.string n, .int .i64 (v : Int), c⟩) (c + 1)), by simp⟩
    · simp [Instr.mapUpdate, run_underlying hT, MapKept.run_getObj_map hb, MapKept.run_checkKey Tryd.underlying9 hk, MapKept.run_findKey Tryd.underlying9 h1, MapKept.run_setObj_map _ hb, Result.andThen]
    · refine ⟨es.push ⟨.string n, .int .i64 (v : Int), c⟩, c + 1, by simp [hlt], ?_, ?_, ?_⟩
      · intro x hx
        rw [Array.toList_push, List.mem_append, List.mem_singleton] at hx
        rcases hx with hx | rfl
        · exact hks x hx
        · exact hk
      · rw [Array.toList_push, List.map_append]
        exact List.nodup_append.2 ⟨hnd, by simp, fun a ha d hd => by
          obtain ⟨x, hx, rfl⟩ := List.mem_map.1 ha
          simp only [List.map_cons, List.map_nil, List.mem_singleton] at hd
          rw [hd]; exact h2 x hx⟩
      · intro m
        rw [Array.toList_push]
        constructor
        · intro x hx he
          rw [List.mem_append, List.mem_singleton] at hx
          rcases hx with hx | rfl
          · have hne : m ≠ n := by rintro rfl; exact h2 x hx he
            simp only [if_neg hne]; exact (h m).1 x hx he
          · have hne : m = n := by simpa using he.symm
            simp only [if_pos hne]
        · intro hx
          have hne : m ≠ n := by rintro rfl; exact hx ⟨.string m, .int .i64 (v : Int), c⟩ (by simp) rfl
          simp only [if_neg hne]
          exact (h m).2 fun x hx' => hx x (List.mem_append.2 (.inl hx'))
  · have hj : es[j]? = some e := by rw [← Array.getElem?_toList]; exact h2
    refine ⟨_, ?_, ?_, hg (.map (es.modify j fun e => { e with key := .string n, val := .int .i64 (v : Int) }) c), by simp⟩
    · simp [Instr.mapUpdate, run_underlying hT, MapKept.run_getObj_map hb, MapKept.run_checkKey Tryd.underlying9 hk, MapKept.run_findKey Tryd.underlying9 h1, hj, h3, MapKept.run_keyThatStays hk, MapKept.run_setObj_map _ hb, Result.andThen]
    · have hkeys : (es.modify j fun e => { e with key := Value.string n, val := Value.int .i64 (v : Int) }).toList.map (·.key) = es.toList.map (·.key) := MapKept.modify_keys j _ fun x hx => by rw [hj] at hx; cases hx; exact h3.symm
      have hmem : ∀ x ∈ (es.modify j fun e => { e with key := Value.string n, val := Value.int .i64 (v : Int) }).toList, (x.key = .string n ∧ x.val = .int .i64 (v : Int)) ∨ (x ∈ es.toList ∧ x.key ≠ .string n) := by
        intro x hx
        obtain ⟨i, hi⟩ := List.getElem?_of_mem hx
        rw [Array.toList_modify, List.getElem?_modify] at hi
        by_cases hij : j = i
        · subst hij
          rw [h2] at hi
          simp at hi
          subst hi
          exact .inl ⟨rfl, rfl⟩
        · have hi2 : es.toList[i]? = some x := by simpa [hij] using hi
          refine .inr ⟨List.mem_of_getElem? hi2, fun he => ?_⟩
          have g1 : (es.toList.map (·.key))[i]? = some (.string n) := by rw [List.getElem?_map, hi2]; simp [he]
          have g2 : (es.toList.map (·.key))[j]? = some (.string n) := by rw [List.getElem?_map, h2]; simp [h3]
          obtain ⟨k1, k2⟩ := List.getElem?_eq_some_iff.1 g1
          obtain ⟨k3, k4⟩ := List.getElem?_eq_some_iff.1 g2
          have hp := List.pairwise_iff_getElem.1 hnd
          rcases Nat.lt_or_gt_of_ne hij with hlt2 | hlt2
          · exact hp j i k3 k1 hlt2 (k4.trans k2.symm)
          · exact hp i j k1 k3 hlt2 (k2.trans k4.symm)
      have hback : ∀ m : ByteArray, (∀ x ∈ (es.modify j fun e => { e with key := Value.string n, val := Value.int .i64 (v : Int) }).toList, x.key ≠ .string m) → ∀ x ∈ es.toList, x.key ≠ .string m := by
        intro m hx y hy he
        have : Value.string m ∈ es.toList.map (·.key) := List.mem_map.2 ⟨y, hy, he⟩
        rw [← hkeys] at this
        obtain ⟨z, hz, hze⟩ := List.mem_map.1 this
        exact hx z hz hze
      refine ⟨es.modify j fun e => { e with key := .string n, val := .int .i64 (v : Int) }, c, by simp [hlt], ?_, by rw [hkeys]; exact hnd, ?_⟩
      · intro x hx
        rcases hmem x hx with ⟨g, _⟩ | ⟨g, _⟩
        · rw [g]; exact hk
        · exact hks x g
      · intro m
        constructor
        · intro x hx he
          rcases hmem x hx with ⟨g1, g2⟩ | ⟨g1, g2⟩
          · have hne : m = n := by rw [g1] at he; simpa using he.symm
            simp only [if_pos hne]; exact g2
          · have hne : m ≠ n := by rintro rfl; exact g2 he
            simp only [if_neg hne]; exact (h m).1 x g1 he
        · intro hx
          have h5 := hback m hx
          have hne : m ≠ n := by rintro rfl; exact h5 e (List.mem_of_getElem? h2) h3
          simp only [if_neg hne]
          exact (h m).2 h5
/-- Block g is the row of the walk's names. -/
def WRow (W : World) (b g : Nat) : Prop := ∃ v m, W.heap[b]? = some (.cells #[v, m] 56 (0, 0)) ∧ v.ownBlock = some g
/-- The walk lies in block b, its map in block k: the names N, the places pl. -/
structure Wk (W : World) (base b k : Nat) (N : List ByteArray) (pl : ByteArray → Nat) : Prop where
  box : ∃ v, W.heap[b]? = some (.cells #[v, .map (some k)] 56 (0, 0)) ∧ W.ownsRow base 9 1 v N.length (N.map Value.string)
  map : PMap W k pl
  lo : base ≤ b ∧ base ≤ k
theorem Wk.lt {W : World} {base b k : Nat} {N : List ByteArray} {pl : ByteArray → Nat} (h : Wk W base b k N pl) : b < W.heap.size := by
  obtain ⟨v, h, _⟩ := h.box; exact (Array.getElem?_eq_some_iff.1 h).1
theorem Wk.ne {W : World} {base b k : Nat} {N : List ByteArray} {pl : ByteArray → Nat} (h : Wk W base b k N pl) : b ≠ k := by
  obtain ⟨v, h1, _⟩ := h.box; exact h.map.not_cells h1
/-- Where the row of names lies. -/
theorem Wk.row {W : World} {base b k : Nat} {N : List ByteArray} {pl : ByteArray → Nat} (h : Wk W base b k N pl) {g : Nat} (hg : WRow W b g) : g ≠ b ∧ g ≠ k ∧ g < W.heap.size ∧ base ≤ g := by
  obtain ⟨v, h1, h2⟩ := h.box
  obtain ⟨u, m, h3, h4⟩ := hg
  rw [h1] at h3
  have h5 : v = u := by simp at h3; exact h3.1
  subst h5
  rcases h2.2 with ⟨rfl, _⟩ | ⟨g', cap, cur, rfl, hb, hgb, _⟩
  · cases h4
  · obtain rfl : g' = g := by simpa [Value.ownBlock] using h4
    refine ⟨?_, h.map.not_cells hgb, (Array.getElem?_eq_some_iff.1 hgb).1, hb⟩
    rintro rfl
    rw [h1] at hgb
    simp at hgb
/-- All stands but the walk's own; of its names the first n. -/
structure Kw (b k n : Nat) (w w' : World) : Prop where
  size : w.heap.size ≤ w'.heap.size
  oth : ∀ j, j < w.heap.size → j ≠ b → j ≠ k → ¬ WRow w b j → w'.heap[j]? = w.heap[j]? ∧ ¬ WRow w' b j
  row : ∀ g, WRow w b g → g ≠ b → g ≠ k → g < w.heap.size → ∀ i, i < n → w'.cell? ⟨g, i, none⟩ = w.cell? ⟨g, i, none⟩
theorem Kw.refl (b k n : Nat) (w : World) : Kw b k n w w := ⟨Nat.le_refl _, fun _ _ _ _ h => ⟨rfl, h⟩, fun _ _ _ _ _ _ _ => rfl⟩
theorem Kw.trans {b k n : Nat} {w u x : World} (h : Kw b k n w u) (g : Kw b k n u x) : Kw b k n w x :=
  ⟨Nat.le_trans h.size g.size, fun j h1 h2 h3 h4 => by
    obtain ⟨a, c⟩ := h.oth j h1 h2 h3 h4
    obtain ⟨d, e⟩ := g.oth j (Nat.lt_of_lt_of_le h1 h.size) h2 h3 c
    exact ⟨d.trans a, e⟩, fun r h1 h2 h3 h4 i hi => by
    have a := h.row r h1 h2 h3 h4 i hi
    have h5 := Nat.lt_of_lt_of_le h4 h.size
    by_cases hr : WRow u b r
    · exact (g.row r hr h2 h3 h5 i hi).trans a
    · exact (World.cell?_of_block (g.oth r h5 h2 h3 hr).1).trans a⟩
theorem Kw.mono {b k n m : Nat} {w u : World} (h : Kw b k n w u) (hm : m ≤ n) : Kw b k m w u := ⟨h.size, h.oth, fun g h1 h2 h3 h4 i hi => h.row g h1 h2 h3 h4 i (by omega)⟩
theorem Kw.below {b k n : Nat} {w w' : World} (hb : Below w.heap.size w w') (hlt : b < w.heap.size) : Kw b k n w w' :=
  ⟨hb.size, fun j h1 _ _ h4 => ⟨hb.block j h1, fun ⟨v, m, h5, h6⟩ => h4 ⟨v, m, (hb.block b hlt).symm.trans h5, h6⟩⟩, fun g _ _ _ h4 i _ => hb.cell (p := ⟨g, i, none⟩) h4⟩
theorem ownsRow_below {W W' : World} {base size k : Nat} {e : TypeId} {v : Value} {xs : List Value} (h : W.ownsRow base e size v k xs) (hb : Below W.heap.size W W') : W'.ownsRow base e size v k xs := by
  obtain ⟨hl, ⟨rfl, hn⟩ | ⟨g, cap, cur, rfl, hB, hh, hc, hm, hcs, hx⟩⟩ := h
  · exact ⟨hl, .inl ⟨rfl, hn⟩⟩
  · exact ⟨hl, .inr ⟨g, cap, cur, rfl, hB, (hb.block g (Array.getElem?_eq_some_iff.1 hh).1).trans hh, hc, hm, hcs, hx⟩⟩
theorem Wk.below {W W' : World} {base b k : Nat} {N : List ByteArray} {pl : ByteArray → Nat} (h : Wk W base b k N pl) (hb : Below W.heap.size W W') : Wk W' base b k N pl := by
  obtain ⟨⟨v, h1, h2⟩, h3, h4⟩ := h
  exact ⟨⟨v, (hb.block b (Array.getElem?_eq_some_iff.1 h1).1).trans h1, ownsRow_below h2 hb⟩, h3.kept (hb.block k h3.lt), h4⟩
/-- A block that is made now is nobody's row. -/
theorem Wk.fresh {W W' : World} {base b k : Nat} {N : List ByteArray} {pl : ByteArray → Nat} (h : Wk W base b k N pl) (hb : Below W.heap.size W W') {j : Nat} (hj : W.heap.size ≤ j) : j ≠ b ∧ j ≠ k ∧ ¬ WRow W' b j := by
  refine ⟨by have := h.lt; omega, by have := h.map.lt; omega, fun hr => ?_⟩
  obtain ⟨v, m, h1, h2⟩ := hr
  have := (h.row ⟨v, m, (hb.block b h.lt).symm.trans h1, h2⟩).2.2.1
  omega
/-- What lies below base is nobody's row. -/
theorem Wk.old {W : World} {base b k : Nat} {N : List ByteArray} {pl : ByteArray → Nat} (h : Wk W base b k N pl) {j : Nat} (hj : j < base) : j ≠ b ∧ j ≠ k ∧ ¬ WRow W b j :=
  ⟨by have := h.lo.1; omega, by have := h.lo.2; omega, fun hr => by have := (h.row hr).2.2.2; omega⟩
/-- A slice of names that lies at the start of its block. -/
def OwS (W : World) (b k : Nat) (O : List ByteArray) (ad : Option Addr) (cap : Nat) : Prop :=
  O.length ≤ cap ∧ cap ≤ maxLen ∧ (O = [] ∨ ∃ g, ad = some ⟨g, 0, none⟩ ∧ g < W.heap.size ∧ g ≠ b ∧ g ≠ k ∧ ∀ (i : Nat) (h : i < O.length), W.cell? ⟨g, i, none⟩ = some (.string O[i]))
theorem OwS.kw {W W' : World} {b k n : Nat} {O : List ByteArray} {ad : Option Addr} {cap : Nat} (h : OwS W b k O ad cap) (hK : Kw b k n W W') (hn : O.length ≤ n) : OwS W' b k O ad cap := by
  obtain ⟨h1, h2, h3⟩ := h
  refine ⟨h1, h2, ?_⟩
  rcases h3 with h3 | ⟨g, h4, h5, h6, h7, h8⟩
  · exact .inl h3
  · refine .inr ⟨g, h4, Nat.lt_of_lt_of_le h5 hK.size, h6, h7, fun i hi => ?_⟩
    by_cases hr : WRow W b g
    · exact (hK.row g hr h6 h7 h5 i (by omega)).trans (h8 i hi)
    · exact (World.cell?_of_block (hK.oth g h5 h6 h7 hr).1).trans (h8 i hi)
/-- What is owned is laid first, and the places tell where. -/
def Fits (O N : List ByteArray) (pl : ByteArray → Nat) : Prop := O <+: N ∧ O.Nodup ∧ ∀ (i : Nat) (h : i < O.length), pl O[i] = i
theorem Fits.own {O N : List ByteArray} {pl : ByteArray → Nat} (h : Fits O N pl) (x : ByteArray) : ownF O x = true ↔ O[pl x]? = some x := by
  rw [ownF_iff]
  constructor
  · intro hx
    obtain ⟨i, hi, rfl⟩ := List.getElem_of_mem hx
    rw [h.2.2 i hi]
    exact List.getElem?_eq_getElem hi
  · intro he
    exact List.mem_of_getElem? he
theorem Fits.pre {O O' N : List ByteArray} {pl : ByteArray → Nat} (h : Fits O' N pl) (hp : O <+: O') : Fits O N pl := by
  refine ⟨hp.trans h.1, h.2.1.sublist hp.sublist, fun i hi => ?_⟩
  have hi2 := Nat.lt_of_lt_of_le hi hp.length_le
  rw [hp.getElem hi]
  exact h.2.2 i hi2
theorem wth_pre (O : List ByteArray) (x : ByteArray) : O <+: wth O x := by
  unfold wth
  split
  · exact List.prefix_refl _
  · exact List.prefix_append _ _
theorem wths_pre (l : List ByteArray) : ∀ O : List ByteArray, O <+: wths O l := by
  induction l with
  | nil => intro O; exact List.prefix_refl _
  | cons x l ih => intro O; exact (wth_pre O x).trans (ih (wth O x))
theorem Fits.add {O : List ByteArray} {N : List ByteArray} {pl : ByteArray → Nat} (h : Fits O N pl) {x : ByteArray} (hx : ownF O x = false) : Fits (O ++ [x]) (O ++ [x]) (fun y => if y = x then O.length else pl y) := by
  have hm : x ∉ O := fun hm => by rw [ownF_iff.2 hm] at hx; cases hx
  refine ⟨List.prefix_refl _, ?_, fun i hi => ?_⟩
  · exact List.nodup_append.2 ⟨h.2.1, by simp, fun a ha c hc => by simp at hc; rintro rfl; exact hm (hc ▸ ha)⟩
  · by_cases hl : i < O.length
    · rw [List.getElem_append_left hl]
      simp only [if_neg (fun (e : O[i] = x) => hm (e ▸ List.getElem_mem hl))]
      exact h.2.2 i hl
    · have : i = O.length := by simp at hi; omega
      subst this
      simp
/-- append, and where: into the row's own room, or a new row, and the old one stands. -/
theorem append_far {P : Program} (w : World) (base : Nat) (t ty e : TypeId) (i : TypeInfo) (z : Value) (ht : P.underlying t = some (.slice e)) (hi : P.info? e = some i) (hz : i.zero = some z)
    (v : Value) (n : Nat) (xs : List Value) (hown : w.ownsRow base e i.size v n xs) (a : Addr) (m c : Nat) (news : List Value) (hl : news.length = m * i.size) (hnews : ∀ j u, news[j]? = some u → w.cell? (a.add j) = some u) (h1 : ∀ u ∈ news, u.oneCell' = true)
    (hm : 0 < m) (h63 : n + m ≤ maxLen) (hbytes : (n + m) * i.bytes ≤ 140737488355328) (v' : Value) (w' : World) (hr : (Builtin.append_ #[t, t] ty #[v, .slice (some a) m c]).run P w = .ok v' w') :
    (v'.ownBlock = v.ownBlock ∧ v.ownBlock ≠ none) ∨ (v'.ownBlock = some w.heap.size ∧ w.grownBy w' none) := by
  have hsmall : n + m ≤ 9223372036854775807 := by simp only [maxLen] at h63; omega
  have hgr : ∀ o, w.grownBy (w.drew.alloc o) none := fun o => ⟨rfl, rfl, rfl, by simp, fun k hk _ => heap_alloc_old w.drew _ hk⟩
  rcases hown.2 with ⟨rfl, rfl⟩ | ⟨g, cap, cur, rfl, hbg, hg, hnc, hcm, hcs, htake⟩
  · have h2 := run_append_nil (P := P) w t ty e i z ht hi hz a m c news hl hnews hm (by omega) (by simp only [Nat.zero_add] at hbytes; omega)
    rw [h2] at hr
    injection hr with h3 h4
    exact .inr ⟨by rw [← h3]; rfl, by rw [← h4]; exact hgr _⟩
  · by_cases hroom : n + m ≤ cap
    · have hfit : n * i.size + news.length ≤ cur.size := by rw [hl, hcs, ← Nat.add_mul]; exact Nat.mul_le_mul_right _ hroom
      have h2 := run_append_room (P := P) w t ty e i ht hi g n cap cur hg a m c news hl hnews h1 hroom hfit
      rw [h2] at hr
      injection hr with h3 h4
      exact .inl ⟨by rw [← h3]; rfl, by simp [Value.ownBlock]⟩
    · have h2 := run_append_grow (P := P) w t ty e i z ht hi hz ⟨g, 0, none⟩ n cap xs hown.1 (hown.cells (g := g) rfl) a m c news hl hnews (by omega) (by omega) (growslice_fits (by omega) hbytes)
      rw [h2] at hr
      injection hr with h3 h4
      exact .inr ⟨by rw [← h3]; rfl, by rw [← h4]; exact hgr _⟩
theorem wpList_append_far {P : Program} {w : World} {ops : Array Go.Oper} {rest : List Go.Oper} {o : Go.Oper} {a : Act} {Q : Exit → Act → World → Prop} (hgd : o.guard = none) (s x : Operand) (t : TypeId)
    (ho : o.op = .call { callee := .builtin .append, args := #[s, x], argTypes := #[t, t] })
    (base : Nat) (e : TypeId) (i : TypeInfo) (z : Value) (size bytes : Nat) (ht : P.underlying t = some (.slice e)) (hi : P.info? e = some i) (hz : i.zero = some z)
    (hsize : i.size = size) (hby : i.bytes = bytes) (hzs : z.cells.size = size) (hsz : 0 < size)
    (v : Value) (n : Nat) (xs : List Value) (hs : a.eval s = v) (hown : w.ownsRow base e size v n xs)
    (ad : Addr) (m c : Nat) (news : List Value) (hx : a.eval x = .slice (some ad) m c) (hl : news.length = m * size) (hnews : ∀ j u, news[j]? = some u → w.cell? (ad.add j) = some u) (h1 : ∀ u ∈ news, u.oneCell' = true)
    (hm : 0 < m) (h63 : n + m ≤ maxLen) (hbytes : (n + m) * bytes ≤ 140737488355328) (hbase : base ≤ w.heap.size)
    (h : ∀ g cap w', w'.ownsRow base e size (.slice (some ⟨g, 0, none⟩) (n + m) cap) (n + m) (xs ++ news) → w.grownBy w' v.ownBlock → (v.ownBlock = some g ∨ (g = w.heap.size ∧ w.grownBy w' none)) → wpList P ops Q rest (a.put o.dst (.slice (some ⟨g, 0, none⟩) (n + m) cap)) w') : wpList P ops Q (o :: rest) a w := by
  obtain ⟨v', w', hr, h2, h3, _⟩ := run_append_own (P := P) w base t o.type e i z size bytes ht hi hz hsize hby hzs hsz v n xs hown ad m c news hl hnews h1 h63 hbytes hbase
  subst hsize hby
  have h4 := append_far w base t o.type e i z ht hi hz v n xs hown ad m c news hl hnews h1 hm h63 hbytes v' w' hr
  obtain ⟨g, cap, rfl, _, _⟩ := h2.form (by omega)
  refine wpList_plain hgd fun _ hK => ?_
  unfold Go.Oper.wp execOp
  simp only [ho, resolve, invoke, builtin, Sem.run_bind, Sem.run_pure, Result.andThen_ok, List.map_toArray, List.map_cons, List.map_nil, hs, hx, hr]
  refine hK _ _ (h g cap w' h2 h3 ?_)
  rcases h4 with ⟨h4, _⟩ | ⟨h4, h5⟩
  · exact .inl (by rw [← h4]; rfl)
  · exact .inr ⟨by simpa [Value.ownBlock] using h4, h5⟩
end Go.Proofs.YtfkabkbnfeiggaaDoor
namespace Go.Proofs.YtfkabkbnfeiggaaDoor
open Go.RowKit
theorem toList_ne {a b : ByteArray} (h : a ≠ b) : a.toList ≠ b.toList := fun e => h (ByteArray.ext (by
  rw [ByteArray.toList_eq, ByteArray.toList_eq] at e
  exact Array.toList_inj.1 e))
set_option maxRecDepth 100000 in
set_option maxHeartbeats 4000000 in
theorem owns_any {w : World} {base b k : Nat} {N O : List ByteArray} {pl : ByteArray → Nat} {ad : Option Addr} {cap : Nat} (h : Wk w base b k N pl) (hO : OwS w b k O ad cap) (hf : Fits O N pl) (mon : ByteArray) :
    Calls Tryd.prog 26 #[.pointer (some ⟨b, 0, none⟩), .string mon, .slice ad O.length cap] w fun e w' => e = .returned (.bool (ownF O mon)) ∧ w' = w := by
  obtain ⟨v, hb, _⟩ := h.box
  have c1 := cellOf hb 1
  simp at c1
  have hl := h.map.look mon
  have ho := hf.own mon
  obtain ⟨i, hi⟩ : ∃ i, pl mon = i := ⟨_, rfl⟩
  rw [hi] at hl
  rw [hi] at ho
  obtain ⟨r, hr⟩ : ∃ r, ownF O mon = r := ⟨_, rfl⟩
  rw [hr] at ho ⊢
  have hO1 := hO.1; have hO2 := hO.2.1
  unfold maxLen at hO2
  clear h hf hb hr hi
  by_cases hlt : i < O.length
  · have hd : decide ((i : Int) < (O.length : Int)) = true := by simp; omega
    rcases hO.2.2 with h0 | ⟨g, rfl, hg, _, _, hcell⟩
    · subst h0; simp at hlt
    have hc := hcell i hlt
    obtain ⟨x, hx⟩ : ∃ x, O[i] = x := ⟨_, rfl⟩
    rw [hx] at hc
    have ho2 : r = true ↔ x = mon := by
      rw [ho]
      rw [List.getElem?_eq_getElem hlt, hx]; simp
    clear ho hcell hO hx
    by_cases he : x = mon
    · subst he
      have hrt : r = true := ho2.2 rfl
      subst hrt
      go_enter Tryd.func26, Tryd.ntmps26
      go_wp2
      go_ret
      exact ⟨rfl, rfl⟩
    · have hrt : r = false := by
        cases r
        · rfl
        · exact absurd (ho2.1 rfl) he
      subst hrt
      have q1 := toList_ne he
      have q2 : (x.toList == mon.toList) = false := by rw [beq_eq_false_iff_ne]; exact q1
      clear ho2
      go_enter Tryd.func26, Tryd.ntmps26
      go_wp2
      go_ret
      exact ⟨rfl, rfl⟩
  · have hd : decide ((i : Int) < (O.length : Int)) = false := by simp; omega
    have hrt : r = false := by
      cases r
      · rfl
      · have h1 := ho.1 rfl
        rw [List.getElem?_eq_none (by omega)] at h1; cases h1
    subst hrt
    clear ho hO
    go_enter Tryd.func26, Tryd.ntmps26
    go_wp2
    go_ret
    exact ⟨rfl, rfl⟩
theorem frozenOf {W : World} {B : Nat} {c : Array Value} {t : TypeId} (h : W.heap[B]? = some (.cells c t (0, 0))) (i : Nat) : W.frozen? ⟨B, i, none⟩ = false := by
  simp [World.frozen?, h]
theorem setTwo {w : World} {k : Nat} {a b : Value} {T : TypeId} (h : w.heap[k]? = some (.cells #[a, b] T (0, 0))) (x : Value) : (w.setCell ⟨k, 0, none⟩ x).heap[k]? = some (.cells #[x, b] T (0, 0)) := by
  simp [World.setCell, Array.getElem?_modify, h]
theorem infoStr : (Tryd.prog.info? 9).map (fun i => (i.zero, i.size, i.bytes)) = some (some (.string ⟨#[]⟩), 1, 16) := by kernel_rfl
/-- Names of a slice that is not the walk's. -/
def MoAt (W : World) (b k : Nat) (l : List ByteArray) (ad : Option Addr) (cap : Nat) : Prop :=
  l.length ≤ cap ∧ cap ≤ maxLen ∧ (l = [] ∨ ∃ g off, ad = some ⟨g, off, none⟩ ∧ g < W.heap.size ∧ g ≠ b ∧ g ≠ k ∧ ¬ WRow W b g ∧ ∀ (i : Nat) (h : i < l.length), W.cell? ⟨g, off + i, none⟩ = some (.string l[i]))
theorem MoAt.kw {W W' : World} {b k n : Nat} {l : List ByteArray} {ad : Option Addr} {cap : Nat} (h : MoAt W b k l ad cap) (hK : Kw b k n W W') : MoAt W' b k l ad cap := by
  obtain ⟨h1, h2, h3⟩ := h
  refine ⟨h1, h2, ?_⟩
  rcases h3 with h3 | ⟨g, off, h4, h5, h6, h7, h8, h9⟩
  · exact .inl h3
  · obtain ⟨a, c⟩ := hK.oth g h5 h6 h7 h8
    exact .inr ⟨g, off, h4, Nat.lt_of_lt_of_le h5 hK.size, h6, h7, c, fun i hi => (World.cell?_of_block a).trans (h9 i hi)⟩
theorem ownsRow_take {W : World} {base g cap : Nat} {N O : List ByteArray} (h : W.ownsRow base 9 1 (.slice (some ⟨g, 0, none⟩) N.length cap) N.length (N.map Value.string)) (hp : O <+: N) : W.ownsRow base 9 1 (.slice (some ⟨g, 0, none⟩) O.length cap) O.length (O.map Value.string) := by
  have hl := hp.length_le
  rcases h.2 with ⟨h0, _⟩ | ⟨g', cap', cur, hv, hb, hg, hn, hc, hs, ht⟩
  · cases h0
  · cases hv
    refine ⟨by simp, .inr ⟨g, cap, cur, rfl, hb, hg, by omega, hc, hs, ?_⟩⟩
    obtain ⟨t, rfl⟩ := hp
    simp only [Nat.mul_one, List.length_append, List.map_append] at ht ⊢
    have := congrArg (List.take O.length) ht
    rw [List.take_take, Nat.min_eq_left (by omega), List.take_left' (by simp)] at this
    exact this
/-- The names' cells. -/
theorem names_cell {W : World} {base g n cap : Nat} {O : List ByteArray} (h : W.ownsRow base 9 1 (.slice (some ⟨g, 0, none⟩) n cap) n (O.map Value.string)) (i : Nat) (hi : i < O.length) : W.cell? ⟨g, i, none⟩ = some (.string O[i]) := by
  have := h.cells (g := g) rfl i (.string O[i]) (by rw [List.getElem?_map, List.getElem?_eq_getElem hi]; rfl)
  cases i with
  | zero => simpa [Addr.add] using this
  | succ i => simpa [Addr.add] using this
/-- A name is laid behind those that are owned. -/
theorem Wk.add {w w1 W3 : World} {base b k g cap : Nat} {N O : List ByteArray} {pl pl' : ByteArray → Nat} {v v1 : Value} {tmp : Obj} {x : ByteArray} (h : Wk w base b k N pl) (hb : w.heap[b]? = some (.cells #[v, .map (some k)] 56 (0, 0)))
    (hv : v1.ownBlock = v.ownBlock) (hN : ∀ r, v.ownBlock = some r → ∀ i (hi : i < O.length), w.cell? ⟨r, i, none⟩ = some (.string O[i]))
    (hown : w1.ownsRow base 9 1 (.slice (some ⟨g, 0, none⟩) (O.length + 1) cap) (O.length + 1) (O.map Value.string ++ [.string x])) (hgrow : (w.alloc tmp).grownBy w1 v1.ownBlock)
    (hat : v1.ownBlock = some g ∨ (g = (w.alloc tmp).heap.size ∧ (w.alloc tmp).grownBy w1 none))
    (h3 : (w1.setCell ⟨b, 0, none⟩ (.slice (some ⟨g, 0, none⟩) (O.length + 1) cap)).grownBy W3 (some k)) (hs3 : W3.heap.size = (w1.setCell ⟨b, 0, none⟩ (.slice (some ⟨g, 0, none⟩) (O.length + 1) cap)).heap.size) (hpm : PMap W3 k pl') :
    Wk W3 base b k (O ++ [x]) pl' ∧ OwS W3 b k (O ++ [x]) (some ⟨g, 0, none⟩) (O.length + 1) ∧ Kw b k O.length w W3 ∧ Below base w W3 ∧ W3.heap[b]? = some (.cells #[.slice (some ⟨g, 0, none⟩) (O.length + 1) cap, .map (some k)] 56 (0, 0)) ∧ O.length + 1 ≤ cap ∧ cap ≤ maxLen := by
  have hbl := h.lt
  have hkl := h.map.lt
  have hbk := h.ne
  have hrow : ∀ r, v1.ownBlock = some r → WRow w b r := fun r hr => ⟨v, _, hb, by rw [← hv]; exact hr⟩
  have hnb : ∀ j, j < w.heap.size → ¬ WRow w b j → w1.heap[j]? = w.heap[j]? := fun j hj hr => (hgrow.block j (by simp; omega) (fun e => hr (hrow j e.symm))).trans (Below.heap_alloc _ _ _ hj)
  have hb1 : w1.heap[b]? = some (.cells #[v, .map (some k)] 56 (0, 0)) := (hnb b hbl (fun hr => (h.row hr).1 rfl)).trans hb
  have hk1 : w1.heap[k]? = w.heap[k]? := hnb k hkl (fun hr => (h.row hr).2.1 rfl)
  have hm1 : PMap w1 k pl := h.map.kept hk1
  have hgb := hown.form (by omega)
  obtain ⟨g', cap', hv', hgl, hgs⟩ := hgb
  cases hv'
  have hsz : w.heap.size ≤ w1.heap.size := by have := hgrow.size; simp at this; omega
  have hblk : ∃ cur, w1.heap[g]? = some (.cells cur 9 (0, 0)) := by
    rcases hown.2 with ⟨h0, _⟩ | ⟨g', cap', cur, hv, _, hg, _⟩
    · cases h0
    · cases hv; exact ⟨cur, hg⟩
  obtain ⟨cur, hcur⟩ := hblk
  have hgne : g ≠ b := by
    rintro rfl
    rw [hb1] at hcur; simp at hcur
  have hgk : g ≠ k := hm1.not_cells hcur
  have hb2 := setTwo hb1 (.slice (some ⟨g, 0, none⟩) (O.length + 1) cap)
  have hset : w1.grownBy (w1.setCell ⟨b, 0, none⟩ (.slice (some ⟨g, 0, none⟩) (O.length + 1) cap)) (some b) := ⟨rfl, rfl, rfl, by simp, fun j _ hj => Below.heap_setCell _ _ _ _ (fun e => hj (by simp [e]))⟩
  have hb3 := (h3.block b (by simp; omega) (fun e => hbk (by simpa using e))).trans hb2
  have hown2 := hown.kept hset (.inr (by simp [Value.ownBlock]; exact fun e => hgne e))
  have hown3 := hown2.kept h3 (.inr (by simp [Value.ownBlock]; exact fun e => hgk e))
  have hown4 : W3.ownsRow base 9 1 (.slice (some ⟨g, 0, none⟩) (O.length + 1) cap) (O ++ [x]).length ((O ++ [x]).map Value.string) := by
    rw [List.length_append, List.map_append]; exact hown3
  have hj3 : ∀ j, j < w1.heap.size → j ≠ b → j ≠ k → W3.heap[j]? = w1.heap[j]? := fun j hj h1 h2 => (h3.block j (by simp; omega) (fun e => h2 (by simpa using e))).trans (Below.heap_setCell _ ⟨b, 0, none⟩ _ j h1)
  have hs4 : W3.heap.size = w1.heap.size := by rw [hs3]; simp
  have hcell3 : ∀ i (hi : i < (O ++ [x]).length), W3.cell? ⟨g, i, none⟩ = some (.string (O ++ [x])[i]) := fun i hi => names_cell (n := O.length + 1) (cap := cap) (base := base) (by simpa using hown4) i hi
  refine ⟨⟨⟨_, hb3, hown4⟩, hpm, h.lo⟩, ⟨by simp, ?_, .inr ⟨g, rfl, by omega, hgne, hgk, hcell3⟩⟩, ⟨by omega, fun j hj h1 h2 hr => ⟨?_, ?_⟩, fun r hr h1 h2 h4 i hi => ?_⟩, ?_, hb3, ?_⟩
  · rcases hown.2 with ⟨h0, _⟩ | ⟨g', cap', cur, hv, _, _, hn, hc, _⟩
    · cases h0
    · omega
  · exact (hj3 j (by omega) h1 h2).trans (hnb j hj hr)
  · rintro ⟨u, m, h5, h6⟩
    rw [hb3] at h5
    have h7 : u = .slice (some ⟨g, 0, none⟩) (O.length + 1) cap := by simp at h5; exact h5.1.symm
    subst h7
    obtain rfl : g = j := by simpa [Value.ownBlock] using h6
    rcases hat with h8 | ⟨h8, _⟩
    · exact hr (hrow _ h8)
    · simp at h8; omega
  · have hvr : v.ownBlock = some r := by
      obtain ⟨u, m, h5, h6⟩ := hr
      rw [hb] at h5
      have h7 : v = u := by simp at h5; exact h5.1
      rw [h7]; exact h6
    rcases hat with h8 | ⟨_, h8⟩
    · have : r = g := by rw [← hv, h8] at hvr; simpa using hvr.symm
      subst this
      rw [hcell3 i (by simp; omega), hN r hvr i hi, List.getElem_append_left hi]
    · refine World.cell?_of_block ((hj3 r (by omega) h1 h2).trans ((h8.block r (by simp; omega) (by simp)).trans (Below.heap_alloc _ _ _ h4)))
  · have hB0 : Below base w (w.alloc tmp) := (Below.refl _ _).al (by have := h.lo.1; omega) _
    have hB1 : Below base w w1 := hB0.grown hgrow (by simp; have := h.lo.1; omega) (fun j e => (h.row (hrow j e)).2.2.2)
    have hB2 := hB1.grown hset (by have := h.lo.1; omega) (fun j e => by cases e; exact h.lo.1)
    exact hB2.grown h3 (by simp; have := h.lo.1; omega) (fun j e => by cases e; exact h.lo.2)
  · rcases hown.2 with ⟨h0, _⟩ | ⟨g', cap', cur, hv, _, _, hn, hc, _⟩
    · cases h0
    · cases hv; exact ⟨hn, hc⟩
end Go.Proofs.YtfkabkbnfeiggaaDoor
namespace Go.Proofs.YtfkabkbnfeiggaaDoor
open Go.RowKit
def WithBack (base b k : Nat) (O l : List ByteArray) (w : World) (e : Ending) (w' : World) : Prop :=
  ∃ N' pl' ad' cap', e = .returned (.slice ad' (wths O l).length cap') ∧ Wk w' base b k N' pl' ∧ OwS w' b k (wths O l) ad' cap' ∧ Fits (wths O l) N' pl' ∧ Kw b k O.length w w' ∧ Below base w w'
theorem wths_len (l : List ByteArray) : ∀ O : List ByteArray, (wths O l).length ≤ O.length + l.length := by
  induction l with
  | nil => intro O; exact Nat.le_refl _
  | cons x l ih =>
    intro O
    have h1 := ih (wth O x)
    have h2 : (wth O x).length ≤ O.length + 1 := by
      unfold wth
      split <;> simp
    show (wths (wth O x) l).length ≤ _
    simp only [List.length_cons]
    omega
set_option maxRecDepth 100000 in
set_option maxHeartbeats 8000000 in
theorem with_any {w : World} {base b k : Nat} {N O : List ByteArray} {pl : ByteArray → Nat} {ad : Option Addr} {cap : Nat} (h : Wk w base b k N pl) (hO : OwS w b k O ad cap) (hf : Fits O N pl)
    (l : List ByteArray) (mad : Option Addr) (mcap : Nat) (hm : MoAt w b k l mad mcap) (hlen : O.length + l.length ≤ 1000000) :
    Calls Tryd.prog 18 #[.pointer (some ⟨b, 0, none⟩), .slice ad O.length cap, .slice mad l.length mcap] w fun e w' => WithBack base b k O l w e w' := by
  have hl1 := hm.1; have hl2 := hm.2.1
  unfold maxLen at hl2
  go_enter Tryd.func18, Tryd.ntmps18
  go_wp2
  go_loopw [1, 12] (fun v i wr => ∃ (j : Nat) (N' : List ByteArray) (pl' : ByteArray → Nat) (ad' : Option Addr) (cap' : Nat), j ≤ l.length ∧ i = .int .i64 j ∧ v = .slice ad' (wths O (l.take j)).length cap' ∧ Wk wr base b k N' pl' ∧ OwS wr b k (wths O (l.take j)) ad' cap' ∧ Fits (wths O (l.take j)) N' pl' ∧ Kw b k O.length w wr ∧ Below base w wr)
    (fun _ i _ => l.length - (intOf i).toNat)
  case atStart => exact ⟨0, N, pl, ad, cap, by omega, rfl, rfl, h, hO, hf, Kw.refl _ _ _ _, Below.refl _ _⟩
  case round =>
    obtain ⟨j, N', pl', ad', cap', hj, rfl, rfl, hWr, hOr, hfr, hKr, hbw⟩ := hrel
    have hz1 := hbw.size
    have hwl := wths_len (l.take j) O
    have htl : (l.take j).length ≤ j := by simp; omega
    obtain ⟨P, hP⟩ : ∃ P, wths O (l.take j) = P := ⟨_, rfl⟩
    have hOP : O <+: P := by rw [← hP]; exact wths_pre _ _
    rw [hP] at hOr hfr hwl ⊢
    have hOr1 := hOr.1; have hOr2 := hOr.2.1
    unfold maxLen at hOr2
    by_cases hlt : j < l.length
    · have HS := hid (wths_snoc O l j hlt)
      rw [hP] at HS
      rcases (hm.kw hKr).2.2 with h0 | ⟨mb, moff, rfl, hml, -, -, -, hmc⟩
      · subst h0; simp at hlt
      have cm := hmc j hlt
      obtain ⟨x, hx⟩ : ∃ x, l[j] = x := ⟨_, rfl⟩
      rw [hx] at cm HS
      have hq := owns_any hWr hOr hfr x
      obtain ⟨r, hr⟩ : ∃ r, ownF P x = r := ⟨_, rfl⟩
      rw [hr] at hq
      have HR := hid hr
      clear hx hmc hr hP
      cases r
      · have hwe : wth P x = P ++ [x] := by rw [wth, if_neg (by rw [HR.out]; simp)]
        rw [hwe] at HS
        have hfa := hfr.add HR.out
        obtain ⟨v, hvb, hown⟩ := hWr.box
        have c0 := cellOf hvb 0
        simp only [List.getElem?_toArray, List.getElem?_cons_zero] at c0
        have hbl := hWr.lt
        have hlo := hWr.lo
        obtain ⟨i0, hi, hz0, hz1', hz2⟩ := info_parts infoStr
        have hcn : ∀ j u, ([.string x] : List Value)[j]? = some u → (wr.alloc (.cells #[.string x] 9)).cell? ((⟨wr.heap.size, 0, none⟩ : Addr).add j) = some u := by
          intro j u hju
          rcases j with _ | j
          · show (wr.alloc _).cell? ⟨wr.heap.size, 0 + 0, none⟩ = _
            rw [cellOf (heapNew wr _)]; simpa using hju
          · simp at hju
        have hbase0 : base ≤ wr.heap.size := by omega
        rcases hown.2 with ⟨hv0, hn0⟩ | ⟨g0, cap0, cur0, hv0, hgb0, hg0, hn0, hc0, -⟩
        · subst hv0
          have hN0 : N' = [] := List.eq_nil_of_length_eq_zero hn0
          have hP0 : P = [] := List.prefix_nil.1 (hN0 ▸ hfr.1)
          subst hP0
          have hown1 : (wr.alloc (.cells #[.string x] 9)).ownsRow base 9 1 (.slice none 0 0) 0 ([] : List Value) := World.ownsRow_nil _ _ _ _
          have HB1 : Hid (∀ w1, (wr.alloc (.cells #[.string x] 9)).grownBy w1 (Value.slice none 0 0).ownBlock → w1.heap[b]? = some (.cells #[.slice none 0 0, .map (some k)] 56 (0, 0))) := fun w1 hg => (hg.block b (by simp; omega) (by simp [Value.ownBlock])).trans ((Below.heap_alloc _ _ _ hbl).trans hvb)
          have HPM : Hid (∀ w1 g gcap, (wr.alloc (.cells #[.string x] 9)).grownBy w1 (Value.slice none 0 0).ownBlock → PMap (w1.setCell ⟨b, 0, none⟩ (.slice (some ⟨g, 0, none⟩) (0 + 1) gcap)) k pl') := fun w1 g gcap hg => hWr.map.kept ((Below.heap_setCell _ ⟨b, 0, none⟩ _ k hWr.ne.symm).trans ((hg.block k (by simp; have := hWr.map.lt; omega) (by simp [Value.ownBlock])).trans (Below.heap_alloc _ _ _ hWr.map.lt)))
          simp only [List.length_nil] at hq hOr1 ⊢
          go_upto_region 7 with (first
            | (go_at_call 26; (with_reducible refine hq.mono ?_); rintro rr ww ⟨rfl, hw'⟩; have hw2 := hw'.symm; subst hw2)
            | (at_builtin; refine wpList_append_far rfl _ _ 23 rfl base 9 i0 _ 1 16 Tryd.underlying23 hi hz0 hz1' hz2 rfl (by decide) _ _ _ rfl hown1 ⟨wr.heap.size, 0, none⟩ 1 1 [.string x] rfl rfl hcn (by simp [Value.oneCell']) (by omega) (by unfold maxLen; omega) (by omega) (by simp; omega) ?_; intro g gcap w1 hown2 hgrow hat; have hb1 := HB1.out w1 hgrow; have e0 := cellOf hb1 0; have e1 := frozenOf hb1 0; simp only [List.getElem?_toArray, List.getElem?_cons_zero] at e0))
          have f1 := cellOf (setTwo hb1 (.slice (some ⟨g, 0, none⟩) (0 + 1) gcap)) 1
          simp only [List.getElem?_toArray, List.getElem?_cons_succ, List.getElem?_cons_zero] at f1
          obtain ⟨W3, hput, hpm, hg3, hs3⟩ := (HPM.out w1 g gcap hgrow).put x 0
          have hadd := Wk.add (O := []) (x := x) (tmp := .cells #[.string x] 9) hWr hvb rfl (fun r hr i hi => by simp at hi) hown2 hgrow hat hg3 hs3 hpm
          simp only [List.length_nil] at hadd
          obtain ⟨hW4, hO4, hK4, hB4, hb4, hc4, hc5⟩ := hadd
          unfold maxLen at hc5
          have f4 := cellOf hb4 0
          simp only [List.getElem?_toArray, List.getElem?_cons_zero] at f4
          simp only [Int.natCast_zero] at hput
          go_upto_region 8 with fail
          clear f1 hput e0 e1 hb1 c0
          go_wp2
          go_roundw
          case rel => refine ⟨j + 1, _, _, _, _, by omega, by go_num, by rw [HS.out, List.length_append]; rfl, hW4, by rw [HS.out]; exact hO4, by rw [HS.out]; exact hfa, hKr.trans (hK4.mono hOP.length_le), hbw.trans hB4⟩
          case measure => simp [intOf]; omega
        · subst hv0
          have hrow0 := hWr.row (g := g0) ⟨_, _, hvb, rfl⟩
          have hpl := hfr.1.length_le
          have hpc : P.length ≤ cap0 := by omega
          unfold maxLen at hc0
          have hown0 := ownsRow_take hown hfr.1
          have hown1 : (wr.alloc (.cells #[.string x] 9)).ownsRow base 9 1 (.slice (some ⟨g0, 0, none⟩) P.length cap0) P.length (P.map Value.string) := hown0.alloc _
          have HB1 : Hid (∀ w1, (wr.alloc (.cells #[.string x] 9)).grownBy w1 (Value.slice (some ⟨g0, 0, none⟩) P.length cap0).ownBlock → w1.heap[b]? = some (.cells #[.slice (some ⟨g0, 0, none⟩) N'.length cap0, .map (some k)] 56 (0, 0))) := fun w1 hg => (hg.block b (by simp; omega) (fun e => hrow0.1 (by simpa [Value.ownBlock] using e.symm))).trans ((Below.heap_alloc _ _ _ hbl).trans hvb)
          have HPM : Hid (∀ w1 g gcap, (wr.alloc (.cells #[.string x] 9)).grownBy w1 (Value.slice (some ⟨g0, 0, none⟩) P.length cap0).ownBlock → PMap (w1.setCell ⟨b, 0, none⟩ (.slice (some ⟨g, 0, none⟩) (P.length + 1) gcap)) k pl') := fun w1 g gcap hg => hWr.map.kept ((Below.heap_setCell _ ⟨b, 0, none⟩ _ k hWr.ne.symm).trans ((hg.block k (by simp; have := hWr.map.lt; omega) (fun e => hrow0.2.1 (by simpa [Value.ownBlock] using e.symm))).trans (Below.heap_alloc _ _ _ hWr.map.lt)))
          have HC : Hid (∀ r, (Value.slice (some ⟨g0, 0, none⟩) N'.length cap0).ownBlock = some r → ∀ i (hi : i < P.length), wr.cell? ⟨r, i, none⟩ = some (.string P[i])) := fun r hr i hi => by
            obtain rfl : g0 = r := by simpa [Value.ownBlock] using hr
            exact names_cell hown0 i hi
          go_upto_region 7 with (first
            | (go_at_call 26; (with_reducible refine hq.mono ?_); rintro rr ww ⟨rfl, hw'⟩; have hw2 := hw'.symm; subst hw2)
            | (at_builtin; refine wpList_append_far rfl _ _ 23 rfl base 9 i0 _ 1 16 Tryd.underlying23 hi hz0 hz1' hz2 rfl (by decide) _ _ _ rfl hown1 ⟨wr.heap.size, 0, none⟩ 1 1 [.string x] rfl rfl hcn (by simp [Value.oneCell']) (by omega) (by unfold maxLen; omega) (by omega) (by simp; omega) ?_; intro g gcap w1 hown2 hgrow hat; have hb1 := HB1.out w1 hgrow; have e0 := cellOf hb1 0; have e1 := frozenOf hb1 0; simp only [List.getElem?_toArray, List.getElem?_cons_zero] at e0))
          have f1 := cellOf (setTwo hb1 (.slice (some ⟨g, 0, none⟩) (P.length + 1) gcap)) 1
          simp only [List.getElem?_toArray, List.getElem?_cons_succ, List.getElem?_cons_zero] at f1
          obtain ⟨W3, hput, hpm, hg3, hs3⟩ := (HPM.out w1 g gcap hgrow).put x P.length
          have hadd := Wk.add (O := P) (x := x) (tmp := .cells #[.string x] 9) hWr hvb rfl HC.out hown2 hgrow hat hg3 hs3 hpm
          obtain ⟨hW4, hO4, hK4, hB4, hb4, hc4, hc5⟩ := hadd
          unfold maxLen at hc5
          have f4 := cellOf hb4 0
          simp only [List.getElem?_toArray, List.getElem?_cons_zero] at f4
          go_upto_region 8 with fail
          clear f1 hput e0 e1 hb1 c0
          go_wp2
          go_roundw
          case rel => refine ⟨j + 1, _, _, _, _, by omega, by go_num, by rw [HS.out, List.length_append]; rfl, hW4, by rw [HS.out]; exact hO4, by rw [HS.out]; exact hfa, hKr.trans (hK4.mono hOP.length_le), hbw.trans hB4⟩
          case measure => simp [intOf]; omega
      · go_wp2_with (go_at_call 26; (with_reducible refine hq.mono ?_); rintro rr ww ⟨rfl, hw'⟩; have hw2 := hw'.symm; subst hw2)
        go_roundw
        case rel => exact ⟨j + 1, N', pl', ad', cap', by omega, by go_num, by rw [HS.out, wth, if_pos HR.out], hWr, by rw [HS.out, wth, if_pos HR.out]; exact hOr, by rw [HS.out, wth, if_pos HR.out]; exact hfr, hKr, hbw⟩
        case measure => simp [intOf]; omega
    · have hjd : decide ((j : Int) < (l.length : Int)) = false := by simp; omega
      have hje : l.take j = l := List.take_of_length_le (by omega)
      rw [hje] at hP
      have HP := hid hP
      clear hP
      go_wp2
      go_ret
      refine ⟨N', pl', ad', cap', by rw [HP.out]; rfl, hWr, by rw [HP.out]; exact hOr, by rw [HP.out]; exact hfr, hKr, hbw⟩
end Go.Proofs.YtfkabkbnfeiggaaDoor
namespace Go.Proofs.YtfkabkbnfeiggaaDoor
open Go.RowKit
theorem Ex.fvL_drop (g : ByteArray → Bool) (l : List Ex) (j : Nat) (h : j < l.length) : Ex.fvL g (l.drop j) = match l[j].fv g with
    | some k => some k
    | .none => Ex.fvL g (l.drop (j + 1)) := by
  rw [List.drop_eq_getElem_cons h, Ex.fvL]
  cases l[j].fv g <;> rfl
theorem Ex.fvL_end (g : ByteArray → Bool) (l : List Ex) (j : Nat) (h : l.length ≤ j) : Ex.fvL g (l.drop j) = Option.none := by
  rw [List.drop_of_length_le h, Ex.fvL]
/-- What is told of the first variable: its place, or that there is none. -/
def FvBack (o : Option Int) (w w' : World) (r : Ending) : Prop := ((o = none ∧ r = .returned (.tuple #[.int .i64 0, .bool false])) ∨ (∃ a, o = some a ∧ r = .returned (.tuple #[.int .i64 a, .bool true]))) ∧ Below w.heap.size w w'
theorem FvBack.no {f : FuncId} {args : Array Value} {o : Option Int} {w : World} (h : Calls Tryd.prog f args w fun r w' => FvBack o w w' r) (ho : o = none) : Calls Tryd.prog f args w fun r w' => r = .returned (.tuple #[.int .i64 0, .bool false]) ∧ Below w.heap.size w w' :=
  h.mono fun r w' hh => by
    rcases hh.1 with ⟨_, h2⟩ | ⟨a, h1, _⟩
    · exact ⟨h2, hh.2⟩
    · rw [ho] at h1; cases h1
theorem FvBack.yes {f : FuncId} {args : Array Value} {o : Option Int} {w : World} (h : Calls Tryd.prog f args w fun r w' => FvBack o w w' r) {a : Int} (ho : o = some a) : Calls Tryd.prog f args w fun r w' => r = .returned (.tuple #[.int .i64 a, .bool true]) ∧ Below w.heap.size w w' :=
  h.mono fun r w' hh => by
    rcases hh.1 with ⟨h1, _⟩ | ⟨a', h1, h2⟩
    · rw [ho] at h1; cases h1
    · rw [ho] at h1; cases h1; exact ⟨h2, hh.2⟩
theorem fvBack_no {o : Option Int} {w w' : World} (ho : o = none) (hb : Below w.heap.size w w') : FvBack o w w' (.returned (.tuple #[.int .i64 0, .bool false])) := ⟨.inl ⟨ho, rfl⟩, hb⟩
theorem fvBack_yes {o : Option Int} {w w' : World} {a : Int} (ho : o = some a) (hb : Below w.heap.size w w') : FvBack o w w' (.returned (.tuple #[.int .i64 a, .bool true])) := ⟨.inr ⟨a, ho, rfl⟩, hb⟩
/-- What isForeign sees: the walk, and what is owned, each in its box. -/
structure Fgn (w : World) (base b k bw bo : Nat) (O : List ByteArray) (ad : Option Addr) (cap : Nat) : Prop where
  wk : ∃ N pl, Wk w base b k N pl ∧ Fits O N pl
  ow : OwS w b k O ad cap
  bw : w.heap[bw]? = some (.cells #[.pointer (some ⟨b, 0, none⟩)] 74 (0, 0))
  bo : w.heap[bo]? = some (.cells #[.slice ad O.length cap] 23 (0, 0))
theorem Fgn.below {w w' : World} {base b k bw bo : Nat} {O : List ByteArray} {ad : Option Addr} {cap : Nat} (h : Fgn w base b k bw bo O ad cap) (hb : Below w.heap.size w w') : Fgn w' base b k bw bo O ad cap := by
  obtain ⟨⟨N, pl, h1, h2⟩, h3, h4, h5⟩ := h
  exact ⟨⟨N, pl, h1.below hb, h2⟩, h3.kw (Kw.below hb h1.lt) (Nat.le_refl _), (hb.block bw (Array.getElem?_eq_some_iff.1 h4).1).trans h4, (hb.block bo (Array.getElem?_eq_some_iff.1 h5).1).trans h5⟩
set_option maxRecDepth 100000 in
set_option maxHeartbeats 4000000 in
theorem foreign_any {w : World} {base b k bw bo : Nat} {O : List ByteArray} {ad : Option Addr} {cap : Nat} (h : Fgn w base b k bw bo O ad cap) (mon : ByteArray) :
    Calls Tryd.prog 38 #[.string mon, .pointer (some ⟨bw, 0, none⟩), .pointer (some ⟨bo, 0, none⟩)] w fun e w' => e = .returned (.bool (!ownF O mon)) ∧ Below w.heap.size w w' := by
  obtain ⟨⟨N, pl, h1, h2⟩, h3, h4, h5⟩ := h
  have hq := owns_any h1 h3 h2 mon
  have c0 := cellOf h4 0
  have c1 := cellOf h5 0
  simp at c0 c1
  obtain ⟨r, hr⟩ : ∃ r, ownF O mon = r := ⟨_, rfl⟩
  rw [hr] at hq ⊢
  clear hr h1 h2 h3 h4 h5
  go_enter Tryd.func38, Tryd.ntmps38
  go_wp2_with (go_at_call 26; (with_reducible refine hq.mono ?_); rintro rr ww ⟨rfl, hw'⟩; have hw2 := hw'.symm; subst hw2)
  go_ret
  exact ⟨rfl, Below.refl _ _⟩
set_option maxRecDepth 100000 in
set_option maxHeartbeats 4000000 in
theorem needs_any (kind : Int) (w : World) : Calls Tryd.prog 39 #[.int .i64 kind] w fun e w' => e = .returned (.bool (needs kind)) ∧ w' = w := by
  by_cases e2 : kind = 2
  · subst e2
    go_enter Tryd.func39, Tryd.ntmps39
    go_wp2
    go_ret
    exact ⟨rfl, rfl⟩
  have q2 : (kind == 2) = false := by rw [beq_eq_false_iff_ne]; exact e2
  by_cases e9 : kind = 9
  · subst e9
    go_enter Tryd.func39, Tryd.ntmps39
    go_wp2
    go_ret
    exact ⟨rfl, rfl⟩
  have q9 : (kind == 9) = false := by rw [beq_eq_false_iff_ne]; exact e9
  by_cases e10 : kind = 10
  · subst e10
    go_enter Tryd.func39, Tryd.ntmps39
    go_wp2
    go_ret
    exact ⟨rfl, rfl⟩
  have q10 : (kind == 10) = false := by rw [beq_eq_false_iff_ne]; exact e10
  by_cases e11 : kind = 11
  · subst e11
    go_enter Tryd.func39, Tryd.ntmps39
    go_wp2
    go_ret
    exact ⟨rfl, rfl⟩
  have q11 : (kind == 11) = false := by rw [beq_eq_false_iff_ne]; exact e11
  have HK : Hid (needs kind = false) := by
    show _ = _
    rw [needs, q2, q9, q10, q11]; rfl
  clear e2 e9 e10 e11
  go_enter Tryd.func39, Tryd.ntmps39
  go_wp2
  go_ret
  exact ⟨by rw [HK.out]; rfl, rfl⟩
set_option maxRecDepth 100000 in
set_option maxHeartbeats 4000000 in
theorem firstVar_38 {bw bo : Nat} (g : ByteArray → Bool) (C : World → Prop) (hC : ∀ w w', C w → Below w.heap.size w w' → C w') (hF : ∀ mon w, C w → Calls Tryd.prog 38 #[.string mon, .pointer (some ⟨bw, 0, none⟩), .pointer (some ⟨bo, 0, none⟩)] w fun r w' => r = .returned (.bool (g mon)) ∧ Below w.heap.size w w') (e : Ex) :
    ∀ (n₀ : Nat) (w : World), n₀ ≤ w.heap.size → e.Is n₀ w → C w → Calls Tryd.prog 40 #[e.val, .func (.func 38) #[] #[.pointer (some ⟨bw, 0, none⟩), .pointer (some ⟨bo, 0, none⟩)]] w fun r w' => FvBack (e.fv g) w w' r := by
  induction e using Ex.ind with
  | h op mon name n ad cap kids pos ih =>
  intro n₀ w hn hI hCw
  have HU := hid (Ex.fv_mk g op mon name n ad cap kids pos)
  have hIk := hI.down.2.2
  have hsl := hI.down.2.1
  have hl1 := hsl.1; have hl2 := hsl.2.1
  unfold maxLen at hl2
  simp only [Ex.val, Ex.cells]
  go_enter Tryd.func40, Tryd.ntmps40
  go_upto_region 1 with fail
  obtain ⟨bX, hB, hz⟩ := one_box w #[.int .i64 op, .string mon, .string name, .int .i64 n, .slice ad kids.length cap, .int .i64 pos] 37
  obtain ⟨W0, hW0⟩ : ∃ W0, w.alloc (.cells #[.int .i64 op, .string mon, .string name, .int .i64 n, .slice ad kids.length cap, .int .i64 pos] 37) = W0 := ⟨_, rfl⟩
  rw [hW0] at bX hB hz ⊢
  clear hW0
  have hC0 := hC _ _ hCw hB
  have hV := hF mon W0 hC0
  obtain ⟨rv, hrv⟩ : ∃ rv, g mon = rv := ⟨_, rfl⟩
  rw [hrv] at hV HU
  have s0 := cellOf bX 0
  have s1 := cellOf bX 1
  have s4 := cellOf bX 4
  have s5 := cellOf bX 5
  simp at s0 s1 s4 s5
  have HZ := hid hz
  clear hrv hz bX hCw
  by_cases h4 : op = 4
  · subst h4
    cases rv
    · rw [if_neg (by simp)] at HU
      go_wp2_with (go_at_call 38; (with_reducible refine hV.mono ?_); rintro r w1 ⟨rfl, bb1⟩; have t4 := (bb1.cell (p := ⟨w.heap.size, 4, none⟩) (by show w.heap.size < _; have := HZ.out; omega)).trans s4)
      go_loopw [24] (fun i wr => ∃ j : Nat, j ≤ kids.length ∧ i = .int .i64 j ∧ Hid (Ex.fvL g kids = Ex.fvL g (kids.drop j)) ∧ Below W0.heap.size W0 wr)
        (fun i _ => kids.length - (intOf i).toNat)
      case atStart => exact ⟨0, by omega, rfl, rfl, bb1⟩
      case round =>
        obtain ⟨j, hj, rfl, HQ, hbw⟩ := hrel
        have hz1 := hbw.size
        have hz0 := HZ.out
        have hbF : Below w.heap.size w wr := hB.trans (hbw.mono (by omega))
        have hb0 : Below n₀ w wr := hbF.mono hn
        by_cases hlt : j < kids.length
        · rcases hsl.2.2 with h | ⟨kb, koff, rfl, hbn, hrow⟩
          · subst h; simp at hlt
          have hbn2 : kb < wr.heap.size := by omega
          have HD := hid (Ex.fvL_drop g kids j hlt)
          have hrj := hrow.below hb0 hbn
          have hq := ih _ (List.getElem_mem hlt) n₀ (wr.alloc (.cells (kids[j]).cells.toArray 37)) (by simp; omega) ((hIk _ (List.getElem_mem hlt)).below (hb0.al hn _)) (hC _ _ (hC _ _ hC0 hbw) ((Below.refl _ wr).al le_rfl' _))
          obtain ⟨u, hu⟩ : ∃ u, kids[j].fv g = u := ⟨_, rfl⟩
          rw [hu] at hq HD
          clear hu
          rcases he' : kids[j] with ⟨op', mon', name', n', ad', cp', kids', pos'⟩
          obtain ⟨c0, c1, c2, c3, c4, c5⟩ := row6 hrj j hlt (by rw [he']; rfl)
          simp only [he', Ex.val, Ex.cells] at hq
          clear he' ih hC0 hF hC
          rcases u with _ | a
          · have hq := FvBack.no hq rfl
            go_wp2_with (go_at_call 40; (with_reducible refine hq.mono ?_); rintro r w1 ⟨rfl, hb1⟩)
            go_roundw
            case rel => exact ⟨j + 1, by omega, by go_num, by show _ = _; rw [HQ.out, HD.out], (hbw.al le_rfl' _).tr le_rfl' hb1⟩
            case measure => simp [intOf]; omega
          · have hq := FvBack.yes hq rfl
            go_wp2_with (go_at_call 40; (with_reducible refine hq.mono ?_); rintro r w1 ⟨rfl, hb1⟩)
            go_ret2
            exact fvBack_yes (by rw [HU.out, HQ.out, HD.out]) ((hbF.al le_rfl' _).tr le_rfl' hb1)
        · have hjd : decide ((j : Int) < (kids.length : Int)) = false := by simp; omega
          go_wp2
          go_ret2
          exact fvBack_no (by rw [HU.out, HQ.out, Ex.fvL_end _ _ _ (by omega)]) hbF
    · rw [if_pos ⟨rfl, rfl⟩] at HU
      go_wp2_with (go_at_call 38; (with_reducible refine hV.mono ?_); rintro r w1 ⟨rfl, bb1⟩; have t5 := (bb1.cell (p := ⟨w.heap.size, 5, none⟩) (by show w.heap.size < _; have := HZ.out; omega)).trans s5)
      go_ret2
      exact fvBack_yes HU.out (hB.tr le_rfl' bb1)
  · have h4b : (op == 4) = false := by rw [beq_eq_false_iff_ne]; exact h4
    rw [if_neg (fun h => h4 h.1)] at HU
    clear h4 hV
    go_wp2
    go_loopw [24] (fun i wr => ∃ j : Nat, j ≤ kids.length ∧ i = .int .i64 j ∧ Hid (Ex.fvL g kids = Ex.fvL g (kids.drop j)) ∧ Below W0.heap.size W0 wr)
      (fun i _ => kids.length - (intOf i).toNat)
    case atStart => exact ⟨0, by omega, rfl, rfl, Below.refl _ _⟩
    case round =>
      obtain ⟨j, hj, rfl, HQ, hbw⟩ := hrel
      have hz1 := hbw.size
      have hz0 := HZ.out
      have hbF : Below w.heap.size w wr := hB.trans (hbw.mono (by omega))
      have hb0 : Below n₀ w wr := hbF.mono hn
      by_cases hlt : j < kids.length
      · rcases hsl.2.2 with h | ⟨kb, koff, rfl, hbn, hrow⟩
        · subst h; simp at hlt
        have hbn2 : kb < wr.heap.size := by omega
        have HD := hid (Ex.fvL_drop g kids j hlt)
        have hrj := hrow.below hb0 hbn
        have hq := ih _ (List.getElem_mem hlt) n₀ (wr.alloc (.cells (kids[j]).cells.toArray 37)) (by simp; omega) ((hIk _ (List.getElem_mem hlt)).below (hb0.al hn _)) (hC _ _ (hC _ _ hC0 hbw) ((Below.refl _ wr).al le_rfl' _))
        obtain ⟨u, hu⟩ : ∃ u, kids[j].fv g = u := ⟨_, rfl⟩
        rw [hu] at hq HD
        clear hu
        rcases he' : kids[j] with ⟨op', mon', name', n', ad', cp', kids', pos'⟩
        obtain ⟨c0, c1, c2, c3, c4, c5⟩ := row6 hrj j hlt (by rw [he']; rfl)
        simp only [he', Ex.val, Ex.cells] at hq
        clear he' ih hC0 hF hC
        rcases u with _ | a
        · have hq := FvBack.no hq rfl
          go_wp2_with (go_at_call 40; (with_reducible refine hq.mono ?_); rintro r w1 ⟨rfl, hb1⟩)
          go_roundw
          case rel => exact ⟨j + 1, by omega, by go_num, by show _ = _; rw [HQ.out, HD.out], (hbw.al le_rfl' _).tr le_rfl' hb1⟩
          case measure => simp [intOf]; omega
        · have hq := FvBack.yes hq rfl
          go_wp2_with (go_at_call 40; (with_reducible refine hq.mono ?_); rintro r w1 ⟨rfl, hb1⟩)
          go_ret2
          exact fvBack_yes (by rw [HU.out, HQ.out, HD.out]) ((hbF.al le_rfl' _).tr le_rfl' hb1)
      · have hjd : decide ((j : Int) < (kids.length : Int)) = false := by simp; omega
        go_wp2
        go_ret2
        exact fvBack_no (by rw [HU.out, HQ.out, Ex.fvL_end _ _ _ (by omega)]) hbF
set_option maxRecDepth 100000 in
set_option maxHeartbeats 4000000 in
theorem firstVar_56 {bm : Nat} (g : ByteArray → Bool) (C : World → Prop) (hC : ∀ w w', C w → Below w.heap.size w w' → C w') (hF : ∀ mon w, C w → Calls Tryd.prog 56 #[.string mon, .pointer (some ⟨bm, 0, none⟩)] w fun r w' => r = .returned (.bool (g mon)) ∧ Below w.heap.size w w') (e : Ex) :
    ∀ (n₀ : Nat) (w : World), n₀ ≤ w.heap.size → e.Is n₀ w → C w → Calls Tryd.prog 40 #[e.val, .func (.func 56) #[] #[.pointer (some ⟨bm, 0, none⟩)]] w fun r w' => FvBack (e.fv g) w w' r := by
  induction e using Ex.ind with
  | h op mon name n ad cap kids pos ih =>
  intro n₀ w hn hI hCw
  have HU := hid (Ex.fv_mk g op mon name n ad cap kids pos)
  have hIk := hI.down.2.2
  have hsl := hI.down.2.1
  have hl1 := hsl.1; have hl2 := hsl.2.1
  unfold maxLen at hl2
  simp only [Ex.val, Ex.cells]
  go_enter Tryd.func40, Tryd.ntmps40
  go_upto_region 1 with fail
  obtain ⟨bX, hB, hz⟩ := one_box w #[.int .i64 op, .string mon, .string name, .int .i64 n, .slice ad kids.length cap, .int .i64 pos] 37
  obtain ⟨W0, hW0⟩ : ∃ W0, w.alloc (.cells #[.int .i64 op, .string mon, .string name, .int .i64 n, .slice ad kids.length cap, .int .i64 pos] 37) = W0 := ⟨_, rfl⟩
  rw [hW0] at bX hB hz ⊢
  clear hW0
  have hC0 := hC _ _ hCw hB
  have hV := hF mon W0 hC0
  obtain ⟨rv, hrv⟩ : ∃ rv, g mon = rv := ⟨_, rfl⟩
  rw [hrv] at hV HU
  have s0 := cellOf bX 0
  have s1 := cellOf bX 1
  have s4 := cellOf bX 4
  have s5 := cellOf bX 5
  simp at s0 s1 s4 s5
  have HZ := hid hz
  clear hrv hz bX hCw
  by_cases h4 : op = 4
  · subst h4
    cases rv
    · rw [if_neg (by simp)] at HU
      go_wp2_with (go_at_call 56; (with_reducible refine hV.mono ?_); rintro r w1 ⟨rfl, bb1⟩; have t4 := (bb1.cell (p := ⟨w.heap.size, 4, none⟩) (by show w.heap.size < _; have := HZ.out; omega)).trans s4)
      go_loopw [24] (fun i wr => ∃ j : Nat, j ≤ kids.length ∧ i = .int .i64 j ∧ Hid (Ex.fvL g kids = Ex.fvL g (kids.drop j)) ∧ Below W0.heap.size W0 wr)
        (fun i _ => kids.length - (intOf i).toNat)
      case atStart => exact ⟨0, by omega, rfl, rfl, bb1⟩
      case round =>
        obtain ⟨j, hj, rfl, HQ, hbw⟩ := hrel
        have hz1 := hbw.size
        have hz0 := HZ.out
        have hbF : Below w.heap.size w wr := hB.trans (hbw.mono (by omega))
        have hb0 : Below n₀ w wr := hbF.mono hn
        by_cases hlt : j < kids.length
        · rcases hsl.2.2 with h | ⟨kb, koff, rfl, hbn, hrow⟩
          · subst h; simp at hlt
          have hbn2 : kb < wr.heap.size := by omega
          have HD := hid (Ex.fvL_drop g kids j hlt)
          have hrj := hrow.below hb0 hbn
          have hq := ih _ (List.getElem_mem hlt) n₀ (wr.alloc (.cells (kids[j]).cells.toArray 37)) (by simp; omega) ((hIk _ (List.getElem_mem hlt)).below (hb0.al hn _)) (hC _ _ (hC _ _ hC0 hbw) ((Below.refl _ wr).al le_rfl' _))
          obtain ⟨u, hu⟩ : ∃ u, kids[j].fv g = u := ⟨_, rfl⟩
          rw [hu] at hq HD
          clear hu
          rcases he' : kids[j] with ⟨op', mon', name', n', ad', cp', kids', pos'⟩
          obtain ⟨c0, c1, c2, c3, c4, c5⟩ := row6 hrj j hlt (by rw [he']; rfl)
          simp only [he', Ex.val, Ex.cells] at hq
          clear he' ih hC0 hF hC
          rcases u with _ | a
          · have hq := FvBack.no hq rfl
            go_wp2_with (go_at_call 40; (with_reducible refine hq.mono ?_); rintro r w1 ⟨rfl, hb1⟩)
            go_roundw
            case rel => exact ⟨j + 1, by omega, by go_num, by show _ = _; rw [HQ.out, HD.out], (hbw.al le_rfl' _).tr le_rfl' hb1⟩
            case measure => simp [intOf]; omega
          · have hq := FvBack.yes hq rfl
            go_wp2_with (go_at_call 40; (with_reducible refine hq.mono ?_); rintro r w1 ⟨rfl, hb1⟩)
            go_ret2
            exact fvBack_yes (by rw [HU.out, HQ.out, HD.out]) ((hbF.al le_rfl' _).tr le_rfl' hb1)
        · have hjd : decide ((j : Int) < (kids.length : Int)) = false := by simp; omega
          go_wp2
          go_ret2
          exact fvBack_no (by rw [HU.out, HQ.out, Ex.fvL_end _ _ _ (by omega)]) hbF
    · rw [if_pos ⟨rfl, rfl⟩] at HU
      go_wp2_with (go_at_call 56; (with_reducible refine hV.mono ?_); rintro r w1 ⟨rfl, bb1⟩; have t5 := (bb1.cell (p := ⟨w.heap.size, 5, none⟩) (by show w.heap.size < _; have := HZ.out; omega)).trans s5)
      go_ret2
      exact fvBack_yes HU.out (hB.tr le_rfl' bb1)
  · have h4b : (op == 4) = false := by rw [beq_eq_false_iff_ne]; exact h4
    rw [if_neg (fun h => h4 h.1)] at HU
    clear h4 hV
    go_wp2
    go_loopw [24] (fun i wr => ∃ j : Nat, j ≤ kids.length ∧ i = .int .i64 j ∧ Hid (Ex.fvL g kids = Ex.fvL g (kids.drop j)) ∧ Below W0.heap.size W0 wr)
      (fun i _ => kids.length - (intOf i).toNat)
    case atStart => exact ⟨0, by omega, rfl, rfl, Below.refl _ _⟩
    case round =>
      obtain ⟨j, hj, rfl, HQ, hbw⟩ := hrel
      have hz1 := hbw.size
      have hz0 := HZ.out
      have hbF : Below w.heap.size w wr := hB.trans (hbw.mono (by omega))
      have hb0 : Below n₀ w wr := hbF.mono hn
      by_cases hlt : j < kids.length
      · rcases hsl.2.2 with h | ⟨kb, koff, rfl, hbn, hrow⟩
        · subst h; simp at hlt
        have hbn2 : kb < wr.heap.size := by omega
        have HD := hid (Ex.fvL_drop g kids j hlt)
        have hrj := hrow.below hb0 hbn
        have hq := ih _ (List.getElem_mem hlt) n₀ (wr.alloc (.cells (kids[j]).cells.toArray 37)) (by simp; omega) ((hIk _ (List.getElem_mem hlt)).below (hb0.al hn _)) (hC _ _ (hC _ _ hC0 hbw) ((Below.refl _ wr).al le_rfl' _))
        obtain ⟨u, hu⟩ : ∃ u, kids[j].fv g = u := ⟨_, rfl⟩
        rw [hu] at hq HD
        clear hu
        rcases he' : kids[j] with ⟨op', mon', name', n', ad', cp', kids', pos'⟩
        obtain ⟨c0, c1, c2, c3, c4, c5⟩ := row6 hrj j hlt (by rw [he']; rfl)
        simp only [he', Ex.val, Ex.cells] at hq
        clear he' ih hC0 hF hC
        rcases u with _ | a
        · have hq := FvBack.no hq rfl
          go_wp2_with (go_at_call 40; (with_reducible refine hq.mono ?_); rintro r w1 ⟨rfl, hb1⟩)
          go_roundw
          case rel => exact ⟨j + 1, by omega, by go_num, by show _ = _; rw [HQ.out, HD.out], (hbw.al le_rfl' _).tr le_rfl' hb1⟩
          case measure => simp [intOf]; omega
        · have hq := FvBack.yes hq rfl
          go_wp2_with (go_at_call 40; (with_reducible refine hq.mono ?_); rintro r w1 ⟨rfl, hb1⟩)
          go_ret2
          exact fvBack_yes (by rw [HU.out, HQ.out, HD.out]) ((hbF.al le_rfl' _).tr le_rfl' hb1)
      · have hjd : decide ((j : Int) < (kids.length : Int)) = false := by simp; omega
        go_wp2
        go_ret2
        exact fvBack_no (by rw [HU.out, HQ.out, Ex.fvL_end _ _ _ (by omega)]) hbF
end Go.Proofs.YtfkabkbnfeiggaaDoor
namespace Go.Proofs
open Go.Shelf
def Tryd.lays194_ren : Go.Shelf.Ren := ⟨fun | 194 => 73 | n => n, fun | 31 => 23 | n => n, fun n => n⟩
theorem Tryd.lays194 : Go.Proofs.Lays.n194 Tryd.prog Tryd.lays194_ren := {
  mixed := by kernel_rfl
  f194 := Tryd.func73.trans (congrArg some (by kernel_rfl))
  t0 := Tryd.underlying0
  a0 := Tryd.isAgg0
  z0 := Tryd.sizeOf0
  v0 := Tryd.zeroValue0
  t3 := Tryd.underlying3
  a3 := Tryd.isAgg3
  z3 := Tryd.sizeOf3
  v3 := Tryd.zeroValue3
  t4 := Tryd.underlying4
  a4 := Tryd.isAgg4
  z4 := Tryd.sizeOf4
  v4 := Tryd.zeroValue4
  t9 := Tryd.underlying9
  a9 := Tryd.isAgg9
  z9 := Tryd.sizeOf9
  v9 := Tryd.zeroValue9
  t31 := Tryd.underlying23
  a31 := Tryd.isAgg23
  z31 := Tryd.sizeOf23
  v31 := Tryd.zeroValue23 }
end Go.Proofs
namespace Go.Proofs.YtfkabkbnfeiggaaDoor
open Go.RowKit
/-- A name's cells. -/
def ncells (s : ByteArray) : List Value := [.string s]
theorem compact_mem {α : Type} [DecidableEq α] [Inhabited α] (d : Array α) (x : α) : ∀ m, x ∈ Lib.compactUpTo d m ↔ ∃ j, j < m ∧ d[j]! = x := by
  intro m
  induction m with
  | zero => simp [Lib.compactUpTo]
  | succ m ih =>
    rw [Lib.compactUpTo_succ, List.mem_append, ih]
    constructor
    · rintro (⟨j, hj, e⟩ | h)
      · exact ⟨j, by omega, e⟩
      · split at h
        · exact ⟨m, by omega, (by simpa using h : x = d[m]!).symm⟩
        · cases h
    · rintro ⟨j, hj, e⟩
      by_cases hjm : j < m
      · exact .inl ⟨j, hjm, e⟩
      · obtain rfl : j = m := by omega
        by_cases hk : Lib.keeps d j = true
        · right; rw [if_pos hk]; simp [e]
        · left
          have : j ≠ 0 ∧ d[j]! = d[j - 1]! := by
            simp only [Lib.keeps, decide_eq_true_eq, not_or, Classical.not_not] at hk
            exact hk
          exact ⟨j - 1, by omega, by rw [← this.2]; exact e⟩
theorem compact_any {w : World} {base : Nat} {v : Value} {L : List ByteArray} (h : w.ownsRow base 9 1 v L.length (L.map Value.string)) :
    Calls Tryd.prog 73 #[v] w fun e w' => ∃ L' ad cap, e = .returned (.slice ad L'.length cap) ∧ (∀ x, x ∈ L' ↔ x ∈ L) ∧ SlAt 1 ncells w'.heap.size w' ad cap L' ∧ w.grownBy w' v.ownBlock := by
  have hall := h
  rcases h.2 with ⟨rfl, hn⟩ | ⟨g, cap, cur, rfl, hb, hg, hn, hc, hs, ht⟩
  · have hL : L = [] := List.eq_nil_of_length_eq_zero hn
    subst hL
    have hq := Any.slices_Compact_string_empty Tryd.lays194 none 0 w
    change Calls Tryd.prog 73 _ _ _ at hq
    refine hq.mono ?_
    rintro r w' ⟨rfl, rfl⟩
    exact ⟨[], none, 0, rfl, by simp, ⟨by simp, by unfold maxLen; omega, .inl rfl⟩, ⟨rfl, rfl, rfl, Nat.le_refl _, fun _ _ _ => rfl⟩⟩
  · have hz : L.length = ((L.map fun s => s.data.toList).toArray).size := by simp
    have hget : ∀ j (hj : j < L.length), ((L.map fun s => s.data.toList).toArray)[j]! = L[j].data.toList := by
      intro j hj
      simp [hj]
    have hH : Sort.Holds encStr w g 0 (L.map fun s => s.data.toList).toArray := by
      intro j hj
      have hj2 : j < L.length := by omega
      refine ⟨?_, frozenOf hg _⟩
      have := names_cell hall j hj2
      rw [Nat.zero_add, this, hget j hj2]
    have hq := Any.slices_Compact_string_arr Tryd.lays194 g 0 cap (L.map fun s => s.data.toList).toArray w hH (by unfold maxLen at hc; omega) (by omega)
    change Calls Tryd.prog 73 _ _ _ at hq
    rw [← hz] at hq
    obtain ⟨C, hC⟩ : ∃ C, Lib.compactUpTo (L.map fun s => s.data.toList).toArray L.length = C := ⟨_, rfl⟩
    have hmem := fun x => compact_mem (L.map fun s => s.data.toList).toArray x L.length
    have hlen : C.length ≤ L.length := by
      rw [← hC, Lib.compactUpTo, List.length_map]
      exact Nat.le_trans (List.length_filter_le _ _) (by simp)
    rw [hC] at hq
    simp only [hC] at hmem
    refine hq.mono ?_
    rintro r w' ⟨rfl, q, rfl⟩
    have hz2 : (C ++ List.replicate (L.length - C.length) []).toArray.size = ((L.map fun s => s.data.toList).toArray).size := by simp; omega
    have hP := Sort.holds_putRow encStr (Sort.ahead w q) g 0 _ _ (Sort.holds_ahead encStr w q g 0 _ hH) hz2
    refine ⟨C.map fun l => ⟨l.toArray⟩, some ⟨g, 0, none⟩, cap, by simp, ?_, ⟨by simp; omega, hc, .inr ⟨g, 0, rfl, ?_, ?_⟩⟩, ?_⟩
    · intro x
      rw [List.mem_map]
      constructor
      · rintro ⟨l, hl, rfl⟩
        obtain ⟨j, hj, e⟩ := (hmem l).1 hl
        rw [hget j hj] at e
        have : L[j] = ⟨l.toArray⟩ := ByteArray.ext (by rw [← e])
        rw [← this]; exact List.getElem_mem hj
      · intro hx
        obtain ⟨j, hj, rfl⟩ := List.getElem_of_mem hx
        exact ⟨L[j].data.toList, (hmem _).2 ⟨j, hj, hget j hj⟩, rfl⟩
    · have := (Array.getElem?_eq_some_iff.1 hg).1
      simpa using this
    · intro j hj i hi
      have hj2 : j < C.length := by simpa using hj
      obtain rfl : i = 0 := by omega
      have := (hP j (by rw [hz2]; simp; omega)).1
      simp only [Nat.mul_one, Nat.add_zero] at this ⊢
      rw [this]
      have he : (C ++ List.replicate (L.length - C.length) [])[j]? = some C[j] := by rw [List.getElem?_append_left hj2, List.getElem?_eq_getElem hj2]
      have he2 : (C ++ List.replicate (L.length - C.length) []).toArray[j]! = C[j] := by
        rw [getElem!_def, List.getElem?_toArray, he]
      rw [he2]
      simp [ncells, encStr]
    · refine ⟨rfl, rfl, rfl, by simp, fun k hk hne => ?_⟩
      have hgk : k ≠ g := fun e => hne (by rw [e]; rfl)
      simp only [Sort.putRow, Sort.mapBlock, Array.getElem?_modify, Sort.heap_ahead]
      rw [if_neg (fun e => hgk e.symm)]
end Go.Proofs.YtfkabkbnfeiggaaDoor
namespace Go.Proofs.YtfkabkbnfeiggaaDoor
open Go.RowKit
theorem wts_snoc (l : List St) (j : Nat) (h : j < l.length) : wts (l.take (j + 1)) = wts (l.take j) ++ if l[j].kd = 9 then [l[j].mn] else [] := by
  rw [List.take_succ_eq_append_getElem h, wts, wts, List.filter_append, List.map_append]
  congr 1
  by_cases hk : l[j].kd = 9
  · simp [hk]
  · simp [hk]
theorem wtsL_snoc (l : List Bl) (j : Nat) (h : j < l.length) : wtsL (l.take (j + 1)) = wtsL (l.take j) ++ wts l[j].body := flatMap_snoc _ l j h
theorem wts_len (l : List St) : (wts l).length ≤ (l.flatMap St.subs).length := by
  induction l with
  | nil => simp [wts]
  | cons s l ih =>
    have h1 : (wts (s :: l)).length ≤ 1 + (wts l).length := by
      unfold wts
      rw [List.filter_cons]
      split <;> simp <;> omega
    have h2 : 1 ≤ s.subs.length := by
      rcases s with ⟨a, b, c, d, e, f, g, h, i⟩
      rw [St.subs_mk]; simp
    rw [List.flatMap_cons, List.length_append]
    omega
theorem wtsL_len (l : List Bl) : (wtsL l).length ≤ (l.flatMap Bl.subs).length := by
  induction l with
  | nil => simp [wtsL]
  | cons b l ih =>
    rw [wtsL] at ih ⊢
    rw [List.flatMap_cons, List.flatMap_cons, List.length_append, List.length_append]
    have := wts_len b.body
    have h2 : b.subs = b.body.flatMap St.subs := by rcases b with ⟨x, y, z⟩; rw [Bl.subs_mk]; rfl
    rw [h2]
    omega
theorem wtsL_le (l : List Bl) (j : Nat) : (wtsL (l.take j)).length ≤ (wtsL l).length := by
  conv => rhs; rw [← List.take_append_drop j l]
  rw [wtsL, wtsL, List.flatMap_append, List.length_append]
  omega
theorem wts_le (l : List St) (j : Nat) : (wts (l.take j)).length ≤ (wts l).length := by
  conv => rhs; rw [← List.take_append_drop j l]
  rw [wts, wts, List.filter_append, List.map_append, List.length_append]
  omega
def WaitsBack (L : List ByteArray) (w : World) (e : Ending) (w' : World) : Prop := ∃ L' ad cap, e = .returned (.slice ad L'.length cap) ∧ (∀ x, x ∈ L' ↔ x ∈ L) ∧ SlAt 1 ncells w'.heap.size w' ad cap L' ∧ Below w.heap.size w w'
theorem below_row {w u u' : World} {e : TypeId} {size n : Nat} {v : Value} {xs : List Value} (hb : Below w.heap.size w u) (ho : u.ownsRow w.heap.size e size v n xs) (hg : u.grownBy u' v.ownBlock) : Below w.heap.size w u' :=
  hb.grown hg hb.size (fun k hk => (ho.lt k hk).1)
set_option maxRecDepth 100000 in
set_option maxHeartbeats 8000000 in
theorem waits_any (bad : Option Addr) (bcap : Nat) (blocks : List Bl) (n₀ : Nat) (w : World) (hn : n₀ ≤ w.heap.size) (hsl : SlAt 1 Bl.cells n₀ w bad bcap blocks) (hI : ∀ b ∈ blocks, b.Is n₀ w) (hsm : (wtsL blocks).length ≤ 1000000) :
    Calls Tryd.prog 55 #[.slice bad blocks.length bcap] w fun e w' => WaitsBack (wtsL blocks) w e w' := by
  have hl1 := hsl.1; have hl2 := hsl.2.1
  unfold maxLen at hl2
  have hqc := fun (v : Value) (W : World) (h : W.ownsRow w.heap.size 9 1 v (wtsL blocks).length ((wtsL blocks).map Value.string)) => compact_any h
  obtain ⟨i0, hi, hz0, hz1, hz2⟩ := info_parts infoStr
  go_enter Tryd.func55, Tryd.ntmps55
  go_wp2
  go_loopw [3, 10] (fun v i wr => ∃ j : Nat, j ≤ blocks.length ∧ i = .int .i64 j ∧ wr.ownsRow w.heap.size 9 1 v (wtsL (blocks.take j)).length ((wtsL (blocks.take j)).map Value.string) ∧ Below w.heap.size w wr)
    (fun _ i _ => blocks.length - (intOf i).toNat)
  case atStart => exact ⟨0, by omega, rfl, World.ownsRow_nil _ _ _ _, Below.refl _ _⟩
  case round =>
    obtain ⟨j, hj, rfl, hown, hbw⟩ := hrel
    have hzw := hbw.size
    have hb0 : Below n₀ w wr := hbw.mono hn
    by_cases hlt : j < blocks.length
    · have hqn := hqc
      clear hqc
      rcases hsl.2.2 with h | ⟨kb, koff, rfl, hbn, hrow⟩
      · subst h; simp at hlt
      have hkb : kb < wr.heap.size := by omega
      have HJ := hid (wtsL_snoc blocks j hlt)
      have hle := wtsL_le blocks (j + 1)
      have hIb := hI _ (List.getElem_mem hlt)
      have c0 := (hrow.below hb0 hbn) j hlt 0 (by omega)
      rcases he : blocks[j] with ⟨ad', cap', body'⟩
      rw [he] at HJ hIb
      simp only [he, Bl.cells, Bl.slice, Nat.mul_one, Nat.add_zero, List.getElem?_cons_zero] at c0
      simp only [Bl.body] at HJ
      rw [HJ.out, List.length_append] at hle
      have hsl' := hIb.down.1
      have hl3 := hsl'.1; have hl4 := hsl'.2.1
      unfold maxLen at hl4
      obtain ⟨L0, hL0⟩ : ∃ L0, wtsL (blocks.take j) = L0 := ⟨_, rfl⟩
      rw [hL0] at HJ hown hle
      clear he hL0 hIb
      go_wp2
      go_loopw [3, 16] (fun v i wx => ∃ m : Nat, m ≤ body'.length ∧ i = .int .i64 m ∧ wx.ownsRow w.heap.size 9 1 v (L0 ++ wts (body'.take m)).length ((L0 ++ wts (body'.take m)).map Value.string) ∧ Below w.heap.size w wx)
        (fun _ i _ => body'.length - (intOf i).toNat)
      case atStart => exact ⟨0, by omega, rfl, by simpa [wts] using hown, hbw⟩
      case round =>
        obtain ⟨m, hm, rfl, hownx, hbx⟩ := hrel
        have hzx := hbx.size
        have hb1 : Below n₀ w wr := hbx.mono hn
        by_cases hlm : m < body'.length
        · rcases hsl'.2.2 with h | ⟨qb, qoff, rfl, hqn, hqrow⟩
          · subst h; simp at hlm
          have hqb : qb < wr.heap.size := by omega
          have HM := hid (wts_snoc body' m hlm)
          have hle2 := wts_le body' m
          have hrj := hqrow.below hb1 hqn
          rcases he' : body'[m] with ⟨kind', mon', name', n', ⟨eop', emon', ename', en', ead', ecap', ekids', epos'⟩, sad', scap', blocks', pos'⟩
          obtain ⟨d0, d1, d2, d3, d4, d5, d6, d7, d8, d9, d10, d11⟩ := row12 hrj m hlm (by rw [he']; rfl)
          rw [he'] at HM
          simp only [St.kd, St.mn] at HM
          clear he'
          obtain ⟨L1, hL1⟩ : ∃ L1, L0 ++ wts (body'.take m) = L1 := ⟨_, rfl⟩
          have HN : Hid (L0 ++ wts (body'.take (m + 1)) = L1 ++ if kind' = 9 then [mon'] else []) := by
            show _ = _
            rw [HM.out, ← List.append_assoc, hL1]; rfl
          have hlL : L1.length ≤ L0.length + (wts body').length := by rw [← hL1, List.length_append]; omega
          rw [hL1] at hownx
          clear hL1 HM
          by_cases hk : kind' = 9
          · subst hk
            rw [if_pos rfl] at HN
            have hownA := (hownx.alloc (.cells #[.int .i64 9, .string mon', .string name', .int .i64 n', .int .i64 eop', .string emon', .string ename', .int .i64 en', .slice ead' ekids'.length ecap', .int .i64 epos', .slice sad' blocks'.length scap', .int .i64 pos'] 39)).alloc (.cells #[.string mon'] 9)
            have hcn : ∀ j u, ([.string mon'] : List Value)[j]? = some u → ((wr.alloc (.cells #[.int .i64 9, .string mon', .string name', .int .i64 n', .int .i64 eop', .string emon', .string ename', .int .i64 en', .slice ead' ekids'.length ecap', .int .i64 epos', .slice sad' blocks'.length scap', .int .i64 pos'] 39)).alloc (.cells #[.string mon'] 9)).cell? ((⟨wr.heap.size + 1, 0, none⟩ : Addr).add j) = some u := by
              intro j u hju
              rcases j with _ | j
              · have := heapNew (wr.alloc (.cells #[.int .i64 9, .string mon', .string name', .int .i64 n', .int .i64 eop', .string emon', .string ename', .int .i64 en', .slice ead' ekids'.length ecap', .int .i64 epos', .slice sad' blocks'.length scap', .int .i64 pos'] 39)) (.cells #[.string mon'] 9)
                rw [World.size_alloc] at this
                show (World.alloc _ _).cell? ⟨wr.heap.size + 1, 0 + 0, none⟩ = _
                rw [cellOf this]; simpa using hju
              · simp at hju
            go_wp2_with (at_builtin; refine wpList_append_far rfl _ _ 23 rfl w.heap.size 9 i0 _ 1 16 Tryd.underlying23 hi hz0 hz1 hz2 rfl (by decide) _ _ _ rfl hownA ⟨wr.heap.size + 1, 0, none⟩ 1 1 [.string mon'] rfl rfl hcn (by simp [Value.oneCell']) (by omega) (by unfold maxLen; omega) (by omega) (by simp; omega) ?_; intro g gcap w1 hown2 hgrow hat)
            go_roundw
            case rel => exact ⟨m + 1, by omega, by go_num, by rw [HN.out, List.length_append, List.map_append]; exact hown2, below_row ((hbx.al le_rfl' _).al le_rfl' _) hownA hgrow⟩
            case measure => simp [intOf]; omega
          · have hkb : (kind' == 9) = false := by rw [beq_eq_false_iff_ne]; exact hk
            rw [if_neg hk, List.append_nil] at HN
            clear hk
            go_wp2
            go_roundw
            case rel => exact ⟨m + 1, by omega, by go_num, by rw [HN.out]; exact hownx.alloc _, hbx.al le_rfl' _⟩
            case measure => simp [intOf]; omega
        · have hmd : decide ((m : Int) < (body'.length : Int)) = false := by simp; omega
          have hme : body'.take m = body' := List.take_of_length_le (by omega)
          rw [hme] at hownx
          go_wp2
          go_roundw
          case rel => exact ⟨j + 1, by omega, by go_num, by rw [HJ.out]; exact hownx, hbx⟩
          case measure => simp [intOf]; omega
    · have hjd : decide ((j : Int) < (blocks.length : Int)) = false := by simp; omega
      have hje : blocks.take j = blocks := List.take_of_length_le (by omega)
      rw [hje] at hown
      have hq := hqc _ wr hown
      go_wp2_with (go_at_call 73; (with_reducible refine hq.mono ?_); rintro r w1 ⟨L', ad', cap', rfl, hmem, hsl', hg'⟩)
      go_ret
      exact ⟨L', ad', cap', rfl, hmem, hsl', below_row hbw hown hg'⟩
end Go.Proofs.YtfkabkbnfeiggaaDoor
namespace Go.Proofs.YtfkabkbnfeiggaaDoor
open Go.RowKit
/-- Whether it is another name. -/
def dif (mon x : ByteArray) : Bool := decide (x ≠ mon)
set_option maxRecDepth 100000 in
set_option maxHeartbeats 4000000 in
theorem differs_any {w : World} {bx : Nat} {mon : ByteArray} (hb : w.heap[bx]? = some (.cells #[.string mon] 9 (0, 0))) (x : ByteArray) :
    Calls Tryd.prog 58 #[.string x, .pointer (some ⟨bx, 0, none⟩)] w fun e w' => e = .returned (.bool (dif mon x)) ∧ w' = w := by
  have c0 := cellOf hb 0
  simp at c0
  clear hb
  obtain ⟨rd, hrd⟩ : ∃ rd, dif mon x = rd := ⟨_, rfl⟩
  rw [hrd]
  by_cases he : x = mon
  · subst he
    have hd : rd = false := by rw [← hrd]; simp [dif]
    subst hd
    clear hrd
    go_enter Tryd.func58, Tryd.ntmps58
    go_wp2
    go_ret
    exact ⟨rfl, rfl⟩
  · have hd : rd = true := by rw [← hrd]; simp [dif, he]
    subst hd
    have q1 := toList_ne he
    have q2 : (x.toList == mon.toList) = false := by rw [beq_eq_false_iff_ne]; exact q1
    have q3 : (x.toList != mon.toList) = true := by rw [bne, q2]; rfl
    clear hrd he
    go_enter Tryd.func58, Tryd.ntmps58
    go_wp2
    go_ret
    exact ⟨rfl, rfl⟩
set_option maxRecDepth 100000 in
set_option maxHeartbeats 4000000 in
theorem indexFunc_any {w : World} {bx : Nat} {mon : ByteArray} (hb : w.heap[bx]? = some (.cells #[.string mon] 9 (0, 0))) (L : List ByteArray) (ad : Option Addr) (cap : Nat) (hsl : SlAt 1 ncells w.heap.size w ad cap L) :
    Calls Tryd.prog 74 #[.slice ad L.length cap, .func (.func 58) #[] #[.pointer (some ⟨bx, 0, none⟩)]] w fun e w' => ∃ r : Int, e = .returned (.int .i64 r) ∧ decide (0 ≤ r) = L.any (dif mon) ∧ I64 r ∧ w' = w := by
  have hq := fun x => differs_any hb x
  have hl1 := hsl.1; have hl2 := hsl.2.1
  unfold maxLen at hl2
  clear hb
  go_enter Tryd.func74, Tryd.ntmps74
  go_wp2
  go_loopw [8] (fun i wr => ∃ j : Nat, j ≤ L.length ∧ i = .int .i64 j ∧ Hid ((L.take j).any (dif mon) = false) ∧ wr = w)
    (fun i _ => L.length - (intOf i).toNat)
  case atStart => exact ⟨0, by omega, rfl, rfl, rfl⟩
  case round =>
    obtain ⟨j, hj, rfl, HJ, hwr⟩ := hrel
    have hwr2 := hwr.symm
    subst hwr2
    by_cases hlt : j < L.length
    · rcases hsl.2.2 with h | ⟨kb, koff, rfl, hbn, hrow⟩
      · subst h; simp at hlt
      have c0 := hrow j hlt 0 (by omega)
      have hany : (L.take (j + 1)).any (dif mon) = dif mon L[j] := by
        rw [List.take_succ_eq_append_getElem hlt, List.any_append, HJ.out]; simp
      have hall : dif mon L[j] = true → L.any (dif mon) = true := fun h => List.any_eq_true.2 ⟨L[j], List.getElem_mem hlt, h⟩
      have hqj := hq L[j]
      obtain ⟨y, hy⟩ : ∃ y, L[j] = y := ⟨_, rfl⟩
      simp only [ncells, hy, Nat.mul_one, Nat.add_zero, List.getElem?_cons_zero] at c0
      rw [hy] at hqj hany hall
      obtain ⟨r, hr⟩ : ∃ r, dif mon y = r := ⟨_, rfl⟩
      rw [hr] at hqj hany hall
      have HA := hid hany
      have HB := hid hall
      clear hr hy hany hall hq
      cases r
      · go_wp2_with (go_at_call 58; (with_reducible refine hqj.mono ?_); rintro rr ww ⟨rfl, hw'⟩; have hw2 := hw'.symm; subst hw2)
        go_roundw
        case rel => exact ⟨j + 1, by omega, by go_num, HA.out, by trivial⟩
        case measure => simp [intOf]; omega
      · go_wp2_with (go_at_call 58; (with_reducible refine hqj.mono ?_); rintro rr ww ⟨rfl, hw'⟩; have hw2 := hw'.symm; subst hw2)
        go_ret
        exact ⟨j, rfl, by rw [HB.out (by trivial)]; simp, ⟨by omega, by omega⟩, rfl⟩
    · have hjd : decide ((j : Int) < (L.length : Int)) = false := by simp; omega
      have hje : L.take j = L := List.take_of_length_le (by omega)
      rw [hje] at HJ
      go_wp2
      go_ret
      exact ⟨-1, rfl, by rw [HJ.out]; rfl, ⟨by omega, by omega⟩, rfl⟩
set_option maxRecDepth 100000 in
set_option maxHeartbeats 4000000 in
theorem containsFunc_any {w : World} {bx : Nat} {mon : ByteArray} (hb : w.heap[bx]? = some (.cells #[.string mon] 9 (0, 0))) (L : List ByteArray) (ad : Option Addr) (cap : Nat) (hsl : SlAt 1 ncells w.heap.size w ad cap L) :
    Calls Tryd.prog 57 #[.slice ad L.length cap, .func (.func 58) #[] #[.pointer (some ⟨bx, 0, none⟩)]] w fun e w' => e = .returned (.bool (L.any (dif mon))) ∧ w' = w := by
  have hq := indexFunc_any hb L ad cap hsl
  obtain ⟨r, hr⟩ : ∃ r, L.any (dif mon) = r := ⟨_, rfl⟩
  rw [hr] at hq ⊢
  clear hr hb hsl
  cases r
  · go_enter Tryd.func57, Tryd.ntmps57
    go_wp2_with (go_at_call 74; (with_reducible refine hq.mono ?_); rintro rr ww ⟨ri, rfl, hri, hi64, hw'⟩; have hw2 := hw'.symm; subst hw2)
    go_ret
    exact ⟨rfl, rfl⟩
  · go_enter Tryd.func57, Tryd.ntmps57
    go_wp2_with (go_at_call 74; (with_reducible refine hq.mono ?_); rintro rr ww ⟨ri, rfl, hri, hi64, hw'⟩; have hw2 := hw'.symm; subst hw2)
    go_ret
    exact ⟨rfl, rfl⟩
end Go.Proofs.YtfkabkbnfeiggaaDoor
namespace Go.Proofs.YtfkabkbnfeiggaaDoor
open Go.RowKit
theorem any_mem {L L' : List ByteArray} (h : ∀ x, x ∈ L' ↔ x ∈ L) (p : ByteArray → Bool) : L'.any p = L.any p := by
  rw [Bool.eq_iff_iff, List.any_eq_true, List.any_eq_true]
  exact ⟨fun ⟨x, hx, hp⟩ => ⟨x, (h x).1 hx, hp⟩, fun ⟨x, hx, hp⟩ => ⟨x, (h x).2 hx, hp⟩⟩
/-- What impure's closure sees: the monitors of the waits, in a box. -/
structure Mns (w : World) (bm : Nat) (L : List ByteArray) (ad : Option Addr) (cap : Nat) : Prop where
  box : w.heap[bm]? = some (.cells #[.slice ad L.length cap] 23 (0, 0))
  sl : SlAt 1 ncells w.heap.size w ad cap L
theorem Mns.below {w w' : World} {bm : Nat} {L : List ByteArray} {ad : Option Addr} {cap : Nat} (h : Mns w bm L ad cap) (hb : Below w.heap.size w w') : Mns w' bm L ad cap :=
  ⟨(hb.block bm (Array.getElem?_eq_some_iff.1 h.box).1).trans h.box, (h.sl.below hb).mono hb.size⟩
set_option maxRecDepth 100000 in
set_option maxHeartbeats 4000000 in
theorem other_any {w : World} {bm : Nat} {L : List ByteArray} {ad : Option Addr} {cap : Nat} (h : Mns w bm L ad cap) (mon : ByteArray) :
    Calls Tryd.prog 56 #[.string mon, .pointer (some ⟨bm, 0, none⟩)] w fun e w' => e = .returned (.bool (L.any (dif mon))) ∧ Below w.heap.size w w' := by
  obtain ⟨bX, hB, hz⟩ := one_box w #[.string mon] 9
  have h1 := h.below hB
  have hq := containsFunc_any bX L ad cap h1.sl
  have c0 := cellOf h1.box 0
  simp at c0
  obtain ⟨r, hr⟩ : ∃ r, L.any (dif mon) = r := ⟨_, rfl⟩
  rw [hr] at hq ⊢
  clear hr h h1 bX hz
  go_enter Tryd.func56, Tryd.ntmps56
  go_wp2_with (go_at_call 57; (with_reducible refine hq.mono ?_); rintro rr ww ⟨rfl, hw'⟩; have hw2 := hw'.symm; subst hw2)
  go_ret
  exact ⟨rfl, hB⟩
set_option maxRecDepth 100000 in
set_option maxHeartbeats 8000000 in
theorem impure_any (kind : Int) (mon name : ByteArray) (n : Int) (e : Ex) (ad : Option Addr) (cap : Nat) (blocks : List Bl) (pos : Int) (n₀ : Nat) (w : World) (hn : n₀ ≤ w.heap.size) (hI : (St.mk kind mon name n e ad cap blocks pos).Is n₀ w) (hsm : (wtsL blocks).length ≤ 1000000) :
    Calls Tryd.prog 41 #[(St.mk kind mon name n e ad cap blocks pos).val] w fun r w' => FvBack (imp kind e blocks) w w' r := by
  have HU := hid (show imp kind e blocks = if kind = 3 ∨ kind = 4 then e.fv (fun m => (wtsL blocks).any fun x => decide (x ≠ m)) else none from rfl)
  have hIe := hI.down.2.1
  have hq0 := fun (W : World) (hW : Below w.heap.size w W) => waits_any ad cap blocks n₀ W (by have := hW.size; omega) (hI.down.2.2.1.below (hW.mono hn)) (fun b hb => (hI.down.2.2.2 b hb).below (hW.mono hn)) hsm
  have hsl := hI.down.2.2.1
  have hl1 := hsl.1; have hl2 := hsl.2.1
  unfold maxLen at hl2
  rcases e with ⟨eop, emon, ename, en, ead, ecap, ekids, epos⟩
  simp only [St.val, St.cells, Ex.cells, List.cons_append, List.nil_append]
  clear hI hsm hsl
  by_cases e3 : kind = 3
  · subst e3
    rw [if_pos (by decide)] at HU
    go_enter Tryd.func41, Tryd.ntmps41
    go_upto_region 1 with fail
    obtain ⟨bX, hB, hz⟩ := one_box w #[.int .i64 3, .string mon, .string name, .int .i64 n, .int .i64 eop, .string emon, .string ename, .int .i64 en, .slice ead ekids.length ecap, .int .i64 epos, .slice ad blocks.length cap, .int .i64 pos] 39
    obtain ⟨W0, hW0⟩ : ∃ W0, w.alloc (.cells #[.int .i64 3, .string mon, .string name, .int .i64 n, .int .i64 eop, .string emon, .string ename, .int .i64 en, .slice ead ekids.length ecap, .int .i64 epos, .slice ad blocks.length cap, .int .i64 pos] 39) = W0 := ⟨_, rfl⟩
    rw [hW0] at bX hB hz ⊢
    clear hW0
    have hq := hq0 W0 hB
    have s0 := cellOf bX 0
    have s10 := cellOf bX 10
    simp at s0 s10
    have HZ := hid hz
    clear hz
    go_upto_region 4 with (go_at_call 55; (with_reducible refine hq.mono ?_); rintro r w1 ⟨L', lad, lcap, rfl, hmem, hsl', bb1⟩)
    have hz1 := bb1.size
    have bX1 := (bb1.block w.heap.size (by have := HZ.out; omega)).trans bX
    obtain ⟨bM, hBM, hzM⟩ := one_box w1 #[.slice lad L'.length lcap] 23
    have bX2 := (hBM.block w.heap.size (by have := HZ.out; omega)).trans bX1
    have hbF : Below w.heap.size w (w1.alloc (.cells #[.slice lad L'.length lcap] 23)) := (hB.tr le_rfl' bb1).tr le_rfl' hBM
    have hM : Mns (w1.alloc (.cells #[.slice lad L'.length lcap] 23)) w1.heap.size L' lad lcap := ⟨bM, (hsl'.below hBM).mono hBM.size⟩
    have hg : (fun m => L'.any (dif m)) = fun m => (wtsL blocks).any fun x => decide (x ≠ m) := by
      funext m
      exact any_mem hmem _
    have hE := firstVar_56 (bm := w1.heap.size) (fun m => L'.any (dif m)) (fun W => Mns W w1.heap.size L' lad lcap) (fun _ _ h hb => h.below hb) (fun mon W h => other_any h mon) ⟨eop, emon, ename, en, ead, ecap, ekids, epos⟩ n₀ (w1.alloc (.cells #[.slice lad L'.length lcap] 23)) (by simp; have := hB.size; omega) (hIe.below (hbF.mono hn)) hM
    rw [hg] at hE
    obtain ⟨o, ho⟩ : ∃ o, (Ex.mk eop emon ename en ead ecap ekids epos).fv (fun m => (wtsL blocks).any fun x => decide (x ≠ m)) = o := ⟨_, rfl⟩
    rw [ho] at hE HU
    have s4 := cellOf bX2 4
    have s5 := cellOf bX2 5
    have s6 := cellOf bX2 6
    have s7 := cellOf bX2 7
    have s8 := cellOf bX2 8
    have s9 := cellOf bX2 9
    simp at s4 s5 s6 s7 s8 s9
    simp only [Ex.val, Ex.cells] at hE
    clear ho hg hM bM hBM hzM bX bX1 bX2 hq hq0 hIe
    rcases o with _ | a
    · have hE := FvBack.no hE rfl
      go_wp2_with (go_at_call 40; (with_reducible refine hE.mono ?_); rintro r w2 ⟨rfl, bb2⟩)
      go_ret2
      exact fvBack_no HU.out (hbF.tr le_rfl' bb2)
    · have hE := FvBack.yes hE rfl
      go_wp2_with (go_at_call 40; (with_reducible refine hE.mono ?_); rintro r w2 ⟨rfl, bb2⟩)
      go_ret2
      exact fvBack_yes HU.out (hbF.tr le_rfl' bb2)
  have q3 : (kind == 3) = false := by rw [beq_eq_false_iff_ne]; exact e3
  have q3' : (kind != 3) = true := by rw [bne, q3]; rfl
  by_cases e4 : kind = 4
  · subst e4
    rw [if_pos (by decide)] at HU
    go_enter Tryd.func41, Tryd.ntmps41
    go_upto_region 1 with fail
    obtain ⟨bX, hB, hz⟩ := one_box w #[.int .i64 4, .string mon, .string name, .int .i64 n, .int .i64 eop, .string emon, .string ename, .int .i64 en, .slice ead ekids.length ecap, .int .i64 epos, .slice ad blocks.length cap, .int .i64 pos] 39
    obtain ⟨W0, hW0⟩ : ∃ W0, w.alloc (.cells #[.int .i64 4, .string mon, .string name, .int .i64 n, .int .i64 eop, .string emon, .string ename, .int .i64 en, .slice ead ekids.length ecap, .int .i64 epos, .slice ad blocks.length cap, .int .i64 pos] 39) = W0 := ⟨_, rfl⟩
    rw [hW0] at bX hB hz ⊢
    clear hW0
    have hq := hq0 W0 hB
    have s0 := cellOf bX 0
    have s10 := cellOf bX 10
    simp at s0 s10
    have HZ := hid hz
    clear hz
    go_upto_region 4 with (go_at_call 55; (with_reducible refine hq.mono ?_); rintro r w1 ⟨L', lad, lcap, rfl, hmem, hsl', bb1⟩)
    have hz1 := bb1.size
    have bX1 := (bb1.block w.heap.size (by have := HZ.out; omega)).trans bX
    obtain ⟨bM, hBM, hzM⟩ := one_box w1 #[.slice lad L'.length lcap] 23
    have bX2 := (hBM.block w.heap.size (by have := HZ.out; omega)).trans bX1
    have hbF : Below w.heap.size w (w1.alloc (.cells #[.slice lad L'.length lcap] 23)) := (hB.tr le_rfl' bb1).tr le_rfl' hBM
    have hM : Mns (w1.alloc (.cells #[.slice lad L'.length lcap] 23)) w1.heap.size L' lad lcap := ⟨bM, (hsl'.below hBM).mono hBM.size⟩
    have hg : (fun m => L'.any (dif m)) = fun m => (wtsL blocks).any fun x => decide (x ≠ m) := by
      funext m
      exact any_mem hmem _
    have hE := firstVar_56 (bm := w1.heap.size) (fun m => L'.any (dif m)) (fun W => Mns W w1.heap.size L' lad lcap) (fun _ _ h hb => h.below hb) (fun mon W h => other_any h mon) ⟨eop, emon, ename, en, ead, ecap, ekids, epos⟩ n₀ (w1.alloc (.cells #[.slice lad L'.length lcap] 23)) (by simp; have := hB.size; omega) (hIe.below (hbF.mono hn)) hM
    rw [hg] at hE
    obtain ⟨o, ho⟩ : ∃ o, (Ex.mk eop emon ename en ead ecap ekids epos).fv (fun m => (wtsL blocks).any fun x => decide (x ≠ m)) = o := ⟨_, rfl⟩
    rw [ho] at hE HU
    have s4 := cellOf bX2 4
    have s5 := cellOf bX2 5
    have s6 := cellOf bX2 6
    have s7 := cellOf bX2 7
    have s8 := cellOf bX2 8
    have s9 := cellOf bX2 9
    simp at s4 s5 s6 s7 s8 s9
    simp only [Ex.val, Ex.cells] at hE
    clear ho hg hM bM hBM hzM bX bX1 bX2 hq hq0 hIe
    rcases o with _ | a
    · have hE := FvBack.no hE rfl
      go_wp2_with (go_at_call 40; (with_reducible refine hE.mono ?_); rintro r w2 ⟨rfl, bb2⟩)
      go_ret2
      exact fvBack_no HU.out (hbF.tr le_rfl' bb2)
    · have hE := FvBack.yes hE rfl
      go_wp2_with (go_at_call 40; (with_reducible refine hE.mono ?_); rintro r w2 ⟨rfl, bb2⟩)
      go_ret2
      exact fvBack_yes HU.out (hbF.tr le_rfl' bb2)
  have q4 : (kind == 4) = false := by rw [beq_eq_false_iff_ne]; exact e4
  have q4' : (kind != 4) = true := by rw [bne, q4]; rfl
  rw [if_neg (by omega)] at HU
  have hB := (Below.refl w.heap.size w).al le_rfl' (.cells #[.int .i64 kind, .string mon, .string name, .int .i64 n, .int .i64 eop, .string emon, .string ename, .int .i64 en, .slice ead ekids.length ecap, .int .i64 epos, .slice ad blocks.length cap, .int .i64 pos] 39)
  clear hq0 hIe
  go_enter Tryd.func41, Tryd.ntmps41
  go_wp2
  go_ret2
  exact fvBack_no HU.out hB
end Go.Proofs.YtfkabkbnfeiggaaDoor
namespace Go.Proofs.YtfkabkbnfeiggaaDoor
open Go.RowKit
/-- What stmt and block give. -/
def ScoBack (base b k : Nat) (O : List ByteArray) (r : Int × Int) (w : World) (e : Ending) (w' : World) : Prop :=
  e = .returned (.tuple #[.int .i64 r.1, .int .i64 r.2]) ∧ (∃ N' pl', Wk w' base b k N' pl' ∧ Fits O N' pl') ∧ Kw b k O.length w w' ∧ Below base w w'
def StW (base b k : Nat) (s : St) : Prop := ∀ (n₀ : Nat) (w : World) (N O : List ByteArray) (pl : ByteArray → Nat) (ad : Option Addr) (cap : Nat), n₀ ≤ base → s.Is n₀ w → Wk w base b k N pl → OwS w b k O ad cap → Fits O N pl → O.length + s.subs.length ≤ 1000000 →
  Calls Tryd.prog 25 #[.pointer (some ⟨b, 0, none⟩), s.val, .slice ad O.length cap] w fun e w' => ScoBack base b k O (s.sco (ownF O)) w e w'
def BlW (base b k : Nat) (x : Bl) : Prop := ∀ (n₀ : Nat) (w : World) (N O : List ByteArray) (pl : ByteArray → Nat) (ad : Option Addr) (cap : Nat), n₀ ≤ base → x.Is n₀ w → Wk w base b k N pl → OwS w b k O ad cap → Fits O N pl → O.length + x.subs.length ≤ 1000000 →
  Calls Tryd.prog 17 #[.pointer (some ⟨b, 0, none⟩), x.slice, .slice ad O.length cap] w fun e w' => ScoBack base b k O (x.sco (ownF O)) w e w'
theorem St.scoL_drop (f : ByteArray → Bool) (l : List St) (j : Nat) (h : j < l.length) : St.scoL f (l.drop j) = fstE (l[j].sco f) (St.scoL f (l.drop (j + 1))) := by
  rw [List.drop_eq_getElem_cons h, St.scoL]
theorem St.scoL_end (f : ByteArray → Bool) (l : List St) (j : Nat) (h : l.length ≤ j) : St.scoL f (l.drop j) = (0, 0) := by
  rw [List.drop_of_length_le h, St.scoL]
theorem Bl.scoL_drop (f : ByteArray → Bool) (l : List Bl) (j : Nat) (h : j < l.length) : Bl.scoL f (l.drop j) = fstE (l[j].sco f) (Bl.scoL f (l.drop (j + 1))) := by
  rw [List.drop_eq_getElem_cons h, Bl.scoL]
theorem Bl.scoL_end (f : ByteArray → Bool) (l : List Bl) (j : Nat) (h : l.length ≤ j) : Bl.scoL f (l.drop j) = (0, 0) := by
  rw [List.drop_of_length_le h, Bl.scoL]
theorem subs_at {α β : Type} (f : α → List β) (l : List α) (j : Nat) (h : j < l.length) : (f l[j]).length ≤ (l.flatMap f).length := by
  have h2 : l = l.take (j + 1) ++ l.drop (j + 1) := (List.take_append_drop _ _).symm
  conv => rhs; rw [h2]
  rw [List.flatMap_append, flatMap_snoc f l j h, List.length_append, List.length_append]
  omega
set_option maxRecDepth 100000 in
set_option maxHeartbeats 4000000 in
theorem block_own {base b k : Nat} (ad : Option Addr) (cap : Nat) (body : List St) (ih : ∀ s ∈ body, StW base b k s) : BlW base b k (.mk ad cap body) := by
  intro n₀ w N O pl oad ocap hn hI hW hO hf hsz
  have HU : Hid ((Bl.mk ad cap body).sco (ownF O) = St.scoL (ownF O) body) := by show _ = _; rw [Bl.sco]
  rw [Bl.subs_mk] at hsz
  have hIk := hI.down.2
  have hsl := hI.down.1
  have hl1 := hsl.1; have hl2 := hsl.2.1
  unfold maxLen at hl2
  have hwb : base ≤ w.heap.size := by have := hW.lt; have := hW.lo.1; omega
  simp only [Bl.slice]
  go_enter Tryd.func17, Tryd.ntmps17
  go_wp2
  go_loopw [14] (fun i wr => ∃ (j : Nat) (N' : List ByteArray) (pl' : ByteArray → Nat), j ≤ body.length ∧ i = .int .i64 j ∧ Hid (St.scoL (ownF O) body = St.scoL (ownF O) (body.drop j)) ∧ Wk wr base b k N' pl' ∧ Fits O N' pl' ∧ Kw b k O.length w wr ∧ Below base w wr)
    (fun i _ => body.length - (intOf i).toNat)
  case atStart => exact ⟨0, N, pl, by omega, rfl, rfl, hW, hf, Kw.refl _ _ _ _, Below.refl _ _⟩
  case round =>
    obtain ⟨j, N', pl', hj, rfl, HQ, hWr, hfr, hKr, hbw⟩ := hrel
    have hz1 := hbw.size
    have hb0 : Below n₀ w wr := hbw.mono hn
    by_cases hlt : j < body.length
    · rcases hsl.2.2 with h | ⟨kb, koff, rfl, hbn, hrow⟩
      · subst h; simp at hlt
      have hbn2 : kb < wr.heap.size := by omega
      have HD := hid (St.scoL_drop (ownF O) body j hlt)
      have hrj := hrow.below hb0 hbn
      have hss := subs_at St.subs body j hlt
      have hBa : Below wr.heap.size wr (wr.alloc (.cells (body[j]).cells.toArray 39)) := (Below.refl _ wr).al le_rfl' _
      have hKa : Kw b k O.length wr (wr.alloc (.cells (body[j]).cells.toArray 39)) := Kw.below hBa hWr.lt
      have hq := ih _ (List.getElem_mem hlt) n₀ (wr.alloc (.cells (body[j]).cells.toArray 39)) N' O pl' oad ocap hn ((hIk _ (List.getElem_mem hlt)).below (hb0.al (by omega) _)) (hWr.below hBa) (hO.kw (hKr.trans hKa) (Nat.le_refl _)) hfr (by omega)
      obtain ⟨u, hu⟩ : ∃ u, body[j].sco (ownF O) = u := ⟨_, rfl⟩
      have hu0 := St.sco_zero (f := ownF O) body[j]
      rw [hu] at hq HD hu0
      clear hu
      rcases he' : body[j] with ⟨kind', mon', name', n', ⟨eop', emon', ename', en', ead', ecap', ekids', epos'⟩, ad', cap', blocks', pos'⟩
      obtain ⟨c0, c1, c2, c3, c4, c5, c6, c7, c8, c9, c10, c11⟩ := row12 hrj j hlt (by rw [he']; rfl)
      simp only [he', St.val, St.cells, Ex.cells, List.cons_append, List.nil_append] at hq hBa hKa
      have HBa := hid hBa
      have HKa := hid hKa
      clear he' ih hBa hKa hss
      obtain ⟨ue, ua⟩ := u
      simp only [ScoBack] at hq
      by_cases hue : ue = 0
      · subst hue
        have hua := hu0 rfl
        have hub : ua = 0 := congrArg Prod.snd hua
        subst hub
        rw [fstE_zero] at HD
        go_wp2_with (go_at_call 25; (with_reducible refine hq.mono ?_); rintro r w1 ⟨rfl, ⟨N2, pl2, hW2, hf2⟩, hK2, hb2⟩)
        go_roundw
        case rel => exact ⟨j + 1, N2, pl2, by omega, by go_num, by show _ = _; rw [HQ.out, HD.out], hW2, hf2, (hKr.trans HKa.out).trans hK2, (hbw.trans (HBa.out.mono (by omega))).trans hb2⟩
        case measure => simp [intOf]; omega
      · rw [fstE_err (by exact hue)] at HD
        have hueb : (ue == 0) = false := by rw [beq_eq_false_iff_ne]; exact hue
        have hueb2 : (ue != 0) = true := by rw [bne, hueb]; rfl
        go_wp2_with (go_at_call 25; (with_reducible refine hq.mono ?_); rintro r w1 ⟨rfl, ⟨N2, pl2, hW2, hf2⟩, hK2, hb2⟩)
        go_ret2
        exact ⟨by rw [HU.out, HQ.out, HD.out]; rfl, ⟨N2, pl2, hW2, hf2⟩, (hKr.trans HKa.out).trans hK2, (hbw.trans (HBa.out.mono (by omega))).trans hb2⟩
    · have hjd : decide ((j : Int) < (body.length : Int)) = false := by simp; omega
      go_wp2
      go_ret2
      exact ⟨by rw [HU.out, HQ.out, St.scoL_end _ _ _ (by omega)]; rfl, ⟨N', pl', hWr, hfr⟩, hKr, hbw⟩
end Go.Proofs.YtfkabkbnfeiggaaDoor
