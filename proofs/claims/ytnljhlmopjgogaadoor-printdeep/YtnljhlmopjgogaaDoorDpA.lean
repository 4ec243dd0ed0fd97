/-
  Expressions and blocks that are as deep as may be: how those that PrintDeep makes lie, how deep they are. Nothing is walked here.
-/
import Derived.Test.YtnljhlmopjgogaaDoorLvD
namespace Go.Proofs.YtnljhlmopjgogaaDoor
open Go.RowKit Px
/-- Not of not .. of a.x: where each kid lies. -/
def dpE (op : Int) : List Nat → Ex
  | [] => lvX 120
  | g :: gs => .mk op ⟨#[]⟩ ⟨#[]⟩ 0 (some ⟨g, 0, none⟩) 1 [dpE op gs] 0
def DpAt (op : Int) (Be : Nat) (W : World) : List Nat → Prop
  | [] => True
  | g :: gs => W.heap[g]? = some (.cells (dpE op gs).cells.toArray 24 (0, 0)) ∧ Be < g ∧ DpAt op Be W gs
/-- A loop in a loop ..: where each lies. -/
def dpS (g : Nat) (x : Bl) : St := .mk 5 ⟨#[]⟩ ⟨#[]⟩ 0 exZ (some ⟨g, 0, none⟩) 1 [x] 0
def dpB (ad : Option Addr) : List (Nat × Nat) → Bl
  | [] => .mk ad 0 []
  | (g, h) :: r => .mk (some ⟨h, 0, none⟩) 1 [dpS g (dpB ad r)]
def DbAt (ad : Option Addr) (Be : Nat) (W : World) : List (Nat × Nat) → Prop
  | [] => True
  | (g, h) :: r => W.heap[g]? = some (.cells #[(dpB ad r).slice] 44 (0, 0)) ∧ W.heap[h]? = some (.cells (dpS g (dpB ad r)).cells.toArray 47 (0, 0)) ∧ Be < g ∧ Be < h ∧ DbAt ad Be W r
theorem DpAt.keep {op : Int} {Be : Nat} {W W' : World} (hk : ∀ k, Be < k → k < W.heap.size → W'.heap[k]? = W.heap[k]?) : ∀ {gs : List Nat}, DpAt op Be W gs → DpAt op Be W' gs
  | [], _ => trivial
  | g :: _, h => ⟨(hk g h.2.1 (Array.getElem?_eq_some_iff.1 h.1).1).trans h.1, h.2.1, DpAt.keep hk h.2.2⟩
theorem DbAt.keep {ad : Option Addr} {Be : Nat} {W W' : World} (hk : ∀ k, Be < k → k < W.heap.size → W'.heap[k]? = W.heap[k]?) : ∀ {r : List (Nat × Nat)}, DbAt ad Be W r → DbAt ad Be W' r
  | [], _ => trivial
  | (g, h) :: _, x => ⟨(hk g x.2.2.1 (Array.getElem?_eq_some_iff.1 x.1).1).trans x.1, (hk h x.2.2.2.1 (Array.getElem?_eq_some_iff.1 x.2.1).1).trans x.2.1, x.2.2.1, x.2.2.2.1, DbAt.keep hk x.2.2.2.2⟩
theorem DpAt.is {op : Int} {Be : Nat} {W : World} (ho : 5 ≤ op ∧ op ≤ 7) : ∀ {gs : List Nat}, DpAt op Be W gs → (dpE op gs).Is W.heap.size W
  | [], _ => lvX_is _ _ _
  | g :: gs, h => Ex.Is.up ⟨⟨i64_small (by omega) (by omega), i64_small (by omega) (by omega), i64_small (by omega) (by omega), len0, len0⟩, slAt_of_block exCells_len h.1 (by simp) (Array.getElem?_eq_some_iff.1 h.1).1 (by simp) (by omega), fun x hx => by
      rw [List.mem_singleton.1 hx]; exact DpAt.is ho h.2.2⟩
theorem dpS_is {n₀ g : Nat} {W : World} {x : Bl} (h : W.heap[g]? = some (.cells #[x.slice] 44 (0, 0))) (hg : g < n₀) (hx : x.Is n₀ W) : (dpS g x).Is n₀ W :=
  St.Is.up ⟨⟨i64_small (by omega) (by omega), i64_small (by omega) (by omega), i64_small (by omega) (by omega), len0, len0⟩, exZ_is _ _, slAt_of_block (cells := Bl.cells) (size := 1) (l := [x]) (fun _ => rfl) h (by simp [Bl.cells]) hg (by simp) (by omega), fun y hy => by
    rw [List.mem_singleton.1 hy]; exact hx⟩
theorem DbAt.is {ad : Option Addr} {Be : Nat} {W : World} : ∀ {r : List (Nat × Nat)}, DbAt ad Be W r → (dpB ad r).Is W.heap.size W
  | [], _ => Bl.Is.up ⟨⟨Nat.le_refl _, by unfold maxLen; omega, .inl rfl⟩, fun x hx => by cases hx⟩
  | (g, h) :: r, x => Bl.Is.up ⟨slAt_of_block stCells_len x.2.1 (by simp) (Array.getElem?_eq_some_iff.1 x.2.1).1 (by simp) (by omega), fun y hy => by
      rw [List.mem_singleton.1 hy]; exact dpS_is x.1 (Array.getElem?_eq_some_iff.1 x.1).1 (DbAt.is x.2.2.2.2)⟩
theorem dpE_subs (op : Int) (gs : List Nat) : (dpE op gs).subs.length = gs.length + 1 := by
  induction gs with
  | nil => simp [dpE, lvX, Ex.subs, Ex.subsL]
  | cons g gs ih => rw [dpE, Ex.subs_mk]; simp [Ex.subsL, ih]
theorem dpE_ok (op : Int) (ho : op = 5 ∨ op = 6 ∨ op = 7) (gs : List Nat) : (dpE op gs).ok = true := by
  induction gs with
  | nil =>
    simp [dpE, lvX, Ex.ok, Ex.subs, Ex.subsL, Ex.ok1, exNames, exNumber, exKids, fitsName, fitsNum, nameA, nameX]
  | cons g gs ih =>
    unfold Ex.ok at ih ⊢
    rw [dpE, Ex.subs_mk]
    simp only [Ex.subsL, List.append_nil, List.all_cons, ih, Bool.and_true]
    rcases ho with rfl | rfl | rfl <;> simp [Ex.ok1, exNames, exNumber, exKids, fitsName, fitsNum] <;> rfl
theorem dpE_nest (op : Int) (ho : op = 5 ∨ op = 6 ∨ op = 7) (gs : List Nat) : (dpE op gs).nst = gs.length ∧ ∀ l, l ≤ (sgnOf op).2.2.2 → (dpE op gs).nest l = gs.length := by
  induction gs with
  | nil =>
    refine ⟨by simp [dpE, lvX, Ex.nst_mk, nestOf], fun l hl => ?_⟩
    have h6 : l ≤ 6 := by rcases ho with rfl | rfl | rfl <;> simp [sgnOf, signed, sgn] at hl <;> omega
    simp [dpE, lvX, Ex.nest, Ex.nst_mk, nestOf, nestL, Ex.opOf, own, signed]
    omega
  | cons g gs ih =>
    have h1 : (dpE op (g :: gs)).nst = gs.length + 1 := by
      rw [dpE, Ex.nst_mk, nestOf, if_pos (by simp)]
      have := nkid_at [dpE op gs] 0 (sgnOf op).2.2.2 (by simp)
      simp only [List.getElem_cons_zero] at this
      rw [this, ih.2 _ (Nat.le_refl _)]; omega
    refine ⟨by rw [h1]; simp, fun l hl => ?_⟩
    rw [Ex.nest, h1, nestL]
    show (if own op < l then 1 else 0) + (gs.length + 1) = _
    rw [if_neg (by rcases ho with rfl | rfl | rfl <;> simp [sgnOf, own, signed, sgn] at hl ⊢ <;> omega)]
    simp
theorem dpE_nest1 (op : Int) (ho : op = 5 ∨ op = 6 ∨ op = 7) (gs : List Nat) : (dpE op gs).nest 1 = gs.length :=
  (dpE_nest op ho gs).2 1 (by rcases ho with rfl | rfl | rfl <;> simp [sgnOf, signed, sgn])
theorem toldOf_code (t : List UInt8) : ∃ (s : ByteArray) (c : Int), toldOf t = .tuple #[.string s, .int .i64 c] ∧ (c = 0 ∨ c = 1) := by
  unfold toldOf; split
  · exact ⟨_, _, rfl, .inr rfl⟩
  · exact ⟨_, _, rfl, .inl rfl⟩
theorem dpE_out (op : Int) (ho : op = 5 ∨ op = 6 ∨ op = 7) (gs : List Nat) : ∃ (s : ByteArray) (c : Int), exprOut (dpE op gs) = .tuple #[.string s, .int .i64 c] ∧ ((c == 41) = decide (64 < gs.length)) := by
  rw [exprOut, dpE_ok op ho, dpE_nest1 op ho]
  by_cases h : 64 < gs.length
  · exact ⟨⟨#[]⟩, 41, by simp [h], by simp [h]⟩
  · obtain ⟨s, c, h1, h2⟩ := toldOf_code ((dpE op gs).txt 1)
    refine ⟨s, c, by simp [h, h1], ?_⟩
    rcases h2 with rfl | rfl <;> simp [h]
def dpP (ad : Option Addr) (r : List (Nat × Nat)) (h : Nat) : Pr := ⟨none, 0, [], some ⟨h, 0, none⟩, 1, [⟨⟨#[114]⟩, true, 0, dpB ad r, 0⟩]⟩
theorem dpP_is {ad : Option Addr} {r : List (Nat × Nat)} {h : Nat} {W : World} (hr : (dpB ad r).Is W.heap.size W) (h2 : W.heap[h]? = some (.cells (Ro.mk ⟨#[114]⟩ true 0 (dpB ad r) 0).cells.toArray 49 (0, 0))) : (dpP ad r h).Is W.heap.size W :=
  ⟨⟨slAt_nil, fun x hx => by cases hx⟩, slAt_of_block (cells := Ro.cells) (size := 5) (l := [⟨⟨#[114]⟩, true, 0, dpB ad r, 0⟩]) (cap := 1) (fun _ => rfl) h2 (by simp) (Array.getElem?_eq_some_iff.1 h2).1 (by simp) (by omega), fun x hx => by
    rw [List.mem_singleton.1 hx]
    exact ⟨len1 _, i64_small (Int.le_refl _) (by show (0 : Int) ≤ 100; omega), i64_small (Int.le_refl _) (by show (0 : Int) ≤ 100; omega), hr⟩⟩
theorem dpB_subs (ad : Option Addr) (r : List (Nat × Nat)) : (∀ s ∈ (dpB ad r).subs, s.ok1 = true) ∧ (dpB ad r).sz = r.length ∧ ∀ o, (dpB ad r).nst o = o + r.length := by
  induction r with
  | nil => exact ⟨fun s hs => by rw [dpB, Bl.subs_mk] at hs; simp at hs, by rw [dpB, Bl.sz_mk]; simp, fun o => by rw [dpB, Bl.nst_mk]; simp [maxL]⟩
  | cons x r ih =>
    obtain ⟨g, h⟩ := x
    refine ⟨fun s hs => ?_, ?_, fun o => ?_⟩
    · rw [dpB, Bl.subs_mk] at hs
      simp only [List.flatMap_cons, List.flatMap_nil, List.append_nil, dpS, St.subs_mk, List.mem_cons] at hs
      rcases hs with rfl | hs
      · simp [St.ok1, fitsName, fitsNum, stMon, stName, stNumber, stExpr, stLeast, stMost, fitsEx, exZ_none]
        rfl
      · exact ih.1 s hs
    · rw [dpB, Bl.sz_mk]
      simp only [List.map_cons, List.map_nil, List.sum_cons, List.sum_nil, dpS, St.tot_mk, exZ_none, if_true, ih.2.1, List.length_cons]
      omega
    · rw [dpB, Bl.nst_mk]
      simp only [maxL, dpS, St.nst_mk, (none_nest exZ_none).1, ih.2.2, List.length_cons]
      omega
theorem dpP_ok (ad : Option Addr) (r : List (Nat × Nat)) (h : Nat) : (dpP ad r h).ok = true := by
  have h1 : (dpP ad r h).stmts = (dpB ad r).subs := by simp [dpP, Pr.stmts]
  unfold Pr.ok
  rw [h1, Bool.and_eq_true]
  refine ⟨by simp [dpP, Pr.decl, Ro.ok, fitsNum, nameR], List.all_eq_true.2 (dpB_subs ad r).1⟩
theorem dpP_size (ad : Option Addr) (r : List (Nat × Nat)) (h : Nat) : (dpP ad r h).size = r.length := by
  have h1 : (dpP ad r h).stmts = (dpB ad r).subs := by simp [dpP, Pr.stmts]
  unfold Pr.size
  rw [h1]
  exact (dpB_subs ad r).2.1
theorem dpP_nst (ad : Option Addr) (r : List (Nat × Nat)) (h : Nat) : (dpP ad r h).nst = 1 + r.length := by
  simp [dpP, Pr.nst, maxL, (dpB_subs ad r).2.2]
theorem dpP_out (ad : Option Addr) (r : List (Nat × Nat)) (h : Nat) : ∃ (s : ByteArray) (c : Int), textOut (dpP ad r h) = .tuple #[.string s, .int .i64 c] ∧ ((c == 41) = decide (64 < r.length + 1)) := by
  rw [textOut, dpP_ok, dpP_nst]
  by_cases h' : 64 < r.length + 1
  · exact ⟨⟨#[]⟩, 41, by rw [if_pos rfl, if_pos (by omega)], by simp [h']⟩
  · obtain ⟨s, c, h1, h2⟩ := toldOf_code (dpP ad r h).txt
    refine ⟨s, c, by rw [if_pos rfl, if_neg (by omega)]; exact h1, ?_⟩
    rw [decide_eq_false h']
    rcases h2 with rfl | rfl <;> rfl
end Go.Proofs.YtnljhlmopjgogaaDoor
