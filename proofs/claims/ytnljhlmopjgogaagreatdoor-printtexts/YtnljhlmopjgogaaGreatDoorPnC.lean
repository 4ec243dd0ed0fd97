/-
  How long the text of a block is, at most. Nothing is walked here.
-/
import Derived.Test.YtnljhlmopjgogaaGreatDoorPnB
namespace Go.Proofs.YtnljhlmopjgogaaGreatDoor
open Go.RowKit Px
theorem ind_len (o : Nat) : (ind o).length = 2 * o := by simp [ind]
theorem blkT_len (o : Nat) (word : List UInt8) (i : Nat) (b : List UInt8) : (blkT o word i b).length ≤ b.length + 2 * o + 5 + word.length := by
  unfold blkT
  simp only [List.length_append, List.length_cons, List.length_nil, ind_len]
  split <;> simp <;> omega
theorem blksT_len (o : Nat) (word : List UInt8) (l : List (List UInt8)) (i : Nat) : (blksT o word l i).length ≤ (l.map List.length).sum + l.length * (2 * o + 5 + word.length) := by
  induction l generalizing i with
  | nil => simp [blksT]
  | cons b l ih =>
    have h1 := blkT_len o word i b
    have h2 := ih (i + 1)
    simp only [blksT, List.length_append, List.map_cons, List.sum_cons, List.length_cons, Nat.add_mul, Nat.one_mul]
    omega
theorem itoa_len' (n : Int) (h : I64 n) : (if 0 < n then 32 :: Lib.itoa n else []).length ≤ 21 := by
  have := itoa_len n h
  split <;> simp <;> omega
/-- The statement's own part. -/
theorem stOf_len (o : Nat) (kind : Int) (mon name : ByteArray) (n : Int) (et : List UInt8) (bs : List (List UInt8)) (ho : o ≤ 1000) (hm : mon.data.toList.length ≤ 32) (hn : name.data.toList.length ≤ 32) (hI : I64 n) (hb : bs.length ≤ 8) (x : Nat)
    (he : 2 ≤ kind → kind ≤ 4 → et.length ≤ x) : (stOf o kind mon name n et bs).length ≤ x + (bs.map List.length).sum + 19000 := by
  have hi := ind_len o
  have hn' := itoa_len' n hI
  have b0 : (blksT o [101, 108, 115, 101] bs 0).length ≤ (bs.map List.length).sum + bs.length * (2 * o + 9) := blksT_len o [101, 108, 115, 101] bs 0
  have b1 : (blksT o [] bs 0).length ≤ (bs.map List.length).sum + bs.length * (2 * o + 5) := blksT_len o [] bs 0
  have b2 : (blksT o [111, 114] bs 0).length ≤ (bs.map List.length).sum + bs.length * (2 * o + 7) := blksT_len o [111, 114] bs 0
  have hmul : ∀ k : Nat, k ≤ 9 → bs.length * (2 * o + k) ≤ 8 * 2009 := fun k hk => Nat.mul_le_mul hb (by omega)
  have m0 := hmul 9 (by omega)
  have m1 := hmul 5 (by omega)
  have m2 := hmul 7 (by omega)
  unfold stOf
  by_cases h1 : kind = 1
  · rw [if_pos h1]; (try unfold lin); simp only [List.length_append, List.length_cons, List.length_nil]; omega
  rw [if_neg h1]
  by_cases h2 : kind = 2
  · rw [if_pos h2]; have := he (by omega) (by omega); (try unfold lin); simp only [List.length_append, List.length_cons, List.length_nil]; omega
  rw [if_neg h2]
  by_cases h3 : kind = 3
  · rw [if_pos h3]; have := he (by omega) (by omega); (try unfold lin); simp only [List.length_append, List.length_cons, List.length_nil]; omega
  rw [if_neg h3]
  by_cases h4 : kind = 4
  · rw [if_pos h4]; have := he (by omega) (by omega); (try unfold lin); simp only [List.length_append, List.length_cons, List.length_nil]; omega
  rw [if_neg h4]
  by_cases h5 : kind = 5
  · rw [if_pos h5]; (try unfold lin); simp only [List.length_append, List.length_cons, List.length_nil]; omega
  rw [if_neg h5]
  by_cases h6 : kind = 6
  · rw [if_pos h6]; (try unfold lin); simp only [List.length_append, List.length_cons, List.length_nil]; omega
  rw [if_neg h6]
  by_cases h7 : kind = 7
  · rw [if_pos h7]; (try unfold lin); simp only [List.length_append, List.length_cons, List.length_nil]; omega
  rw [if_neg h7]
  by_cases h8 : kind = 8
  · rw [if_pos h8]; (try unfold lin); simp only [List.length_append, List.length_cons, List.length_nil]; omega
  rw [if_neg h8]
  by_cases h9 : kind = 9
  · rw [if_pos h9]; (try unfold lin); simp only [List.length_append, List.length_cons, List.length_nil]; omega
  rw [if_neg h9]
  by_cases h10 : kind = 10
  · rw [if_pos h10]; (try unfold lin); simp only [List.length_append, List.length_cons, List.length_nil]; omega
  rw [if_neg h10]
  unfold lin; simp only [List.length_append, List.length_cons, List.length_nil]; omega
theorem St.ok_parts {kind : Int} {mon name : ByteArray} {n : Int} {e : Ex} {ad : Option Addr} {cap : Nat} {blocks : List Bl} {pos : Int} (h : (St.mk kind mon name n e ad cap blocks pos).ok1 = true) :
    (1 ≤ kind ∧ kind ≤ 11) ∧ fitsName mon (stMon kind.toNat) = true ∧ fitsName name (stName kind.toNat) = true ∧ fitsNum n (stNumber kind.toNat) = true ∧ fitsEx e (stExpr kind.toNat) = true ∧ stLeast kind.toNat ≤ blocks.length ∧ blocks.length ≤ stMost kind.toNat := by
  simp only [St.ok1, Bool.and_eq_true, decide_eq_true_iff] at h
  exact ⟨⟨h.1.1, h.1.2⟩, h.2.1.1.1.1.1, h.2.1.1.1.1.2, h.2.1.1.1.2, h.2.1.1.2, h.2.1.2, h.2.2⟩
theorem stMost_le (k : Nat) : stMost k ≤ 8 := by
  unfold stMost; split
  · omega
  split
  · omega
  split <;> omega
/-- All statements of a block are ones. -/
def Bl.okb (b : Bl) : Prop := ∀ s ∈ b.subs, s.ok1 = true
theorem Bl.okb_stmt {ad : Option Addr} {cap : Nat} {body : List St} (h : (Bl.mk ad cap body).okb) : ∀ s ∈ body, s.ok1 = true ∧ ∀ x ∈ s.blocks, x.okb := by
  intro s hs
  have h1 : ∀ y ∈ s.subs, y.ok1 = true := fun y hy => h y (by rw [Bl.subs_mk]; exact List.mem_flatMap.2 ⟨s, hs, hy⟩)
  rcases s with ⟨kind, mon, name, n, e, ad', cap', blocks, pos⟩
  rw [St.subs_mk] at h1
  exact ⟨h1 _ (by simp), fun x hx y hy => h1 y (List.mem_cons_of_mem _ (List.mem_flatMap.2 ⟨x, hx, hy⟩))⟩
theorem ex_of_fits {e : Ex} {k : Nat} (h : fitsEx e (stExpr k) = true) (hk : stExpr k = true) : e.ok = true := by
  rw [hk] at h
  simpa [fitsEx] using h
theorem map_sum_le {α : Type} (f g : α → Nat) (l : List α) (h : ∀ a ∈ l, f a ≤ g a) : (l.map f).sum ≤ (l.map g).sum := by
  induction l with
  | nil => simp
  | cons a l ih => have := h a (by simp); have := ih (fun x hx => h x (by simp [hx])); simp; omega
theorem sum_mul (k : Nat) (l : List Nat) : (l.map fun x => k * x).sum = k * l.sum := by
  induction l with
  | nil => simp
  | cons a l ih => simp [ih, Nat.mul_add]
theorem flat_len {α : Type} (f : α → List UInt8) (l : List α) : (l.flatMap f).length = (l.map fun a => (f a).length).sum := by
  induction l with
  | nil => simp
  | cons a l ih => simp [ih]
theorem bltxt_len (n₀ : Nat) (W : World) (b : Bl) : b.Is n₀ W → b.okb → ∀ o, o + b.sz ≤ 1000 → (b.txt o).length ≤ 23000 * b.sz :=
  Bl.ind (P := fun s => s.Is n₀ W → s.ok1 = true → (∀ x ∈ s.blocks, x.okb) → ∀ o, o + s.tot ≤ 1000 → (s.txt o).length ≤ 23000 * s.tot) (Q := fun b => b.Is n₀ W → b.okb → ∀ o, o + b.sz ≤ 1000 → (b.txt o).length ≤ 23000 * b.sz)
    (fun kind mon name n e ad cap blocks pos ih hI hok hbs o ho => by
      obtain ⟨hk, hm, hn, -, he, -, hl⟩ := St.ok_parts hok
      rw [St.txt_mk]
      rw [St.tot_mk] at ho ⊢
      have hb : (blocks.map fun b => (b.txt (o + 1)).length).sum ≤ (blocks.map fun b => 23000 * b.sz).sum := map_sum_le _ _ _ (fun b hb' => ih b hb' (hI.down.2.2.2 b hb') (hbs b hb') (o + 1) (by have := sum_ge Bl.sz blocks b hb'; omega))
      have hb2 : (blocks.map fun b => 23000 * b.sz).sum = 23000 * (blocks.map Bl.sz).sum := by rw [← sum_mul, List.map_map]; rfl
      have hx : 2 ≤ kind → kind ≤ 4 → (e.txt 1).length ≤ 100 * (if e.none then 0 else e.subs.length) + 2 := fun h1 h2 => by
        have hok := ex_of_fits he (by simp [stExpr]; omega)
        have h3 := bare_len e n₀ W hI.down.2.1 hok
        have h4 := atL_len 1 e.opOf e.bare
        rw [ok_none hok]
        simp only [Bool.false_eq_true, if_false]
        unfold Ex.txt; omega
      have := stOf_len o kind mon name n (e.txt 1) (blocks.map fun b => b.txt (o + 1)) (by omega) (fits_len hm) (fits_len hn) hI.down.1.2.1 (by rw [List.length_map]; have := stMost_le kind.toNat; omega) _ hx
      rw [List.map_map] at this
      have e1 : (blocks.map (List.length ∘ fun b => b.txt (o + 1))).sum = (blocks.map fun b => (b.txt (o + 1)).length).sum := rfl
      rw [e1] at this
      omega)
    (fun ad cap body ih hI hok o ho => by
      rw [Bl.txt_mk, flat_len]
      rw [Bl.sz_mk] at ho ⊢
      have h1 : (body.map fun s => (s.txt o).length).sum ≤ (body.map fun s => 23000 * s.tot).sum := map_sum_le _ _ _ (fun s hs => ih s hs (hI.down.2 s hs) (Bl.okb_stmt hok s hs).1 (Bl.okb_stmt hok s hs).2 o (by have := sum_ge St.tot body s hs; omega))
      have h2 : (body.map fun s => 23000 * s.tot).sum = 23000 * (body.map St.tot).sum := by rw [← sum_mul, List.map_map]; rfl
      omega) b
theorem sttxt_len (n₀ : Nat) (W : World) (s : St) (hI : s.Is n₀ W) (hok : s.ok1 = true) (hbs : ∀ x ∈ s.blocks, x.okb) (o : Nat) (ho : o + s.tot ≤ 1000) : (s.txt o).length ≤ 23000 * s.tot := by
  rcases s with ⟨kind, mon, name, n, e, ad, cap, blocks, pos⟩
  obtain ⟨hk, hm, hn, -, he, -, hl⟩ := St.ok_parts hok
  rw [St.txt_mk]
  rw [St.tot_mk] at ho ⊢
  have hb : (blocks.map fun b => (b.txt (o + 1)).length).sum ≤ (blocks.map fun b => 23000 * b.sz).sum := map_sum_le _ _ _ (fun b hb' => bltxt_len n₀ W b (hI.down.2.2.2 b hb') (hbs b hb') (o + 1) (by have := sum_ge Bl.sz blocks b hb'; omega))
  have hb2 : (blocks.map fun b => 23000 * b.sz).sum = 23000 * (blocks.map Bl.sz).sum := by rw [← sum_mul, List.map_map]; rfl
  have hx : 2 ≤ kind → kind ≤ 4 → (e.txt 1).length ≤ 100 * (if e.none then 0 else e.subs.length) + 2 := fun h1 h2 => by
    have hok := ex_of_fits he (by simp [stExpr]; omega)
    have h3 := bare_len e n₀ W hI.down.2.1 hok
    have h4 := atL_len 1 e.opOf e.bare
    rw [ok_none hok]
    simp only [Bool.false_eq_true, if_false]
    unfold Ex.txt; omega
  have := stOf_len o kind mon name n (e.txt 1) (blocks.map fun b => b.txt (o + 1)) (by omega) (fits_len hm) (fits_len hn) hI.down.1.2.1 (by rw [List.length_map]; have := stMost_le kind.toNat; omega) _ hx
  rw [List.map_map] at this
  have e1 : (blocks.map (List.length ∘ fun b => b.txt (o + 1))).sum = (blocks.map fun b => (b.txt (o + 1)).length).sum := rfl
  rw [e1] at this
  omega
end Go.Proofs.YtnljhlmopjgogaaGreatDoor
