/-
  parts of package tree hands back an iterator over an expression and all its parts.
-/
import Derived.Test.YtopiceoofdlkbaaDoorItA
namespace Go.Proofs.YtopiceoofdlkbaaDoor
open Go.RowKit Go.Shelf
attribute [local go_sem] Oper.semAt_some
/-- The six cells of an expression. -/
def ExBox (W : World) (b : Nat) (e : Ex) : Prop := W.heap[b]? = some (.cells e.cells.toArray 28 (0, 0))
theorem ExBox.cells {W : World} {b : Nat} {op : Int} {mon name : ByteArray} {n : Int} {ad : Option Addr} {cap : Nat} {kids : List Ex} {pos : Int} (h : ExBox W b (.mk op mon name n ad cap kids pos)) :
    W.cell? ⟨b, 0, none⟩ = some (.int .i64 op) ∧ W.cell? ⟨b, 1, none⟩ = some (.string mon) ∧ W.cell? ⟨b, 2, none⟩ = some (.string name) ∧ W.cell? ⟨b, 3, none⟩ = some (.int .i64 n) ∧ W.cell? ⟨b, 4, none⟩ = some (.slice ad kids.length cap) ∧ W.cell? ⟨b, 5, none⟩ = some (.int .i64 pos) := by
  have h' : W.heap[b]? = some (.cells #[.int .i64 op, .string mon, .string name, .int .i64 n, .slice ad kids.length cap, .int .i64 pos] 28 (0, 0)) := h
  exact ⟨cell_of h' 0, cell_of h' 1, cell_of h' 2, cell_of h' 3, cell_of h' 4, cell_of h' 5⟩
theorem ExBox.lt {W : World} {b : Nat} {e : Ex} (h : ExBox W b e) : b < W.heap.size := (Array.getElem?_eq_some_iff.1 h).1
theorem ExBox.below {W W' : World} {b n : Nat} {e : Ex} (h : ExBox W b e) (hb : Below n W W') (hlt : b < n) : ExBox W' b e := (hb.block b hlt).trans h
theorem ExBox.new (W : World) (e : Ex) : ExBox (W.alloc (.cells e.cells.toArray 28)) W.heap.size e := World.alloc_heap_new W _
set_option maxHeartbeats 1000000 in
theorem parts1_in (F : Fence) (hd : F.depth = none) (n : Nat) (h54 : F.fn 54) (h55 : F.fn 55) (hro : F.round = none) (l Bt n₀ B : Nat) (w : World) (hn₀ : n₀ ≤ w.heap.size) (hBw : B ≤ w.heap.size) (T : Ex) (hT : T.Is n₀ w) (J Jx : List (ExA n₀ w) → World → Prop)
    (hJA : ∀ pre W o, J pre W → J pre (W.alloc o))
    (hY : ∀ pre (x : ExA n₀ w) W, J pre W → pre.length < T.subs.length → YieldAt F (n - 1) Tryd.prog l #[x.1.val] W fun e W' =>
      (e = .returned (.bool true) ∧ J (pre ++ [x]) W' ∧ Kp n₀ B W W') ∨ (e = .returned (.bool false) ∧ Jx (pre ++ [x]) W'))
    (W : World) (hW : Below n₀ w W) (hBt : ExBox W Bt T) (h0 : J [] W) :
    CallsIn F n Tryd.prog 54 #[.func (.yield l) #[] #[], .pointer (some ⟨Bt, 0, none⟩)] W fun e W' => (∃ v, e = .returned v) ∧
      ((∃ ys : List (ExA n₀ w), ys.map Subtype.val = T.subs ∧ J ys W') ∨ (∃ pre : List (ExA n₀ w), pre.map Subtype.val <+: T.subs ∧ Jx pre W')) := by
  have hdd : ∀ k : Nat, (F.depth.isSome = true → 1 ≤ k) := fun k h => by rw [hd] at h; cases h
  have hp := passExpr_in F hd h55 hro l n₀ B T.subs.length w hn₀ hBw J Jx hJA (fun m pre x W hj hl => yieldAt_anyDepth hd m (hY pre x W hj hl)) T (n - 1) [] W hT hW h0 (by simp)
  rcases T with ⟨op, mon, name, k, ad, cap, kids, pos⟩
  obtain ⟨c0, c1, c2, c3, c4, c5⟩ := hBt.cells
  have HSU := hid (Ex.subs_mk op mon name k ad cap kids pos)
  simp only [Ex.val, Ex.cells] at hp
  refine callsIn_of_wp Tryd.func54 rfl h54 ?_ hro
  simp only [Tryd.ntmps54, List.size_toArray, List.length_cons, List.length_nil, Nat.reduceAdd, Nat.reduceSub, Array.replicate_succ, Array.replicate_zero, List.push_toArray, List.append_toArray, List.nil_append, List.cons_append]
  gi_wp2_with ((try refine ⟨hdd _, ?_⟩); gi_at_call 55; refine hp.mono ?_; clear hp; rintro e W1 (⟨rfl, q, hq, hJ1, _⟩ | ⟨rfl, q, hq, hx⟩))
  · go_end0
    exact ⟨⟨_, rfl⟩, .inl ⟨_, hq, by simpa using hJ1⟩⟩
  · go_end0
    exact ⟨⟨_, rfl⟩, .inr ⟨q, hq, by simpa using hx⟩⟩
set_option maxHeartbeats 1000000 in
theorem parts_in (F : Fence) (n : Nat) (h37 : F.fn 37) (hro : F.round = none) (T : Ex) (w : World) :
    CallsIn F n Tryd.prog 37 #[T.val] w fun e w' => e = .returned (.func (.func 54) #[] #[.pointer (some ⟨w.heap.size, 0, none⟩)]) ∧ w' = w.alloc (.cells T.cells.toArray 28) := by
  rcases T with ⟨op, mon, name, k, ad, cap, kids, pos⟩
  simp only [Ex.val, Ex.cells]
  refine callsIn_of_wp Tryd.func37 rfl h37 ?_ hro
  simp only [Tryd.ntmps37, List.size_toArray, List.length_cons, List.length_nil, Nat.reduceAdd, Nat.reduceSub, Array.replicate_succ, Array.replicate_zero, List.push_toArray, List.append_toArray, List.nil_append, List.cons_append]
  gi_wp2
  go_ret
  exact ⟨rfl, rfl⟩
theorem parts_stops (F : Fence) (hd : F.depth = none) (n : Nat) (h54 : F.fn 54) (h55 : F.fn 55) (hro : F.round = none) (Bt n₀ B : Nat) (w : World) (hn₀ : n₀ ≤ w.heap.size) (hBw : B ≤ w.heap.size) (T : Ex) (hT : T.Is n₀ w) (hBt : ExBox w Bt T) :
    SeqStopsK F n Tryd.prog 54 #[.pointer (some ⟨Bt, 0, none⟩)] (fun x : ExA n₀ w => #[x.1.val]) (Kp n₀ B) (fun ys => ys.map Subtype.val = T.subs) (fun pre => pre.map Subtype.val <+: T.subs) T.subs.length w := fun l J Jx W hW hJ _ hY h0 =>
  parts1_in F hd n h54 h55 hro l Bt n₀ B w hn₀ hBw T hT J Jx (fun pre W' o hj => hJ pre W' _ none hj (World.grownBy_alloc W' o none) (fun r e => by cases e)) hY W (hW.mono hn₀) (hBt.below hW hBt.lt) h0
end Go.Proofs.YtopiceoofdlkbaaDoor
