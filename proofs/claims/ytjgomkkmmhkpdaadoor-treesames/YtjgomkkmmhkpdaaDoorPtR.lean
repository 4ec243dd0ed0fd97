/-
  The regions of the statement TreeParts that draw their order.
-/
import Derived.Test.YtjgomkkmmhkpdaaDoorPtA
import Derived.RegionTactic
namespace Go.Proofs.YtjgomkkmmhkpdaaDoor
open Go.RowKit
theorem six_keep {W W' : World} {p : Nat} {c0 c1 c2 c3 c4 c5 : Value} (h : W.cell? ⟨p, 0, none⟩ = some c0 ∧ W.cell? ⟨p, 1, none⟩ = some c1 ∧ W.cell? ⟨p, 2, none⟩ = some c2 ∧ W.cell? ⟨p, 3, none⟩ = some c3 ∧ W.cell? ⟨p, 4, none⟩ = some c4 ∧ W.cell? ⟨p, 5, none⟩ = some c5) (hb : Below W.heap.size W W') :
    W'.cell? ⟨p, 0, none⟩ = some c0 ∧ W'.cell? ⟨p, 1, none⟩ = some c1 ∧ W'.cell? ⟨p, 2, none⟩ = some c2 ∧ W'.cell? ⟨p, 3, none⟩ = some c3 ∧ W'.cell? ⟨p, 4, none⟩ = some c4 ∧ W'.cell? ⟨p, 5, none⟩ = some c5 := by
  have hp := lt_of_cell h.1
  obtain ⟨h0, h1, h2, h3, h4, h5⟩ := h
  exact ⟨(hb.cell (p := ⟨p, 0, none⟩) hp).trans h0, (hb.cell (p := ⟨p, 1, none⟩) hp).trans h1, (hb.cell (p := ⟨p, 2, none⟩) hp).trans h2, (hb.cell (p := ⟨p, 3, none⟩) hp).trans h3, (hb.cell (p := ⟨p, 4, none⟩) hp).trans h4, (hb.cell (p := ⟨p, 5, none⟩) hp).trans h5⟩
theorem two_keep {W W' v : World} {p q k : Nat} {c0 c1 c2 c3 c4 c5 d0 d1 d2 d3 d4 d5 : Value}
    (h : ((W.cell? ⟨p, 0, none⟩ = some c0 ∧ W.cell? ⟨p, 1, none⟩ = some c1 ∧ W.cell? ⟨p, 2, none⟩ = some c2 ∧ W.cell? ⟨p, 3, none⟩ = some c3 ∧ W.cell? ⟨p, 4, none⟩ = some c4 ∧ W.cell? ⟨p, 5, none⟩ = some c5) ∧
      (W.cell? ⟨q, 0, none⟩ = some d0 ∧ W.cell? ⟨q, 1, none⟩ = some d1 ∧ W.cell? ⟨q, 2, none⟩ = some d2 ∧ W.cell? ⟨q, 3, none⟩ = some d3 ∧ W.cell? ⟨q, 4, none⟩ = some d4 ∧ W.cell? ⟨q, 5, none⟩ = some d5)) ∧ Below v.heap.size v W ∧ k ≤ W.heap.size) (hb : Below W.heap.size W W') :
    ((W'.cell? ⟨p, 0, none⟩ = some c0 ∧ W'.cell? ⟨p, 1, none⟩ = some c1 ∧ W'.cell? ⟨p, 2, none⟩ = some c2 ∧ W'.cell? ⟨p, 3, none⟩ = some c3 ∧ W'.cell? ⟨p, 4, none⟩ = some c4 ∧ W'.cell? ⟨p, 5, none⟩ = some c5) ∧
      (W'.cell? ⟨q, 0, none⟩ = some d0 ∧ W'.cell? ⟨q, 1, none⟩ = some d1 ∧ W'.cell? ⟨q, 2, none⟩ = some d2 ∧ W'.cell? ⟨q, 3, none⟩ = some d3 ∧ W'.cell? ⟨q, 4, none⟩ = some d4 ∧ W'.cell? ⟨q, 5, none⟩ = some d5)) ∧ Below v.heap.size v W' ∧ k ≤ W'.heap.size :=
  ⟨⟨six_keep h.1.1 hb, six_keep h.1.2 hb⟩, h.2.1.tr le_rfl' hb, by have := h.2.2; have := hb.size; omega⟩
theorem six_new {W : World} {c0 c1 c2 c3 c4 c5 : Value} {t : TypeId} {p : Nat} (hp : W.heap.size = p) : (W.alloc (.cells #[c0, c1, c2, c3, c4, c5] t)).cell? ⟨p, 0, none⟩ = some c0 ∧ (W.alloc (.cells #[c0, c1, c2, c3, c4, c5] t)).cell? ⟨p, 1, none⟩ = some c1 ∧ (W.alloc (.cells #[c0, c1, c2, c3, c4, c5] t)).cell? ⟨p, 2, none⟩ = some c2 ∧ (W.alloc (.cells #[c0, c1, c2, c3, c4, c5] t)).cell? ⟨p, 3, none⟩ = some c3 ∧ (W.alloc (.cells #[c0, c1, c2, c3, c4, c5] t)).cell? ⟨p, 4, none⟩ = some c4 ∧ (W.alloc (.cells #[c0, c1, c2, c3, c4, c5] t)).cell? ⟨p, 5, none⟩ = some c5 := by
  have h : (W.alloc (.cells #[c0, c1, c2, c3, c4, c5] t)).heap[p]? = some (.cells #[c0, c1, c2, c3, c4, c5] t (0, 0)) := heapAt _ hp
  exact ⟨cell_of h 0, cell_of h 1, cell_of h 2, cell_of h 3, cell_of h 4, cell_of h 5⟩
def r1Ops : Array Oper := #[{ dst := some 12, op := Op.load 33 (Operand.tmp 2), type := 33, pos := "law.go:74", after := #[], guard := none }, { dst := some 13, op := Op.call { callee := Callee.value (Operand.func 12), args := #[Operand.tmp 12, Operand.const (Value.int IntKind.i64 400)], argTypes := #[33, 3] }, type := 3, pos := "law.go:74", after := #[{ on := 0, ground := Ground.data }], guard := none }, { dst := some 14, op := Op.binOp BinOp.lss 3 (Operand.tmp 13) (Operand.const (Value.int IntKind.i64 0)) 3, type := 4, pos := "law.go:74", after := #[{ on := 1, ground := Ground.data }], guard := none }, { dst := some 15, op := Op.move (Operand.tmp 14), type := 4, pos := "law.go:74", after := #[{ on := 2, ground := Ground.data }, { on := 1, ground := Ground.chain }], guard := none }, { dst := some 16, op := Op.load 33 (Operand.tmp 3), type := 33, pos := "law.go:74", after := #[{ on := 3, ground := Ground.guard }], guard := some (3, false) }, { dst := some 17, op := Op.call { callee := Callee.value (Operand.func 12), args := #[Operand.tmp 16, Operand.const (Value.int IntKind.i64 400)], argTypes := #[33, 3] }, type := 3, pos := "law.go:74", after := #[{ on := 4, ground := Ground.data }, { on := 3, ground := Ground.chain }, { on := 3, ground := Ground.guard }], guard := some (3, false) }, { dst := some 18, op := Op.binOp BinOp.lss 3 (Operand.tmp 17) (Operand.const (Value.int IntKind.i64 0)) 3, type := 4, pos := "law.go:74", after := #[{ on := 5, ground := Ground.data }, { on := 3, ground := Ground.guard }], guard := some (3, false) }, { dst := some 19, op := Op.pick (Operand.tmp 15) (Operand.const (Value.bool true)) (Operand.tmp 18), type := 4, pos := "law.go:74", after := #[{ on := 3, ground := Ground.data }, { on := 6, ground := Ground.data }], guard := none }, { dst := some 20, op := Op.move (Operand.tmp 19), type := 4, pos := "law.go:74", after := #[{ on := 7, ground := Ground.data }, { on := 5, ground := Ground.chain }], guard := none }, { dst := some 21, op := Op.load 33 (Operand.tmp 2), type := 33, pos := "law.go:74", after := #[{ on := 8, ground := Ground.guard }], guard := some (8, false) }, { dst := some 22, op := Op.call { callee := Callee.value (Operand.func 13), args := #[Operand.tmp 21], argTypes := #[33] }, type := 28, pos := "law.go:74", after := #[{ on := 9, ground := Ground.data }, { on := 8, ground := Ground.chain }, { on := 8, ground := Ground.guard }], guard := some (8, false) }, { dst := some 23, op := Op.load 33 (Operand.tmp 3), type := 33, pos := "law.go:74", after := #[{ on := 8, ground := Ground.guard }], guard := some (8, false) }, { dst := some 24, op := Op.call { callee := Callee.value (Operand.func 13), args := #[Operand.tmp 23], argTypes := #[33] }, type := 28, pos := "law.go:74", after := #[{ on := 11, ground := Ground.data }, { on := 10, ground := Ground.chain }, { on := 8, ground := Ground.guard }], guard := some (8, false) }, { dst := some 25, op := Op.binOp BinOp.add 3 (Operand.tmp 22) (Operand.tmp 24) 3, type := 3, pos := "law.go:74", after := #[{ on := 10, ground := Ground.data }, { on := 12, ground := Ground.data }, { on := 8, ground := Ground.guard }], guard := some (8, false) }, { dst := some 26, op := Op.binOp BinOp.neq 3 (Operand.tmp 25) (Operand.const (Value.int IntKind.i64 0)) 3, type := 4, pos := "law.go:74", after := #[{ on := 13, ground := Ground.data }, { on := 8, ground := Ground.guard }], guard := some (8, false) }, { dst := some 27, op := Op.pick (Operand.tmp 20) (Operand.const (Value.bool true)) (Operand.tmp 26), type := 4, pos := "law.go:74", after := #[{ on := 8, ground := Ground.data }, { on := 14, ground := Ground.data }], guard := none }]
theorem mixedP : Tryd.prog.follows .mixedOrders = true := by kernel_rfl
theorem drew_below (W : World) : Below W.heap.size W { W with drawn := W.drawn + 1 } := ⟨rfl, rfl, rfl, Nat.le_refl _, fun _ _ => rfl⟩
set_option maxRecDepth 100000 in
set_option maxHeartbeats 4000000 in
theorem reg1A {Q : Exit → Act → World → Prop} (t0 t1 t4 c0 c1 c2 c3 c4 c5 d0 d1 d2 d3 d4 d5 : Value) (p q : Nat) (ra : Int) (W : World) (hc : (W.cell? ⟨p, 0, none⟩ = some c0 ∧ W.cell? ⟨p, 1, none⟩ = some c1 ∧ W.cell? ⟨p, 2, none⟩ = some c2 ∧ W.cell? ⟨p, 3, none⟩ = some c3 ∧ W.cell? ⟨p, 4, none⟩ = some c4 ∧ W.cell? ⟨p, 5, none⟩ = some c5)) (hd : (W.cell? ⟨q, 0, none⟩ = some d0 ∧ W.cell? ⟨q, 1, none⟩ = some d1 ∧ W.cell? ⟨q, 2, none⟩ = some d2 ∧ W.cell? ⟨q, 3, none⟩ = some d3 ∧ W.cell? ⟨q, 4, none⟩ = some d4 ∧ W.cell? ⟨q, 5, none⟩ = some d5))
    (h12a : ∀ W', Below W.heap.size W W' → Calls Tryd.prog 12 #[.agg #[c0, c1, c2, c3, c4, c5], .int .i64 400] W' fun r w' => r = .returned (.int .i64 ra) ∧ Below W'.heap.size W' w')  
    (ha : decide (ra < 0) = true)
    (hQ : ∀ w', Below W.heap.size W w' → Q .normal { tmps := #[t0, t1, .pointer (some ⟨p, 0, none⟩), .pointer (some ⟨q, 0, none⟩), t4, undef, undef, undef, undef, undef, undef, undef, .agg #[c0, c1, c2, c3, c4, c5], .int .i64 ra, .bool true, .bool true, undef, undef, undef, .bool true, .bool true, undef, undef, undef, undef, undef, undef, .bool true, undef, undef, undef, undef, undef, undef, undef, undef, undef, undef, undef, undef, undef, undef, undef, undef, undef, undef, undef, undef, undef, undef, undef, undef, undef, undef, undef, undef, undef, undef, undef, undef, undef, undef, undef, undef, undef, undef, undef, undef, undef, undef, undef, undef, undef, undef, undef, undef, undef, undef, undef, undef, undef, undef, undef, undef, undef, undef, undef, undef, undef, undef, undef, undef, undef, undef, undef, undef, undef, undef, undef, undef, undef], defers := [] } w') : (Code.region 1 r1Ops true).wp Tryd.prog Q { tmps := #[t0, t1, .pointer (some ⟨p, 0, none⟩), .pointer (some ⟨q, 0, none⟩), t4, undef, undef, undef, undef, undef, undef, undef, undef, undef, undef, undef, undef, undef, undef, undef, undef, undef, undef, undef, undef, undef, undef, undef, undef, undef, undef, undef, undef, undef, undef, undef, undef, undef, undef, undef, undef, undef, undef, undef, undef, undef, undef, undef, undef, undef, undef, undef, undef, undef, undef, undef, undef, undef, undef, undef, undef, undef, undef, undef, undef, undef, undef, undef, undef, undef, undef, undef, undef, undef, undef, undef, undef, undef, undef, undef, undef, undef, undef, undef, undef, undef, undef, undef, undef, undef, undef, undef, undef, undef, undef, undef, undef, undef, undef, undef, undef], defers := [] } W := by
  dsimp only at hQ ⊢
  refine wp_region_any mixedP ?_
  obtain ⟨w0, hw0⟩ : ∃ U : World, ({ W with drawn := W.drawn + 1 } : World) = U := ⟨_, rfl⟩
  have B0 : Below W.heap.size W w0 := by rw [← hw0]; exact drew_below W
  rw [hw0]
  clear hw0
  obtain ⟨e0, e1, e2, e3, e4, e5⟩ := six_keep hc B0
  obtain ⟨f0, f1, f2, f3, f4, f5⟩ := six_keep hd B0
  show wpAny Tryd.prog .any r1Ops Q 16 #[false, false, false, false, false, false, false, false, false, false, false, false, false, false, false, false] _ w0
  refine wpAny_ready (rs := [0]) (by kernel_rfl) (by simp) ?_
  refine AllReady.cons (o := { dst := some 12, op := Op.load 33 (Operand.tmp 2), type := 33, pos := "law.go:74", after := #[], guard := none }) rfl (fun _ _ => ?r10n1) (AllReady.nil)
  case r10n1 =>
    rw [if_pos (show Region.wanted _ _ = true from rfl)]
    go_wp2
    show wpAny Tryd.prog .any r1Ops Q 15 #[true, false, false, false, false, false, false, false, false, false, false, false, false, false, false, false] _ _
    refine wpAny_ready (rs := [1]) (by kernel_rfl) (by simp) ?_
    refine AllReady.cons (o := { dst := some 13, op := Op.call { callee := Callee.value (Operand.func 12), args := #[Operand.tmp 12, Operand.const (Value.int IntKind.i64 400)], argTypes := #[33, 3] }, type := 3, pos := "law.go:74", after := #[{ on := 0, ground := Ground.data }], guard := none }) rfl (fun _ _ => ?r11n2) (AllReady.nil)
    case r11n2 =>
      rw [if_pos (show Region.wanted _ _ = true from rfl)]
      go_wp2_with (go_at_call 12; refine (h12a _ B0).mono ?_; rintro r w1 ⟨rfl, bb1⟩; have B1 := Below.tr B0 le_rfl' bb1; obtain ⟨e0, e1, e2, e3, e4, e5⟩ := six_keep hc B1; obtain ⟨f0, f1, f2, f3, f4, f5⟩ := six_keep hd B1)
      show wpAny Tryd.prog .any r1Ops Q 14 #[true, true, false, false, false, false, false, false, false, false, false, false, false, false, false, false] _ _
      refine wpAny_ready (rs := [2]) (by kernel_rfl) (by simp) ?_
      refine AllReady.cons (o := { dst := some 14, op := Op.binOp BinOp.lss 3 (Operand.tmp 13) (Operand.const (Value.int IntKind.i64 0)) 3, type := 4, pos := "law.go:74", after := #[{ on := 1, ground := Ground.data }], guard := none }) rfl (fun _ _ => ?r12n3) (AllReady.nil)
      case r12n3 =>
        rw [if_pos (show Region.wanted _ _ = true from rfl)]
        go_wp2
        show wpAny Tryd.prog .any r1Ops Q 13 #[true, true, true, false, false, false, false, false, false, false, false, false, false, false, false, false] _ _
        refine wpAny_ready (rs := [3]) (by kernel_rfl) (by simp) ?_
        refine AllReady.cons (o := { dst := some 15, op := Op.move (Operand.tmp 14), type := 4, pos := "law.go:74", after := #[{ on := 2, ground := Ground.data }, { on := 1, ground := Ground.chain }], guard := none }) rfl (fun _ _ => ?r13n4) (AllReady.nil)
        case r13n4 =>
          rw [if_pos (show Region.wanted _ _ = true from rfl)]
          go_wp2
          show wpAny Tryd.prog .any r1Ops Q 12 #[true, true, true, true, false, false, false, false, false, false, false, false, false, false, false, false] _ _
          refine wpAny_ready (rs := [4]) (by kernel_rfl) (by simp) ?_
          refine AllReady.cons (o := { dst := some 16, op := Op.load 33 (Operand.tmp 3), type := 33, pos := "law.go:74", after := #[{ on := 3, ground := Ground.guard }], guard := some (3, false) }) rfl (fun _ _ => ?r14n5) (AllReady.nil)
          case r14n5 =>
            rw [if_neg (by simp [Region.wanted, yielded, r1Ops])]
            go_wp2
            show wpAny Tryd.prog .any r1Ops Q 11 #[true, true, true, true, true, false, false, false, false, false, false, false, false, false, false, false] _ _
            refine wpAny_ready (rs := [5]) (by kernel_rfl) (by simp) ?_
            refine AllReady.cons (o := { dst := some 17, op := Op.call { callee := Callee.value (Operand.func 12), args := #[Operand.tmp 16, Operand.const (Value.int IntKind.i64 400)], argTypes := #[33, 3] }, type := 3, pos := "law.go:74", after := #[{ on := 4, ground := Ground.data }, { on := 3, ground := Ground.chain }, { on := 3, ground := Ground.guard }], guard := some (3, false) }) rfl (fun _ _ => ?r15n6) (AllReady.nil)
            case r15n6 =>
              rw [if_neg (by simp [Region.wanted, yielded, r1Ops])]
              go_wp2
              show wpAny Tryd.prog .any r1Ops Q 10 #[true, true, true, true, true, true, false, false, false, false, false, false, false, false, false, false] _ _
              refine wpAny_ready (rs := [6]) (by kernel_rfl) (by simp) ?_
              refine AllReady.cons (o := { dst := some 18, op := Op.binOp BinOp.lss 3 (Operand.tmp 17) (Operand.const (Value.int IntKind.i64 0)) 3, type := 4, pos := "law.go:74", after := #[{ on := 5, ground := Ground.data }, { on := 3, ground := Ground.guard }], guard := some (3, false) }) rfl (fun _ _ => ?r16n7) (AllReady.nil)
              case r16n7 =>
                rw [if_neg (by simp [Region.wanted, yielded, r1Ops])]
                go_wp2
                show wpAny Tryd.prog .any r1Ops Q 9 #[true, true, true, true, true, true, true, false, false, false, false, false, false, false, false, false] _ _
                refine wpAny_ready (rs := [7]) (by kernel_rfl) (by simp) ?_
                refine AllReady.cons (o := { dst := some 19, op := Op.pick (Operand.tmp 15) (Operand.const (Value.bool true)) (Operand.tmp 18), type := 4, pos := "law.go:74", after := #[{ on := 3, ground := Ground.data }, { on := 6, ground := Ground.data }], guard := none }) rfl (fun _ _ => ?r17n8) (AllReady.nil)
                case r17n8 =>
                  rw [if_pos (show Region.wanted _ _ = true from rfl)]
                  go_wp2
                  show wpAny Tryd.prog .any r1Ops Q 8 #[true, true, true, true, true, true, true, true, false, false, false, false, false, false, false, false] _ _
                  refine wpAny_ready (rs := [8]) (by kernel_rfl) (by simp) ?_
                  refine AllReady.cons (o := { dst := some 20, op := Op.move (Operand.tmp 19), type := 4, pos := "law.go:74", after := #[{ on := 7, ground := Ground.data }, { on := 5, ground := Ground.chain }], guard := none }) rfl (fun _ _ => ?r18n9) (AllReady.nil)
                  case r18n9 =>
                    rw [if_pos (show Region.wanted _ _ = true from rfl)]
                    go_wp2
                    show wpAny Tryd.prog .any r1Ops Q 7 #[true, true, true, true, true, true, true, true, true, false, false, false, false, false, false, false] _ _
                    refine wpAny_ready (rs := [9, 11]) (by kernel_rfl) (by simp) ?_
                    refine AllReady.cons (o := { dst := some 21, op := Op.load 33 (Operand.tmp 2), type := 33, pos := "law.go:74", after := #[{ on := 8, ground := Ground.guard }], guard := some (8, false) }) rfl (fun _ _ => ?r19n10) (AllReady.cons (o := { dst := some 23, op := Op.load 33 (Operand.tmp 3), type := 33, pos := "law.go:74", after := #[{ on := 8, ground := Ground.guard }], guard := some (8, false) }) rfl (fun _ _ => ?r111n10) (AllReady.nil))
                    case r19n10 =>
                      rw [if_neg (by simp [Region.wanted, yielded, r1Ops])]
                      go_wp2
                      show wpAny Tryd.prog .any r1Ops Q 6 #[true, true, true, true, true, true, true, true, true, true, false, false, false, false, false, false] _ _
                      refine wpAny_ready (rs := [10, 11]) (by kernel_rfl) (by simp) ?_
                      refine AllReady.cons (o := { dst := some 22, op := Op.call { callee := Callee.value (Operand.func 13), args := #[Operand.tmp 21], argTypes := #[33] }, type := 28, pos := "law.go:74", after := #[{ on := 9, ground := Ground.data }, { on := 8, ground := Ground.chain }, { on := 8, ground := Ground.guard }], guard := some (8, false) }) rfl (fun _ _ => ?r110n11) (AllReady.cons (o := { dst := some 23, op := Op.load 33 (Operand.tmp 3), type := 33, pos := "law.go:74", after := #[{ on := 8, ground := Ground.guard }], guard := some (8, false) }) rfl (fun _ _ => ?r111n11) (AllReady.nil))
                      case r110n11 =>
                        rw [if_neg (by simp [Region.wanted, yielded, r1Ops])]
                        go_wp2
                        show wpAny Tryd.prog .any r1Ops Q 5 #[true, true, true, true, true, true, true, true, true, true, true, false, false, false, false, false] _ _
                        refine wpAny_ready (rs := [11]) (by kernel_rfl) (by simp) ?_
                        refine AllReady.cons (o := { dst := some 23, op := Op.load 33 (Operand.tmp 3), type := 33, pos := "law.go:74", after := #[{ on := 8, ground := Ground.guard }], guard := some (8, false) }) rfl (fun _ _ => ?r111n12) (AllReady.nil)
                        case r111n12 =>
                          rw [if_neg (by simp [Region.wanted, yielded, r1Ops])]
                          go_wp2
                          show wpAny Tryd.prog .any r1Ops Q 4 #[true, true, true, true, true, true, true, true, true, true, true, true, false, false, false, false] _ _
                          refine wpAny_ready (rs := [12]) (by kernel_rfl) (by simp) ?_
                          refine AllReady.cons (o := { dst := some 24, op := Op.call { callee := Callee.value (Operand.func 13), args := #[Operand.tmp 23], argTypes := #[33] }, type := 28, pos := "law.go:74", after := #[{ on := 11, ground := Ground.data }, { on := 10, ground := Ground.chain }, { on := 8, ground := Ground.guard }], guard := some (8, false) }) rfl (fun _ _ => ?r112n13) (AllReady.nil)
                          case r112n13 =>
                            rw [if_neg (by simp [Region.wanted, yielded, r1Ops])]
                            go_wp2
                            show wpAny Tryd.prog .any r1Ops Q 3 #[true, true, true, true, true, true, true, true, true, true, true, true, true, false, false, false] _ _
                            refine wpAny_ready (rs := [13]) (by kernel_rfl) (by simp) ?_
                            refine AllReady.cons (o := { dst := some 25, op := Op.binOp BinOp.add 3 (Operand.tmp 22) (Operand.tmp 24) 3, type := 3, pos := "law.go:74", after := #[{ on := 10, ground := Ground.data }, { on := 12, ground := Ground.data }, { on := 8, ground := Ground.guard }], guard := some (8, false) }) rfl (fun _ _ => ?r113n14) (AllReady.nil)
                            case r113n14 =>
                              rw [if_neg (by simp [Region.wanted, yielded, r1Ops])]
                              go_wp2
                              show wpAny Tryd.prog .any r1Ops Q 2 #[true, true, true, true, true, true, true, true, true, true, true, true, true, true, false, false] _ _
                              refine wpAny_ready (rs := [14]) (by kernel_rfl) (by simp) ?_
                              refine AllReady.cons (o := { dst := some 26, op := Op.binOp BinOp.neq 3 (Operand.tmp 25) (Operand.const (Value.int IntKind.i64 0)) 3, type := 4, pos := "law.go:74", after := #[{ on := 13, ground := Ground.data }, { on := 8, ground := Ground.guard }], guard := some (8, false) }) rfl (fun _ _ => ?r114n15) (AllReady.nil)
                              case r114n15 =>
                                rw [if_neg (by simp [Region.wanted, yielded, r1Ops])]
                                go_wp2
                                show wpAny Tryd.prog .any r1Ops Q 1 #[true, true, true, true, true, true, true, true, true, true, true, true, true, true, true, false] _ _
                                refine wpAny_ready (rs := [15]) (by kernel_rfl) (by simp) ?_
                                refine AllReady.cons (o := { dst := some 27, op := Op.pick (Operand.tmp 20) (Operand.const (Value.bool true)) (Operand.tmp 26), type := 4, pos := "law.go:74", after := #[{ on := 8, ground := Ground.data }, { on := 14, ground := Ground.data }], guard := none }) rfl (fun _ _ => ?r115n16) (AllReady.nil)
                                case r115n16 =>
                                  rw [if_pos (show Region.wanted _ _ = true from rfl)]
                                  go_wp2
                                  show wpAny Tryd.prog .any r1Ops Q 0 #[true, true, true, true, true, true, true, true, true, true, true, true, true, true, true, true] _ _
                                  exact wpAny_done (by kernel_rfl) (hQ _ B1) _
                      case r111n11 =>
                        rw [if_neg (by simp [Region.wanted, yielded, r1Ops])]
                        go_wp2
                        show wpAny Tryd.prog .any r1Ops Q 5 #[true, true, true, true, true, true, true, true, true, true, false, true, false, false, false, false] _ _
                        refine wpAny_ready (rs := [10]) (by kernel_rfl) (by simp) ?_
                        refine AllReady.cons (o := { dst := some 22, op := Op.call { callee := Callee.value (Operand.func 13), args := #[Operand.tmp 21], argTypes := #[33] }, type := 28, pos := "law.go:74", after := #[{ on := 9, ground := Ground.data }, { on := 8, ground := Ground.chain }, { on := 8, ground := Ground.guard }], guard := some (8, false) }) rfl (fun _ _ => ?r110n18) (AllReady.nil)
                        case r110n18 =>
                          rw [if_neg (by simp [Region.wanted, yielded, r1Ops])]
                          go_wp2
                          show wpAny Tryd.prog .any r1Ops Q 4 #[true, true, true, true, true, true, true, true, true, true, true, true, false, false, false, false] _ _
                          refine wpAny_ready (rs := [12]) (by kernel_rfl) (by simp) ?_
                          refine AllReady.cons (o := { dst := some 24, op := Op.call { callee := Callee.value (Operand.func 13), args := #[Operand.tmp 23], argTypes := #[33] }, type := 28, pos := "law.go:74", after := #[{ on := 11, ground := Ground.data }, { on := 10, ground := Ground.chain }, { on := 8, ground := Ground.guard }], guard := some (8, false) }) rfl (fun _ _ => ?r112n19) (AllReady.nil)
                          case r112n19 =>
                            rw [if_neg (by simp [Region.wanted, yielded, r1Ops])]
                            go_wp2
                            show wpAny Tryd.prog .any r1Ops Q 3 #[true, true, true, true, true, true, true, true, true, true, true, true, true, false, false, false] _ _
                            refine wpAny_ready (rs := [13]) (by kernel_rfl) (by simp) ?_
                            refine AllReady.cons (o := { dst := some 25, op := Op.binOp BinOp.add 3 (Operand.tmp 22) (Operand.tmp 24) 3, type := 3, pos := "law.go:74", after := #[{ on := 10, ground := Ground.data }, { on := 12, ground := Ground.data }, { on := 8, ground := Ground.guard }], guard := some (8, false) }) rfl (fun _ _ => ?r113n20) (AllReady.nil)
                            case r113n20 =>
                              rw [if_neg (by simp [Region.wanted, yielded, r1Ops])]
                              go_wp2
                              show wpAny Tryd.prog .any r1Ops Q 2 #[true, true, true, true, true, true, true, true, true, true, true, true, true, true, false, false] _ _
                              refine wpAny_ready (rs := [14]) (by kernel_rfl) (by simp) ?_
                              refine AllReady.cons (o := { dst := some 26, op := Op.binOp BinOp.neq 3 (Operand.tmp 25) (Operand.const (Value.int IntKind.i64 0)) 3, type := 4, pos := "law.go:74", after := #[{ on := 13, ground := Ground.data }, { on := 8, ground := Ground.guard }], guard := some (8, false) }) rfl (fun _ _ => ?r114n21) (AllReady.nil)
                              case r114n21 =>
                                rw [if_neg (by simp [Region.wanted, yielded, r1Ops])]
                                go_wp2
                                show wpAny Tryd.prog .any r1Ops Q 1 #[true, true, true, true, true, true, true, true, true, true, true, true, true, true, true, false] _ _
                                refine wpAny_ready (rs := [15]) (by kernel_rfl) (by simp) ?_
                                refine AllReady.cons (o := { dst := some 27, op := Op.pick (Operand.tmp 20) (Operand.const (Value.bool true)) (Operand.tmp 26), type := 4, pos := "law.go:74", after := #[{ on := 8, ground := Ground.data }, { on := 14, ground := Ground.data }], guard := none }) rfl (fun _ _ => ?r115n22) (AllReady.nil)
                                case r115n22 =>
                                  rw [if_pos (show Region.wanted _ _ = true from rfl)]
                                  go_wp2
                                  show wpAny Tryd.prog .any r1Ops Q 0 #[true, true, true, true, true, true, true, true, true, true, true, true, true, true, true, true] _ _
                                  exact wpAny_done (by kernel_rfl) (hQ _ B1) _
                    case r111n10 =>
                      rw [if_neg (by simp [Region.wanted, yielded, r1Ops])]
                      go_wp2
                      show wpAny Tryd.prog .any r1Ops Q 6 #[true, true, true, true, true, true, true, true, true, false, false, true, false, false, false, false] _ _
                      refine wpAny_ready (rs := [9]) (by kernel_rfl) (by simp) ?_
                      refine AllReady.cons (o := { dst := some 21, op := Op.load 33 (Operand.tmp 2), type := 33, pos := "law.go:74", after := #[{ on := 8, ground := Ground.guard }], guard := some (8, false) }) rfl (fun _ _ => ?r19n24) (AllReady.nil)
                      case r19n24 =>
                        rw [if_neg (by simp [Region.wanted, yielded, r1Ops])]
                        go_wp2
                        show wpAny Tryd.prog .any r1Ops Q 5 #[true, true, true, true, true, true, true, true, true, true, false, true, false, false, false, false] _ _
                        refine wpAny_ready (rs := [10]) (by kernel_rfl) (by simp) ?_
                        refine AllReady.cons (o := { dst := some 22, op := Op.call { callee := Callee.value (Operand.func 13), args := #[Operand.tmp 21], argTypes := #[33] }, type := 28, pos := "law.go:74", after := #[{ on := 9, ground := Ground.data }, { on := 8, ground := Ground.chain }, { on := 8, ground := Ground.guard }], guard := some (8, false) }) rfl (fun _ _ => ?r110n25) (AllReady.nil)
                        case r110n25 =>
                          rw [if_neg (by simp [Region.wanted, yielded, r1Ops])]
                          go_wp2
                          show wpAny Tryd.prog .any r1Ops Q 4 #[true, true, true, true, true, true, true, true, true, true, true, true, false, false, false, false] _ _
                          refine wpAny_ready (rs := [12]) (by kernel_rfl) (by simp) ?_
                          refine AllReady.cons (o := { dst := some 24, op := Op.call { callee := Callee.value (Operand.func 13), args := #[Operand.tmp 23], argTypes := #[33] }, type := 28, pos := "law.go:74", after := #[{ on := 11, ground := Ground.data }, { on := 10, ground := Ground.chain }, { on := 8, ground := Ground.guard }], guard := some (8, false) }) rfl (fun _ _ => ?r112n26) (AllReady.nil)
                          case r112n26 =>
                            rw [if_neg (by simp [Region.wanted, yielded, r1Ops])]
                            go_wp2
                            show wpAny Tryd.prog .any r1Ops Q 3 #[true, true, true, true, true, true, true, true, true, true, true, true, true, false, false, false] _ _
                            refine wpAny_ready (rs := [13]) (by kernel_rfl) (by simp) ?_
                            refine AllReady.cons (o := { dst := some 25, op := Op.binOp BinOp.add 3 (Operand.tmp 22) (Operand.tmp 24) 3, type := 3, pos := "law.go:74", after := #[{ on := 10, ground := Ground.data }, { on := 12, ground := Ground.data }, { on := 8, ground := Ground.guard }], guard := some (8, false) }) rfl (fun _ _ => ?r113n27) (AllReady.nil)
                            case r113n27 =>
                              rw [if_neg (by simp [Region.wanted, yielded, r1Ops])]
                              go_wp2
                              show wpAny Tryd.prog .any r1Ops Q 2 #[true, true, true, true, true, true, true, true, true, true, true, true, true, true, false, false] _ _
                              refine wpAny_ready (rs := [14]) (by kernel_rfl) (by simp) ?_
                              refine AllReady.cons (o := { dst := some 26, op := Op.binOp BinOp.neq 3 (Operand.tmp 25) (Operand.const (Value.int IntKind.i64 0)) 3, type := 4, pos := "law.go:74", after := #[{ on := 13, ground := Ground.data }, { on := 8, ground := Ground.guard }], guard := some (8, false) }) rfl (fun _ _ => ?r114n28) (AllReady.nil)
                              case r114n28 =>
                                rw [if_neg (by simp [Region.wanted, yielded, r1Ops])]
                                go_wp2
                                show wpAny Tryd.prog .any r1Ops Q 1 #[true, true, true, true, true, true, true, true, true, true, true, true, true, true, true, false] _ _
                                refine wpAny_ready (rs := [15]) (by kernel_rfl) (by simp) ?_
                                refine AllReady.cons (o := { dst := some 27, op := Op.pick (Operand.tmp 20) (Operand.const (Value.bool true)) (Operand.tmp 26), type := 4, pos := "law.go:74", after := #[{ on := 8, ground := Ground.data }, { on := 14, ground := Ground.data }], guard := none }) rfl (fun _ _ => ?r115n29) (AllReady.nil)
                                case r115n29 =>
                                  rw [if_pos (show Region.wanted _ _ = true from rfl)]
                                  go_wp2
                                  show wpAny Tryd.prog .any r1Ops Q 0 #[true, true, true, true, true, true, true, true, true, true, true, true, true, true, true, true] _ _
                                  exact wpAny_done (by kernel_rfl) (hQ _ B1) _
set_option maxRecDepth 100000 in
set_option maxHeartbeats 4000000 in
theorem reg1B {Q : Exit → Act → World → Prop} (t0 t1 t4 c0 c1 c2 c3 c4 c5 d0 d1 d2 d3 d4 d5 : Value) (p q : Nat) (ra rb : Int) (W : World) (hc : (W.cell? ⟨p, 0, none⟩ = some c0 ∧ W.cell? ⟨p, 1, none⟩ = some c1 ∧ W.cell? ⟨p, 2, none⟩ = some c2 ∧ W.cell? ⟨p, 3, none⟩ = some c3 ∧ W.cell? ⟨p, 4, none⟩ = some c4 ∧ W.cell? ⟨p, 5, none⟩ = some c5)) (hd : (W.cell? ⟨q, 0, none⟩ = some d0 ∧ W.cell? ⟨q, 1, none⟩ = some d1 ∧ W.cell? ⟨q, 2, none⟩ = some d2 ∧ W.cell? ⟨q, 3, none⟩ = some d3 ∧ W.cell? ⟨q, 4, none⟩ = some d4 ∧ W.cell? ⟨q, 5, none⟩ = some d5))
    (h12a : ∀ W', Below W.heap.size W W' → Calls Tryd.prog 12 #[.agg #[c0, c1, c2, c3, c4, c5], .int .i64 400] W' fun r w' => r = .returned (.int .i64 ra) ∧ Below W'.heap.size W' w') (h12b : ∀ W', Below W.heap.size W W' → Calls Tryd.prog 12 #[.agg #[d0, d1, d2, d3, d4, d5], .int .i64 400] W' fun r w' => r = .returned (.int .i64 rb) ∧ Below W'.heap.size W' w') 
    (ha : decide (ra < 0) = false) (hb : decide (rb < 0) = true)
    (hQ : ∀ w', Below W.heap.size W w' → Q .normal { tmps := #[t0, t1, .pointer (some ⟨p, 0, none⟩), .pointer (some ⟨q, 0, none⟩), t4, undef, undef, undef, undef, undef, undef, undef, .agg #[c0, c1, c2, c3, c4, c5], .int .i64 ra, .bool false, .bool false, .agg #[d0, d1, d2, d3, d4, d5], .int .i64 rb, .bool true, .bool true, .bool true, undef, undef, undef, undef, undef, undef, .bool true, undef, undef, undef, undef, undef, undef, undef, undef, undef, undef, undef, undef, undef, undef, undef, undef, undef, undef, undef, undef, undef, undef, undef, undef, undef, undef, undef, undef, undef, undef, undef, undef, undef, undef, undef, undef, undef, undef, undef, undef, undef, undef, undef, undef, undef, undef, undef, undef, undef, undef, undef, undef, undef, undef, undef, undef, undef, undef, undef, undef, undef, undef, undef, undef, undef, undef, undef, undef, undef, undef, undef, undef, undef], defers := [] } w') : (Code.region 1 r1Ops true).wp Tryd.prog Q { tmps := #[t0, t1, .pointer (some ⟨p, 0, none⟩), .pointer (some ⟨q, 0, none⟩), t4, undef, undef, undef, undef, undef, undef, undef, undef, undef, undef, undef, undef, undef, undef, undef, undef, undef, undef, undef, undef, undef, undef, undef, undef, undef, undef, undef, undef, undef, undef, undef, undef, undef, undef, undef, undef, undef, undef, undef, undef, undef, undef, undef, undef, undef, undef, undef, undef, undef, undef, undef, undef, undef, undef, undef, undef, undef, undef, undef, undef, undef, undef, undef, undef, undef, undef, undef, undef, undef, undef, undef, undef, undef, undef, undef, undef, undef, undef, undef, undef, undef, undef, undef, undef, undef, undef, undef, undef, undef, undef, undef, undef, undef, undef, undef, undef], defers := [] } W := by
  dsimp only at hQ ⊢
  refine wp_region_any mixedP ?_
  obtain ⟨w0, hw0⟩ : ∃ U : World, ({ W with drawn := W.drawn + 1 } : World) = U := ⟨_, rfl⟩
  have B0 : Below W.heap.size W w0 := by rw [← hw0]; exact drew_below W
  rw [hw0]
  clear hw0
  obtain ⟨e0, e1, e2, e3, e4, e5⟩ := six_keep hc B0
  obtain ⟨f0, f1, f2, f3, f4, f5⟩ := six_keep hd B0
  show wpAny Tryd.prog .any r1Ops Q 16 #[false, false, false, false, false, false, false, false, false, false, false, false, false, false, false, false] _ w0
  refine wpAny_ready (rs := [0]) (by kernel_rfl) (by simp) ?_
  refine AllReady.cons (o := { dst := some 12, op := Op.load 33 (Operand.tmp 2), type := 33, pos := "law.go:74", after := #[], guard := none }) rfl (fun _ _ => ?r10n1) (AllReady.nil)
  case r10n1 =>
    rw [if_pos (show Region.wanted _ _ = true from rfl)]
    go_wp2
    show wpAny Tryd.prog .any r1Ops Q 15 #[true, false, false, false, false, false, false, false, false, false, false, false, false, false, false, false] _ _
    refine wpAny_ready (rs := [1]) (by kernel_rfl) (by simp) ?_
    refine AllReady.cons (o := { dst := some 13, op := Op.call { callee := Callee.value (Operand.func 12), args := #[Operand.tmp 12, Operand.const (Value.int IntKind.i64 400)], argTypes := #[33, 3] }, type := 3, pos := "law.go:74", after := #[{ on := 0, ground := Ground.data }], guard := none }) rfl (fun _ _ => ?r11n2) (AllReady.nil)
    case r11n2 =>
      rw [if_pos (show Region.wanted _ _ = true from rfl)]
      go_wp2_with (go_at_call 12; refine (h12a _ B0).mono ?_; rintro r w1 ⟨rfl, bb1⟩; have B1 := Below.tr B0 le_rfl' bb1; obtain ⟨e0, e1, e2, e3, e4, e5⟩ := six_keep hc B1; obtain ⟨f0, f1, f2, f3, f4, f5⟩ := six_keep hd B1)
      show wpAny Tryd.prog .any r1Ops Q 14 #[true, true, false, false, false, false, false, false, false, false, false, false, false, false, false, false] _ _
      refine wpAny_ready (rs := [2]) (by kernel_rfl) (by simp) ?_
      refine AllReady.cons (o := { dst := some 14, op := Op.binOp BinOp.lss 3 (Operand.tmp 13) (Operand.const (Value.int IntKind.i64 0)) 3, type := 4, pos := "law.go:74", after := #[{ on := 1, ground := Ground.data }], guard := none }) rfl (fun _ _ => ?r12n3) (AllReady.nil)
      case r12n3 =>
        rw [if_pos (show Region.wanted _ _ = true from rfl)]
        go_wp2
        show wpAny Tryd.prog .any r1Ops Q 13 #[true, true, true, false, false, false, false, false, false, false, false, false, false, false, false, false] _ _
        refine wpAny_ready (rs := [3]) (by kernel_rfl) (by simp) ?_
        refine AllReady.cons (o := { dst := some 15, op := Op.move (Operand.tmp 14), type := 4, pos := "law.go:74", after := #[{ on := 2, ground := Ground.data }, { on := 1, ground := Ground.chain }], guard := none }) rfl (fun _ _ => ?r13n4) (AllReady.nil)
        case r13n4 =>
          rw [if_pos (show Region.wanted _ _ = true from rfl)]
          go_wp2
          show wpAny Tryd.prog .any r1Ops Q 12 #[true, true, true, true, false, false, false, false, false, false, false, false, false, false, false, false] _ _
          refine wpAny_ready (rs := [4]) (by kernel_rfl) (by simp) ?_
          refine AllReady.cons (o := { dst := some 16, op := Op.load 33 (Operand.tmp 3), type := 33, pos := "law.go:74", after := #[{ on := 3, ground := Ground.guard }], guard := some (3, false) }) rfl (fun _ _ => ?r14n5) (AllReady.nil)
          case r14n5 =>
            rw [if_pos (by simp [Region.wanted, yielded, r1Ops])]
            go_wp2
            show wpAny Tryd.prog .any r1Ops Q 11 #[true, true, true, true, true, false, false, false, false, false, false, false, false, false, false, false] _ _
            refine wpAny_ready (rs := [5]) (by kernel_rfl) (by simp) ?_
            refine AllReady.cons (o := { dst := some 17, op := Op.call { callee := Callee.value (Operand.func 12), args := #[Operand.tmp 16, Operand.const (Value.int IntKind.i64 400)], argTypes := #[33, 3] }, type := 3, pos := "law.go:74", after := #[{ on := 4, ground := Ground.data }, { on := 3, ground := Ground.chain }, { on := 3, ground := Ground.guard }], guard := some (3, false) }) rfl (fun _ _ => ?r15n6) (AllReady.nil)
            case r15n6 =>
              rw [if_pos (by simp [Region.wanted, yielded, r1Ops])]
              go_wp2_with (go_at_call 12; refine (h12b _ B1).mono ?_; rintro r w2 ⟨rfl, bb2⟩; have B2 := Below.tr B1 le_rfl' bb2; obtain ⟨e0, e1, e2, e3, e4, e5⟩ := six_keep hc B2; obtain ⟨f0, f1, f2, f3, f4, f5⟩ := six_keep hd B2)
              show wpAny Tryd.prog .any r1Ops Q 10 #[true, true, true, true, true, true, false, false, false, false, false, false, false, false, false, false] _ _
              refine wpAny_ready (rs := [6]) (by kernel_rfl) (by simp) ?_
              refine AllReady.cons (o := { dst := some 18, op := Op.binOp BinOp.lss 3 (Operand.tmp 17) (Operand.const (Value.int IntKind.i64 0)) 3, type := 4, pos := "law.go:74", after := #[{ on := 5, ground := Ground.data }, { on := 3, ground := Ground.guard }], guard := some (3, false) }) rfl (fun _ _ => ?r16n7) (AllReady.nil)
              case r16n7 =>
                rw [if_pos (by simp [Region.wanted, yielded, r1Ops])]
                go_wp2
                show wpAny Tryd.prog .any r1Ops Q 9 #[true, true, true, true, true, true, true, false, false, false, false, false, false, false, false, false] _ _
                refine wpAny_ready (rs := [7]) (by kernel_rfl) (by simp) ?_
                refine AllReady.cons (o := { dst := some 19, op := Op.pick (Operand.tmp 15) (Operand.const (Value.bool true)) (Operand.tmp 18), type := 4, pos := "law.go:74", after := #[{ on := 3, ground := Ground.data }, { on := 6, ground := Ground.data }], guard := none }) rfl (fun _ _ => ?r17n8) (AllReady.nil)
                case r17n8 =>
                  rw [if_pos (show Region.wanted _ _ = true from rfl)]
                  go_wp2
                  show wpAny Tryd.prog .any r1Ops Q 8 #[true, true, true, true, true, true, true, true, false, false, false, false, false, false, false, false] _ _
                  refine wpAny_ready (rs := [8]) (by kernel_rfl) (by simp) ?_
                  refine AllReady.cons (o := { dst := some 20, op := Op.move (Operand.tmp 19), type := 4, pos := "law.go:74", after := #[{ on := 7, ground := Ground.data }, { on := 5, ground := Ground.chain }], guard := none }) rfl (fun _ _ => ?r18n9) (AllReady.nil)
                  case r18n9 =>
                    rw [if_pos (show Region.wanted _ _ = true from rfl)]
                    go_wp2
                    show wpAny Tryd.prog .any r1Ops Q 7 #[true, true, true, true, true, true, true, true, true, false, false, false, false, false, false, false] _ _
                    refine wpAny_ready (rs := [9, 11]) (by kernel_rfl) (by simp) ?_
                    refine AllReady.cons (o := { dst := some 21, op := Op.load 33 (Operand.tmp 2), type := 33, pos := "law.go:74", after := #[{ on := 8, ground := Ground.guard }], guard := some (8, false) }) rfl (fun _ _ => ?r19n10) (AllReady.cons (o := { dst := some 23, op := Op.load 33 (Operand.tmp 3), type := 33, pos := "law.go:74", after := #[{ on := 8, ground := Ground.guard }], guard := some (8, false) }) rfl (fun _ _ => ?r111n10) (AllReady.nil))
                    case r19n10 =>
                      rw [if_neg (by simp [Region.wanted, yielded, r1Ops])]
                      go_wp2
                      show wpAny Tryd.prog .any r1Ops Q 6 #[true, true, true, true, true, true, true, true, true, true, false, false, false, false, false, false] _ _
                      refine wpAny_ready (rs := [10, 11]) (by kernel_rfl) (by simp) ?_
                      refine AllReady.cons (o := { dst := some 22, op := Op.call { callee := Callee.value (Operand.func 13), args := #[Operand.tmp 21], argTypes := #[33] }, type := 28, pos := "law.go:74", after := #[{ on := 9, ground := Ground.data }, { on := 8, ground := Ground.chain }, { on := 8, ground := Ground.guard }], guard := some (8, false) }) rfl (fun _ _ => ?r110n11) (AllReady.cons (o := { dst := some 23, op := Op.load 33 (Operand.tmp 3), type := 33, pos := "law.go:74", after := #[{ on := 8, ground := Ground.guard }], guard := some (8, false) }) rfl (fun _ _ => ?r111n11) (AllReady.nil))
                      case r110n11 =>
                        rw [if_neg (by simp [Region.wanted, yielded, r1Ops])]
                        go_wp2
                        show wpAny Tryd.prog .any r1Ops Q 5 #[true, true, true, true, true, true, true, true, true, true, true, false, false, false, false, false] _ _
                        refine wpAny_ready (rs := [11]) (by kernel_rfl) (by simp) ?_
                        refine AllReady.cons (o := { dst := some 23, op := Op.load 33 (Operand.tmp 3), type := 33, pos := "law.go:74", after := #[{ on := 8, ground := Ground.guard }], guard := some (8, false) }) rfl (fun _ _ => ?r111n12) (AllReady.nil)
                        case r111n12 =>
                          rw [if_neg (by simp [Region.wanted, yielded, r1Ops])]
                          go_wp2
                          show wpAny Tryd.prog .any r1Ops Q 4 #[true, true, true, true, true, true, true, true, true, true, true, true, false, false, false, false] _ _
                          refine wpAny_ready (rs := [12]) (by kernel_rfl) (by simp) ?_
                          refine AllReady.cons (o := { dst := some 24, op := Op.call { callee := Callee.value (Operand.func 13), args := #[Operand.tmp 23], argTypes := #[33] }, type := 28, pos := "law.go:74", after := #[{ on := 11, ground := Ground.data }, { on := 10, ground := Ground.chain }, { on := 8, ground := Ground.guard }], guard := some (8, false) }) rfl (fun _ _ => ?r112n13) (AllReady.nil)
                          case r112n13 =>
                            rw [if_neg (by simp [Region.wanted, yielded, r1Ops])]
                            go_wp2
                            show wpAny Tryd.prog .any r1Ops Q 3 #[true, true, true, true, true, true, true, true, true, true, true, true, true, false, false, false] _ _
                            refine wpAny_ready (rs := [13]) (by kernel_rfl) (by simp) ?_
                            refine AllReady.cons (o := { dst := some 25, op := Op.binOp BinOp.add 3 (Operand.tmp 22) (Operand.tmp 24) 3, type := 3, pos := "law.go:74", after := #[{ on := 10, ground := Ground.data }, { on := 12, ground := Ground.data }, { on := 8, ground := Ground.guard }], guard := some (8, false) }) rfl (fun _ _ => ?r113n14) (AllReady.nil)
                            case r113n14 =>
                              rw [if_neg (by simp [Region.wanted, yielded, r1Ops])]
                              go_wp2
                              show wpAny Tryd.prog .any r1Ops Q 2 #[true, true, true, true, true, true, true, true, true, true, true, true, true, true, false, false] _ _
                              refine wpAny_ready (rs := [14]) (by kernel_rfl) (by simp) ?_
                              refine AllReady.cons (o := { dst := some 26, op := Op.binOp BinOp.neq 3 (Operand.tmp 25) (Operand.const (Value.int IntKind.i64 0)) 3, type := 4, pos := "law.go:74", after := #[{ on := 13, ground := Ground.data }, { on := 8, ground := Ground.guard }], guard := some (8, false) }) rfl (fun _ _ => ?r114n15) (AllReady.nil)
                              case r114n15 =>
                                rw [if_neg (by simp [Region.wanted, yielded, r1Ops])]
                                go_wp2
                                show wpAny Tryd.prog .any r1Ops Q 1 #[true, true, true, true, true, true, true, true, true, true, true, true, true, true, true, false] _ _
                                refine wpAny_ready (rs := [15]) (by kernel_rfl) (by simp) ?_
                                refine AllReady.cons (o := { dst := some 27, op := Op.pick (Operand.tmp 20) (Operand.const (Value.bool true)) (Operand.tmp 26), type := 4, pos := "law.go:74", after := #[{ on := 8, ground := Ground.data }, { on := 14, ground := Ground.data }], guard := none }) rfl (fun _ _ => ?r115n16) (AllReady.nil)
                                case r115n16 =>
                                  rw [if_pos (show Region.wanted _ _ = true from rfl)]
                                  go_wp2
                                  show wpAny Tryd.prog .any r1Ops Q 0 #[true, true, true, true, true, true, true, true, true, true, true, true, true, true, true, true] _ _
                                  exact wpAny_done (by kernel_rfl) (hQ _ B2) _
                      case r111n11 =>
                        rw [if_neg (by simp [Region.wanted, yielded, r1Ops])]
                        go_wp2
                        show wpAny Tryd.prog .any r1Ops Q 5 #[true, true, true, true, true, true, true, true, true, true, false, true, false, false, false, false] _ _
                        refine wpAny_ready (rs := [10]) (by kernel_rfl) (by simp) ?_
                        refine AllReady.cons (o := { dst := some 22, op := Op.call { callee := Callee.value (Operand.func 13), args := #[Operand.tmp 21], argTypes := #[33] }, type := 28, pos := "law.go:74", after := #[{ on := 9, ground := Ground.data }, { on := 8, ground := Ground.chain }, { on := 8, ground := Ground.guard }], guard := some (8, false) }) rfl (fun _ _ => ?r110n18) (AllReady.nil)
                        case r110n18 =>
                          rw [if_neg (by simp [Region.wanted, yielded, r1Ops])]
                          go_wp2
                          show wpAny Tryd.prog .any r1Ops Q 4 #[true, true, true, true, true, true, true, true, true, true, true, true, false, false, false, false] _ _
                          refine wpAny_ready (rs := [12]) (by kernel_rfl) (by simp) ?_
                          refine AllReady.cons (o := { dst := some 24, op := Op.call { callee := Callee.value (Operand.func 13), args := #[Operand.tmp 23], argTypes := #[33] }, type := 28, pos := "law.go:74", after := #[{ on := 11, ground := Ground.data }, { on := 10, ground := Ground.chain }, { on := 8, ground := Ground.guard }], guard := some (8, false) }) rfl (fun _ _ => ?r112n19) (AllReady.nil)
                          case r112n19 =>
                            rw [if_neg (by simp [Region.wanted, yielded, r1Ops])]
                            go_wp2
                            show wpAny Tryd.prog .any r1Ops Q 3 #[true, true, true, true, true, true, true, true, true, true, true, true, true, false, false, false] _ _
                            refine wpAny_ready (rs := [13]) (by kernel_rfl) (by simp) ?_
                            refine AllReady.cons (o := { dst := some 25, op := Op.binOp BinOp.add 3 (Operand.tmp 22) (Operand.tmp 24) 3, type := 3, pos := "law.go:74", after := #[{ on := 10, ground := Ground.data }, { on := 12, ground := Ground.data }, { on := 8, ground := Ground.guard }], guard := some (8, false) }) rfl (fun _ _ => ?r113n20) (AllReady.nil)
                            case r113n20 =>
                              rw [if_neg (by simp [Region.wanted, yielded, r1Ops])]
                              go_wp2
                              show wpAny Tryd.prog .any r1Ops Q 2 #[true, true, true, true, true, true, true, true, true, true, true, true, true, true, false, false] _ _
                              refine wpAny_ready (rs := [14]) (by kernel_rfl) (by simp) ?_
                              refine AllReady.cons (o := { dst := some 26, op := Op.binOp BinOp.neq 3 (Operand.tmp 25) (Operand.const (Value.int IntKind.i64 0)) 3, type := 4, pos := "law.go:74", after := #[{ on := 13, ground := Ground.data }, { on := 8, ground := Ground.guard }], guard := some (8, false) }) rfl (fun _ _ => ?r114n21) (AllReady.nil)
                              case r114n21 =>
                                rw [if_neg (by simp [Region.wanted, yielded, r1Ops])]
                                go_wp2
                                show wpAny Tryd.prog .any r1Ops Q 1 #[true, true, true, true, true, true, true, true, true, true, true, true, true, true, true, false] _ _
                                refine wpAny_ready (rs := [15]) (by kernel_rfl) (by simp) ?_
                                refine AllReady.cons (o := { dst := some 27, op := Op.pick (Operand.tmp 20) (Operand.const (Value.bool true)) (Operand.tmp 26), type := 4, pos := "law.go:74", after := #[{ on := 8, ground := Ground.data }, { on := 14, ground := Ground.data }], guard := none }) rfl (fun _ _ => ?r115n22) (AllReady.nil)
                                case r115n22 =>
                                  rw [if_pos (show Region.wanted _ _ = true from rfl)]
                                  go_wp2
                                  show wpAny Tryd.prog .any r1Ops Q 0 #[true, true, true, true, true, true, true, true, true, true, true, true, true, true, true, true] _ _
                                  exact wpAny_done (by kernel_rfl) (hQ _ B2) _
                    case r111n10 =>
                      rw [if_neg (by simp [Region.wanted, yielded, r1Ops])]
                      go_wp2
                      show wpAny Tryd.prog .any r1Ops Q 6 #[true, true, true, true, true, true, true, true, true, false, false, true, false, false, false, false] _ _
                      refine wpAny_ready (rs := [9]) (by kernel_rfl) (by simp) ?_
                      refine AllReady.cons (o := { dst := some 21, op := Op.load 33 (Operand.tmp 2), type := 33, pos := "law.go:74", after := #[{ on := 8, ground := Ground.guard }], guard := some (8, false) }) rfl (fun _ _ => ?r19n24) (AllReady.nil)
                      case r19n24 =>
                        rw [if_neg (by simp [Region.wanted, yielded, r1Ops])]
                        go_wp2
                        show wpAny Tryd.prog .any r1Ops Q 5 #[true, true, true, true, true, true, true, true, true, true, false, true, false, false, false, false] _ _
                        refine wpAny_ready (rs := [10]) (by kernel_rfl) (by simp) ?_
                        refine AllReady.cons (o := { dst := some 22, op := Op.call { callee := Callee.value (Operand.func 13), args := #[Operand.tmp 21], argTypes := #[33] }, type := 28, pos := "law.go:74", after := #[{ on := 9, ground := Ground.data }, { on := 8, ground := Ground.chain }, { on := 8, ground := Ground.guard }], guard := some (8, false) }) rfl (fun _ _ => ?r110n25) (AllReady.nil)
                        case r110n25 =>
                          rw [if_neg (by simp [Region.wanted, yielded, r1Ops])]
                          go_wp2
                          show wpAny Tryd.prog .any r1Ops Q 4 #[true, true, true, true, true, true, true, true, true, true, true, true, false, false, false, false] _ _
                          refine wpAny_ready (rs := [12]) (by kernel_rfl) (by simp) ?_
                          refine AllReady.cons (o := { dst := some 24, op := Op.call { callee := Callee.value (Operand.func 13), args := #[Operand.tmp 23], argTypes := #[33] }, type := 28, pos := "law.go:74", after := #[{ on := 11, ground := Ground.data }, { on := 10, ground := Ground.chain }, { on := 8, ground := Ground.guard }], guard := some (8, false) }) rfl (fun _ _ => ?r112n26) (AllReady.nil)
                          case r112n26 =>
                            rw [if_neg (by simp [Region.wanted, yielded, r1Ops])]
                            go_wp2
                            show wpAny Tryd.prog .any r1Ops Q 3 #[true, true, true, true, true, true, true, true, true, true, true, true, true, false, false, false] _ _
                            refine wpAny_ready (rs := [13]) (by kernel_rfl) (by simp) ?_
                            refine AllReady.cons (o := { dst := some 25, op := Op.binOp BinOp.add 3 (Operand.tmp 22) (Operand.tmp 24) 3, type := 3, pos := "law.go:74", after := #[{ on := 10, ground := Ground.data }, { on := 12, ground := Ground.data }, { on := 8, ground := Ground.guard }], guard := some (8, false) }) rfl (fun _ _ => ?r113n27) (AllReady.nil)
                            case r113n27 =>
                              rw [if_neg (by simp [Region.wanted, yielded, r1Ops])]
                              go_wp2
                              show wpAny Tryd.prog .any r1Ops Q 2 #[true, true, true, true, true, true, true, true, true, true, true, true, true, true, false, false] _ _
                              refine wpAny_ready (rs := [14]) (by kernel_rfl) (by simp) ?_
                              refine AllReady.cons (o := { dst := some 26, op := Op.binOp BinOp.neq 3 (Operand.tmp 25) (Operand.const (Value.int IntKind.i64 0)) 3, type := 4, pos := "law.go:74", after := #[{ on := 13, ground := Ground.data }, { on := 8, ground := Ground.guard }], guard := some (8, false) }) rfl (fun _ _ => ?r114n28) (AllReady.nil)
                              case r114n28 =>
                                rw [if_neg (by simp [Region.wanted, yielded, r1Ops])]
                                go_wp2
                                show wpAny Tryd.prog .any r1Ops Q 1 #[true, true, true, true, true, true, true, true, true, true, true, true, true, true, true, false] _ _
                                refine wpAny_ready (rs := [15]) (by kernel_rfl) (by simp) ?_
                                refine AllReady.cons (o := { dst := some 27, op := Op.pick (Operand.tmp 20) (Operand.const (Value.bool true)) (Operand.tmp 26), type := 4, pos := "law.go:74", after := #[{ on := 8, ground := Ground.data }, { on := 14, ground := Ground.data }], guard := none }) rfl (fun _ _ => ?r115n29) (AllReady.nil)
                                case r115n29 =>
                                  rw [if_pos (show Region.wanted _ _ = true from rfl)]
                                  go_wp2
                                  show wpAny Tryd.prog .any r1Ops Q 0 #[true, true, true, true, true, true, true, true, true, true, true, true, true, true, true, true] _ _
                                  exact wpAny_done (by kernel_rfl) (hQ _ B2) _
set_option maxRecDepth 100000 in
set_option maxHeartbeats 4000000 in
theorem reg1C {Q : Exit → Act → World → Prop} (t0 t1 t4 c0 c1 c2 c3 c4 c5 d0 d1 d2 d3 d4 d5 : Value) (p q : Nat) (ra rb oa ob : Int) (s : Bool) (W : World) (hc : (W.cell? ⟨p, 0, none⟩ = some c0 ∧ W.cell? ⟨p, 1, none⟩ = some c1 ∧ W.cell? ⟨p, 2, none⟩ = some c2 ∧ W.cell? ⟨p, 3, none⟩ = some c3 ∧ W.cell? ⟨p, 4, none⟩ = some c4 ∧ W.cell? ⟨p, 5, none⟩ = some c5)) (hd : (W.cell? ⟨q, 0, none⟩ = some d0 ∧ W.cell? ⟨q, 1, none⟩ = some d1 ∧ W.cell? ⟨q, 2, none⟩ = some d2 ∧ W.cell? ⟨q, 3, none⟩ = some d3 ∧ W.cell? ⟨q, 4, none⟩ = some d4 ∧ W.cell? ⟨q, 5, none⟩ = some d5))
    (h12a : ∀ W', Below W.heap.size W W' → Calls Tryd.prog 12 #[.agg #[c0, c1, c2, c3, c4, c5], .int .i64 400] W' fun r w' => r = .returned (.int .i64 ra) ∧ Below W'.heap.size W' w') (h12b : ∀ W', Below W.heap.size W W' → Calls Tryd.prog 12 #[.agg #[d0, d1, d2, d3, d4, d5], .int .i64 400] W' fun r w' => r = .returned (.int .i64 rb) ∧ Below W'.heap.size W' w') (h13a : ∀ W', Below W.heap.size W W' → Calls Tryd.prog 13 #[.agg #[c0, c1, c2, c3, c4, c5]] W' fun r w' => r = .returned (.int .i64 oa) ∧ Below W'.heap.size W' w') (h13b : ∀ W', Below W.heap.size W W' → Calls Tryd.prog 13 #[.agg #[d0, d1, d2, d3, d4, d5]] W' fun r w' => r = .returned (.int .i64 ob) ∧ Below W'.heap.size W' w')
    (ha : decide (ra < 0) = false) (hb : decide (rb < 0) = false) (ho : 0 ≤ oa ∧ oa ≤ 20 ∧ 0 ≤ ob ∧ ob ≤ 20) (hs : ((oa + ob) != 0) = s)
    (hQ : ∀ w', Below W.heap.size W w' → Q .normal { tmps := #[t0, t1, .pointer (some ⟨p, 0, none⟩), .pointer (some ⟨q, 0, none⟩), t4, undef, undef, undef, undef, undef, undef, undef, .agg #[c0, c1, c2, c3, c4, c5], .int .i64 ra, .bool false, .bool false, .agg #[d0, d1, d2, d3, d4, d5], .int .i64 rb, .bool false, .bool false, .bool false, .agg #[c0, c1, c2, c3, c4, c5], .int .i64 oa, .agg #[d0, d1, d2, d3, d4, d5], .int .i64 ob, .int .i64 (oa + ob), .bool s, .bool s, undef, undef, undef, undef, undef, undef, undef, undef, undef, undef, undef, undef, undef, undef, undef, undef, undef, undef, undef, undef, undef, undef, undef, undef, undef, undef, undef, undef, undef, undef, undef, undef, undef, undef, undef, undef, undef, undef, undef, undef, undef, undef, undef, undef, undef, undef, undef, undef, undef, undef, undef, undef, undef, undef, undef, undef, undef, undef, undef, undef, undef, undef, undef, undef, undef, undef, undef, undef, undef, undef, undef, undef, undef], defers := [] } w') : (Code.region 1 r1Ops true).wp Tryd.prog Q { tmps := #[t0, t1, .pointer (some ⟨p, 0, none⟩), .pointer (some ⟨q, 0, none⟩), t4, undef, undef, undef, undef, undef, undef, undef, undef, undef, undef, undef, undef, undef, undef, undef, undef, undef, undef, undef, undef, undef, undef, undef, undef, undef, undef, undef, undef, undef, undef, undef, undef, undef, undef, undef, undef, undef, undef, undef, undef, undef, undef, undef, undef, undef, undef, undef, undef, undef, undef, undef, undef, undef, undef, undef, undef, undef, undef, undef, undef, undef, undef, undef, undef, undef, undef, undef, undef, undef, undef, undef, undef, undef, undef, undef, undef, undef, undef, undef, undef, undef, undef, undef, undef, undef, undef, undef, undef, undef, undef, undef, undef, undef, undef, undef, undef], defers := [] } W := by
  dsimp only at hQ ⊢
  refine wp_region_any mixedP ?_
  obtain ⟨w0, hw0⟩ : ∃ U : World, ({ W with drawn := W.drawn + 1 } : World) = U := ⟨_, rfl⟩
  have B0 : Below W.heap.size W w0 := by rw [← hw0]; exact drew_below W
  rw [hw0]
  clear hw0
  obtain ⟨e0, e1, e2, e3, e4, e5⟩ := six_keep hc B0
  obtain ⟨f0, f1, f2, f3, f4, f5⟩ := six_keep hd B0
  show wpAny Tryd.prog .any r1Ops Q 16 #[false, false, false, false, false, false, false, false, false, false, false, false, false, false, false, false] _ w0
  refine wpAny_ready (rs := [0]) (by kernel_rfl) (by simp) ?_
  refine AllReady.cons (o := { dst := some 12, op := Op.load 33 (Operand.tmp 2), type := 33, pos := "law.go:74", after := #[], guard := none }) rfl (fun _ _ => ?r10n1) (AllReady.nil)
  case r10n1 =>
    rw [if_pos (show Region.wanted _ _ = true from rfl)]
    go_wp2
    show wpAny Tryd.prog .any r1Ops Q 15 #[true, false, false, false, false, false, false, false, false, false, false, false, false, false, false, false] _ _
    refine wpAny_ready (rs := [1]) (by kernel_rfl) (by simp) ?_
    refine AllReady.cons (o := { dst := some 13, op := Op.call { callee := Callee.value (Operand.func 12), args := #[Operand.tmp 12, Operand.const (Value.int IntKind.i64 400)], argTypes := #[33, 3] }, type := 3, pos := "law.go:74", after := #[{ on := 0, ground := Ground.data }], guard := none }) rfl (fun _ _ => ?r11n2) (AllReady.nil)
    case r11n2 =>
      rw [if_pos (show Region.wanted _ _ = true from rfl)]
      go_wp2_with (go_at_call 12; refine (h12a _ B0).mono ?_; rintro r w1 ⟨rfl, bb1⟩; have B1 := Below.tr B0 le_rfl' bb1; obtain ⟨e0, e1, e2, e3, e4, e5⟩ := six_keep hc B1; obtain ⟨f0, f1, f2, f3, f4, f5⟩ := six_keep hd B1)
      show wpAny Tryd.prog .any r1Ops Q 14 #[true, true, false, false, false, false, false, false, false, false, false, false, false, false, false, false] _ _
      refine wpAny_ready (rs := [2]) (by kernel_rfl) (by simp) ?_
      refine AllReady.cons (o := { dst := some 14, op := Op.binOp BinOp.lss 3 (Operand.tmp 13) (Operand.const (Value.int IntKind.i64 0)) 3, type := 4, pos := "law.go:74", after := #[{ on := 1, ground := Ground.data }], guard := none }) rfl (fun _ _ => ?r12n3) (AllReady.nil)
      case r12n3 =>
        rw [if_pos (show Region.wanted _ _ = true from rfl)]
        go_wp2
        show wpAny Tryd.prog .any r1Ops Q 13 #[true, true, true, false, false, false, false, false, false, false, false, false, false, false, false, false] _ _
        refine wpAny_ready (rs := [3]) (by kernel_rfl) (by simp) ?_
        refine AllReady.cons (o := { dst := some 15, op := Op.move (Operand.tmp 14), type := 4, pos := "law.go:74", after := #[{ on := 2, ground := Ground.data }, { on := 1, ground := Ground.chain }], guard := none }) rfl (fun _ _ => ?r13n4) (AllReady.nil)
        case r13n4 =>
          rw [if_pos (show Region.wanted _ _ = true from rfl)]
          go_wp2
          show wpAny Tryd.prog .any r1Ops Q 12 #[true, true, true, true, false, false, false, false, false, false, false, false, false, false, false, false] _ _
          refine wpAny_ready (rs := [4]) (by kernel_rfl) (by simp) ?_
          refine AllReady.cons (o := { dst := some 16, op := Op.load 33 (Operand.tmp 3), type := 33, pos := "law.go:74", after := #[{ on := 3, ground := Ground.guard }], guard := some (3, false) }) rfl (fun _ _ => ?r14n5) (AllReady.nil)
          case r14n5 =>
            rw [if_pos (by simp [Region.wanted, yielded, r1Ops])]
            go_wp2
            show wpAny Tryd.prog .any r1Ops Q 11 #[true, true, true, true, true, false, false, false, false, false, false, false, false, false, false, false] _ _
            refine wpAny_ready (rs := [5]) (by kernel_rfl) (by simp) ?_
            refine AllReady.cons (o := { dst := some 17, op := Op.call { callee := Callee.value (Operand.func 12), args := #[Operand.tmp 16, Operand.const (Value.int IntKind.i64 400)], argTypes := #[33, 3] }, type := 3, pos := "law.go:74", after := #[{ on := 4, ground := Ground.data }, { on := 3, ground := Ground.chain }, { on := 3, ground := Ground.guard }], guard := some (3, false) }) rfl (fun _ _ => ?r15n6) (AllReady.nil)
            case r15n6 =>
              rw [if_pos (by simp [Region.wanted, yielded, r1Ops])]
              go_wp2_with (go_at_call 12; refine (h12b _ B1).mono ?_; rintro r w2 ⟨rfl, bb2⟩; have B2 := Below.tr B1 le_rfl' bb2; obtain ⟨e0, e1, e2, e3, e4, e5⟩ := six_keep hc B2; obtain ⟨f0, f1, f2, f3, f4, f5⟩ := six_keep hd B2)
              show wpAny Tryd.prog .any r1Ops Q 10 #[true, true, true, true, true, true, false, false, false, false, false, false, false, false, false, false] _ _
              refine wpAny_ready (rs := [6]) (by kernel_rfl) (by simp) ?_
              refine AllReady.cons (o := { dst := some 18, op := Op.binOp BinOp.lss 3 (Operand.tmp 17) (Operand.const (Value.int IntKind.i64 0)) 3, type := 4, pos := "law.go:74", after := #[{ on := 5, ground := Ground.data }, { on := 3, ground := Ground.guard }], guard := some (3, false) }) rfl (fun _ _ => ?r16n7) (AllReady.nil)
              case r16n7 =>
                rw [if_pos (by simp [Region.wanted, yielded, r1Ops])]
                go_wp2
                show wpAny Tryd.prog .any r1Ops Q 9 #[true, true, true, true, true, true, true, false, false, false, false, false, false, false, false, false] _ _
                refine wpAny_ready (rs := [7]) (by kernel_rfl) (by simp) ?_
                refine AllReady.cons (o := { dst := some 19, op := Op.pick (Operand.tmp 15) (Operand.const (Value.bool true)) (Operand.tmp 18), type := 4, pos := "law.go:74", after := #[{ on := 3, ground := Ground.data }, { on := 6, ground := Ground.data }], guard := none }) rfl (fun _ _ => ?r17n8) (AllReady.nil)
                case r17n8 =>
                  rw [if_pos (show Region.wanted _ _ = true from rfl)]
                  go_wp2
                  show wpAny Tryd.prog .any r1Ops Q 8 #[true, true, true, true, true, true, true, true, false, false, false, false, false, false, false, false] _ _
                  refine wpAny_ready (rs := [8]) (by kernel_rfl) (by simp) ?_
                  refine AllReady.cons (o := { dst := some 20, op := Op.move (Operand.tmp 19), type := 4, pos := "law.go:74", after := #[{ on := 7, ground := Ground.data }, { on := 5, ground := Ground.chain }], guard := none }) rfl (fun _ _ => ?r18n9) (AllReady.nil)
                  case r18n9 =>
                    rw [if_pos (show Region.wanted _ _ = true from rfl)]
                    go_wp2
                    show wpAny Tryd.prog .any r1Ops Q 7 #[true, true, true, true, true, true, true, true, true, false, false, false, false, false, false, false] _ _
                    refine wpAny_ready (rs := [9, 11]) (by kernel_rfl) (by simp) ?_
                    refine AllReady.cons (o := { dst := some 21, op := Op.load 33 (Operand.tmp 2), type := 33, pos := "law.go:74", after := #[{ on := 8, ground := Ground.guard }], guard := some (8, false) }) rfl (fun _ _ => ?r19n10) (AllReady.cons (o := { dst := some 23, op := Op.load 33 (Operand.tmp 3), type := 33, pos := "law.go:74", after := #[{ on := 8, ground := Ground.guard }], guard := some (8, false) }) rfl (fun _ _ => ?r111n10) (AllReady.nil))
                    case r19n10 =>
                      rw [if_pos (by simp [Region.wanted, yielded, r1Ops])]
                      go_wp2
                      show wpAny Tryd.prog .any r1Ops Q 6 #[true, true, true, true, true, true, true, true, true, true, false, false, false, false, false, false] _ _
                      refine wpAny_ready (rs := [10, 11]) (by kernel_rfl) (by simp) ?_
                      refine AllReady.cons (o := { dst := some 22, op := Op.call { callee := Callee.value (Operand.func 13), args := #[Operand.tmp 21], argTypes := #[33] }, type := 28, pos := "law.go:74", after := #[{ on := 9, ground := Ground.data }, { on := 8, ground := Ground.chain }, { on := 8, ground := Ground.guard }], guard := some (8, false) }) rfl (fun _ _ => ?r110n11) (AllReady.cons (o := { dst := some 23, op := Op.load 33 (Operand.tmp 3), type := 33, pos := "law.go:74", after := #[{ on := 8, ground := Ground.guard }], guard := some (8, false) }) rfl (fun _ _ => ?r111n11) (AllReady.nil))
                      case r110n11 =>
                        rw [if_pos (by simp [Region.wanted, yielded, r1Ops])]
                        go_wp2_with (go_at_call 13; refine (h13a _ B2).mono ?_; rintro r w3 ⟨rfl, bb3⟩; have B3 := Below.tr B2 le_rfl' bb3; obtain ⟨e0, e1, e2, e3, e4, e5⟩ := six_keep hc B3; obtain ⟨f0, f1, f2, f3, f4, f5⟩ := six_keep hd B3)
                        show wpAny Tryd.prog .any r1Ops Q 5 #[true, true, true, true, true, true, true, true, true, true, true, false, false, false, false, false] _ _
                        refine wpAny_ready (rs := [11]) (by kernel_rfl) (by simp) ?_
                        refine AllReady.cons (o := { dst := some 23, op := Op.load 33 (Operand.tmp 3), type := 33, pos := "law.go:74", after := #[{ on := 8, ground := Ground.guard }], guard := some (8, false) }) rfl (fun _ _ => ?r111n12) (AllReady.nil)
                        case r111n12 =>
                          rw [if_pos (by simp [Region.wanted, yielded, r1Ops])]
                          go_wp2
                          show wpAny Tryd.prog .any r1Ops Q 4 #[true, true, true, true, true, true, true, true, true, true, true, true, false, false, false, false] _ _
                          refine wpAny_ready (rs := [12]) (by kernel_rfl) (by simp) ?_
                          refine AllReady.cons (o := { dst := some 24, op := Op.call { callee := Callee.value (Operand.func 13), args := #[Operand.tmp 23], argTypes := #[33] }, type := 28, pos := "law.go:74", after := #[{ on := 11, ground := Ground.data }, { on := 10, ground := Ground.chain }, { on := 8, ground := Ground.guard }], guard := some (8, false) }) rfl (fun _ _ => ?r112n13) (AllReady.nil)
                          case r112n13 =>
                            rw [if_pos (by simp [Region.wanted, yielded, r1Ops])]
                            go_wp2_with (go_at_call 13; refine (h13b _ B3).mono ?_; rintro r w4 ⟨rfl, bb4⟩; have B4 := Below.tr B3 le_rfl' bb4; obtain ⟨e0, e1, e2, e3, e4, e5⟩ := six_keep hc B4; obtain ⟨f0, f1, f2, f3, f4, f5⟩ := six_keep hd B4)
                            show wpAny Tryd.prog .any r1Ops Q 3 #[true, true, true, true, true, true, true, true, true, true, true, true, true, false, false, false] _ _
                            refine wpAny_ready (rs := [13]) (by kernel_rfl) (by simp) ?_
                            refine AllReady.cons (o := { dst := some 25, op := Op.binOp BinOp.add 3 (Operand.tmp 22) (Operand.tmp 24) 3, type := 3, pos := "law.go:74", after := #[{ on := 10, ground := Ground.data }, { on := 12, ground := Ground.data }, { on := 8, ground := Ground.guard }], guard := some (8, false) }) rfl (fun _ _ => ?r113n14) (AllReady.nil)
                            case r113n14 =>
                              rw [if_pos (by simp [Region.wanted, yielded, r1Ops])]
                              go_wp2
                              show wpAny Tryd.prog .any r1Ops Q 2 #[true, true, true, true, true, true, true, true, true, true, true, true, true, true, false, false] _ _
                              refine wpAny_ready (rs := [14]) (by kernel_rfl) (by simp) ?_
                              refine AllReady.cons (o := { dst := some 26, op := Op.binOp BinOp.neq 3 (Operand.tmp 25) (Operand.const (Value.int IntKind.i64 0)) 3, type := 4, pos := "law.go:74", after := #[{ on := 13, ground := Ground.data }, { on := 8, ground := Ground.guard }], guard := some (8, false) }) rfl (fun _ _ => ?r114n15) (AllReady.nil)
                              case r114n15 =>
                                rw [if_pos (by simp [Region.wanted, yielded, r1Ops])]
                                go_wp2
                                show wpAny Tryd.prog .any r1Ops Q 1 #[true, true, true, true, true, true, true, true, true, true, true, true, true, true, true, false] _ _
                                refine wpAny_ready (rs := [15]) (by kernel_rfl) (by simp) ?_
                                refine AllReady.cons (o := { dst := some 27, op := Op.pick (Operand.tmp 20) (Operand.const (Value.bool true)) (Operand.tmp 26), type := 4, pos := "law.go:74", after := #[{ on := 8, ground := Ground.data }, { on := 14, ground := Ground.data }], guard := none }) rfl (fun _ _ => ?r115n16) (AllReady.nil)
                                case r115n16 =>
                                  rw [if_pos (show Region.wanted _ _ = true from rfl)]
                                  go_wp2
                                  show wpAny Tryd.prog .any r1Ops Q 0 #[true, true, true, true, true, true, true, true, true, true, true, true, true, true, true, true] _ _
                                  exact wpAny_done (by kernel_rfl) (hQ _ B4) _
                      case r111n11 =>
                        rw [if_pos (by simp [Region.wanted, yielded, r1Ops])]
                        go_wp2
                        show wpAny Tryd.prog .any r1Ops Q 5 #[true, true, true, true, true, true, true, true, true, true, false, true, false, false, false, false] _ _
                        refine wpAny_ready (rs := [10]) (by kernel_rfl) (by simp) ?_
                        refine AllReady.cons (o := { dst := some 22, op := Op.call { callee := Callee.value (Operand.func 13), args := #[Operand.tmp 21], argTypes := #[33] }, type := 28, pos := "law.go:74", after := #[{ on := 9, ground := Ground.data }, { on := 8, ground := Ground.chain }, { on := 8, ground := Ground.guard }], guard := some (8, false) }) rfl (fun _ _ => ?r110n18) (AllReady.nil)
                        case r110n18 =>
                          rw [if_pos (by simp [Region.wanted, yielded, r1Ops])]
                          go_wp2_with (go_at_call 13; refine (h13a _ B2).mono ?_; rintro r w3 ⟨rfl, bb3⟩; have B3 := Below.tr B2 le_rfl' bb3; obtain ⟨e0, e1, e2, e3, e4, e5⟩ := six_keep hc B3; obtain ⟨f0, f1, f2, f3, f4, f5⟩ := six_keep hd B3)
                          show wpAny Tryd.prog .any r1Ops Q 4 #[true, true, true, true, true, true, true, true, true, true, true, true, false, false, false, false] _ _
                          refine wpAny_ready (rs := [12]) (by kernel_rfl) (by simp) ?_
                          refine AllReady.cons (o := { dst := some 24, op := Op.call { callee := Callee.value (Operand.func 13), args := #[Operand.tmp 23], argTypes := #[33] }, type := 28, pos := "law.go:74", after := #[{ on := 11, ground := Ground.data }, { on := 10, ground := Ground.chain }, { on := 8, ground := Ground.guard }], guard := some (8, false) }) rfl (fun _ _ => ?r112n19) (AllReady.nil)
                          case r112n19 =>
                            rw [if_pos (by simp [Region.wanted, yielded, r1Ops])]
                            go_wp2_with (go_at_call 13; refine (h13b _ B3).mono ?_; rintro r w4 ⟨rfl, bb4⟩; have B4 := Below.tr B3 le_rfl' bb4; obtain ⟨e0, e1, e2, e3, e4, e5⟩ := six_keep hc B4; obtain ⟨f0, f1, f2, f3, f4, f5⟩ := six_keep hd B4)
                            show wpAny Tryd.prog .any r1Ops Q 3 #[true, true, true, true, true, true, true, true, true, true, true, true, true, false, false, false] _ _
                            refine wpAny_ready (rs := [13]) (by kernel_rfl) (by simp) ?_
                            refine AllReady.cons (o := { dst := some 25, op := Op.binOp BinOp.add 3 (Operand.tmp 22) (Operand.tmp 24) 3, type := 3, pos := "law.go:74", after := #[{ on := 10, ground := Ground.data }, { on := 12, ground := Ground.data }, { on := 8, ground := Ground.guard }], guard := some (8, false) }) rfl (fun _ _ => ?r113n20) (AllReady.nil)
                            case r113n20 =>
                              rw [if_pos (by simp [Region.wanted, yielded, r1Ops])]
                              go_wp2
                              show wpAny Tryd.prog .any r1Ops Q 2 #[true, true, true, true, true, true, true, true, true, true, true, true, true, true, false, false] _ _
                              refine wpAny_ready (rs := [14]) (by kernel_rfl) (by simp) ?_
                              refine AllReady.cons (o := { dst := some 26, op := Op.binOp BinOp.neq 3 (Operand.tmp 25) (Operand.const (Value.int IntKind.i64 0)) 3, type := 4, pos := "law.go:74", after := #[{ on := 13, ground := Ground.data }, { on := 8, ground := Ground.guard }], guard := some (8, false) }) rfl (fun _ _ => ?r114n21) (AllReady.nil)
                              case r114n21 =>
                                rw [if_pos (by simp [Region.wanted, yielded, r1Ops])]
                                go_wp2
                                show wpAny Tryd.prog .any r1Ops Q 1 #[true, true, true, true, true, true, true, true, true, true, true, true, true, true, true, false] _ _
                                refine wpAny_ready (rs := [15]) (by kernel_rfl) (by simp) ?_
                                refine AllReady.cons (o := { dst := some 27, op := Op.pick (Operand.tmp 20) (Operand.const (Value.bool true)) (Operand.tmp 26), type := 4, pos := "law.go:74", after := #[{ on := 8, ground := Ground.data }, { on := 14, ground := Ground.data }], guard := none }) rfl (fun _ _ => ?r115n22) (AllReady.nil)
                                case r115n22 =>
                                  rw [if_pos (show Region.wanted _ _ = true from rfl)]
                                  go_wp2
                                  show wpAny Tryd.prog .any r1Ops Q 0 #[true, true, true, true, true, true, true, true, true, true, true, true, true, true, true, true] _ _
                                  exact wpAny_done (by kernel_rfl) (hQ _ B4) _
                    case r111n10 =>
                      rw [if_pos (by simp [Region.wanted, yielded, r1Ops])]
                      go_wp2
                      show wpAny Tryd.prog .any r1Ops Q 6 #[true, true, true, true, true, true, true, true, true, false, false, true, false, false, false, false] _ _
                      refine wpAny_ready (rs := [9]) (by kernel_rfl) (by simp) ?_
                      refine AllReady.cons (o := { dst := some 21, op := Op.load 33 (Operand.tmp 2), type := 33, pos := "law.go:74", after := #[{ on := 8, ground := Ground.guard }], guard := some (8, false) }) rfl (fun _ _ => ?r19n24) (AllReady.nil)
                      case r19n24 =>
                        rw [if_pos (by simp [Region.wanted, yielded, r1Ops])]
                        go_wp2
                        show wpAny Tryd.prog .any r1Ops Q 5 #[true, true, true, true, true, true, true, true, true, true, false, true, false, false, false, false] _ _
                        refine wpAny_ready (rs := [10]) (by kernel_rfl) (by simp) ?_
                        refine AllReady.cons (o := { dst := some 22, op := Op.call { callee := Callee.value (Operand.func 13), args := #[Operand.tmp 21], argTypes := #[33] }, type := 28, pos := "law.go:74", after := #[{ on := 9, ground := Ground.data }, { on := 8, ground := Ground.chain }, { on := 8, ground := Ground.guard }], guard := some (8, false) }) rfl (fun _ _ => ?r110n25) (AllReady.nil)
                        case r110n25 =>
                          rw [if_pos (by simp [Region.wanted, yielded, r1Ops])]
                          go_wp2_with (go_at_call 13; refine (h13a _ B2).mono ?_; rintro r w3 ⟨rfl, bb3⟩; have B3 := Below.tr B2 le_rfl' bb3; obtain ⟨e0, e1, e2, e3, e4, e5⟩ := six_keep hc B3; obtain ⟨f0, f1, f2, f3, f4, f5⟩ := six_keep hd B3)
                          show wpAny Tryd.prog .any r1Ops Q 4 #[true, true, true, true, true, true, true, true, true, true, true, true, false, false, false, false] _ _
                          refine wpAny_ready (rs := [12]) (by kernel_rfl) (by simp) ?_
                          refine AllReady.cons (o := { dst := some 24, op := Op.call { callee := Callee.value (Operand.func 13), args := #[Operand.tmp 23], argTypes := #[33] }, type := 28, pos := "law.go:74", after := #[{ on := 11, ground := Ground.data }, { on := 10, ground := Ground.chain }, { on := 8, ground := Ground.guard }], guard := some (8, false) }) rfl (fun _ _ => ?r112n26) (AllReady.nil)
                          case r112n26 =>
                            rw [if_pos (by simp [Region.wanted, yielded, r1Ops])]
                            go_wp2_with (go_at_call 13; refine (h13b _ B3).mono ?_; rintro r w4 ⟨rfl, bb4⟩; have B4 := Below.tr B3 le_rfl' bb4; obtain ⟨e0, e1, e2, e3, e4, e5⟩ := six_keep hc B4; obtain ⟨f0, f1, f2, f3, f4, f5⟩ := six_keep hd B4)
                            show wpAny Tryd.prog .any r1Ops Q 3 #[true, true, true, true, true, true, true, true, true, true, true, true, true, false, false, false] _ _
                            refine wpAny_ready (rs := [13]) (by kernel_rfl) (by simp) ?_
                            refine AllReady.cons (o := { dst := some 25, op := Op.binOp BinOp.add 3 (Operand.tmp 22) (Operand.tmp 24) 3, type := 3, pos := "law.go:74", after := #[{ on := 10, ground := Ground.data }, { on := 12, ground := Ground.data }, { on := 8, ground := Ground.guard }], guard := some (8, false) }) rfl (fun _ _ => ?r113n27) (AllReady.nil)
                            case r113n27 =>
                              rw [if_pos (by simp [Region.wanted, yielded, r1Ops])]
                              go_wp2
                              show wpAny Tryd.prog .any r1Ops Q 2 #[true, true, true, true, true, true, true, true, true, true, true, true, true, true, false, false] _ _
                              refine wpAny_ready (rs := [14]) (by kernel_rfl) (by simp) ?_
                              refine AllReady.cons (o := { dst := some 26, op := Op.binOp BinOp.neq 3 (Operand.tmp 25) (Operand.const (Value.int IntKind.i64 0)) 3, type := 4, pos := "law.go:74", after := #[{ on := 13, ground := Ground.data }, { on := 8, ground := Ground.guard }], guard := some (8, false) }) rfl (fun _ _ => ?r114n28) (AllReady.nil)
                              case r114n28 =>
                                rw [if_pos (by simp [Region.wanted, yielded, r1Ops])]
                                go_wp2
                                show wpAny Tryd.prog .any r1Ops Q 1 #[true, true, true, true, true, true, true, true, true, true, true, true, true, true, true, false] _ _
                                refine wpAny_ready (rs := [15]) (by kernel_rfl) (by simp) ?_
                                refine AllReady.cons (o := { dst := some 27, op := Op.pick (Operand.tmp 20) (Operand.const (Value.bool true)) (Operand.tmp 26), type := 4, pos := "law.go:74", after := #[{ on := 8, ground := Ground.data }, { on := 14, ground := Ground.data }], guard := none }) rfl (fun _ _ => ?r115n29) (AllReady.nil)
                                case r115n29 =>
                                  rw [if_pos (show Region.wanted _ _ = true from rfl)]
                                  go_wp2
                                  show wpAny Tryd.prog .any r1Ops Q 0 #[true, true, true, true, true, true, true, true, true, true, true, true, true, true, true, true] _ _
                                  exact wpAny_done (by kernel_rfl) (hQ _ B4) _
def r4Ops : Array Oper := #[{ dst := some 33, op := Op.load 33 (Operand.tmp 2), type := 33, pos := "law.go:78", after := #[], guard := none }, { dst := some 34, op := Op.call { callee := Callee.value (Operand.func 18), args := #[Operand.tmp 33], argTypes := #[33] }, type := 39, pos := "law.go:78", after := #[{ on := 0, ground := Ground.data }], guard := none }, { dst := some 35, op := Op.load 33 (Operand.tmp 3), type := 33, pos := "law.go:78", after := #[], guard := none }, { dst := some 36, op := Op.call { callee := Callee.value (Operand.func 18), args := #[Operand.tmp 35], argTypes := #[33] }, type := 39, pos := "law.go:78", after := #[{ on := 2, ground := Ground.data }, { on := 1, ground := Ground.chain }], guard := none }, { dst := some 37, op := Op.load 33 (Operand.tmp 5), type := 33, pos := "law.go:78", after := #[], guard := none }, { dst := some 38, op := Op.call { callee := Callee.value (Operand.func 18), args := #[Operand.tmp 37], argTypes := #[33] }, type := 39, pos := "law.go:78", after := #[{ on := 4, ground := Ground.data }, { on := 3, ground := Ground.chain }], guard := none }, { dst := some 6, op := Op.assign (Operand.tmp 34), type := 39, pos := "law.go:78", after := #[{ on := 1, ground := Ground.data }, { on := 5, ground := Ground.chain }, { on := 0, ground := Ground.phase }, { on := 1, ground := Ground.phase }, { on := 2, ground := Ground.textOnly Departure.lateStores }, { on := 3, ground := Ground.textOnly Departure.lateStoresUnsure }, { on := 4, ground := Ground.textOnly Departure.lateStores }, { on := 5, ground := Ground.textOnly Departure.lateStoresUnsure }], guard := none }, { dst := some 7, op := Op.assign (Operand.tmp 36), type := 39, pos := "law.go:78", after := #[{ on := 3, ground := Ground.data }, { on := 6, ground := Ground.chain }, { on := 0, ground := Ground.phase }, { on := 1, ground := Ground.phase }, { on := 2, ground := Ground.phase }, { on := 3, ground := Ground.phase }, { on := 4, ground := Ground.textOnly Departure.lateStores }, { on := 5, ground := Ground.textOnly Departure.lateStoresUnsure }, { on := 6, ground := Ground.phase }], guard := none }, { dst := some 8, op := Op.assign (Operand.tmp 38), type := 39, pos := "law.go:78", after := #[{ on := 5, ground := Ground.data }, { on := 7, ground := Ground.chain }, { on := 0, ground := Ground.phase }, { on := 1, ground := Ground.phase }, { on := 2, ground := Ground.phase }, { on := 3, ground := Ground.phase }, { on := 4, ground := Ground.phase }, { on := 5, ground := Ground.phase }, { on := 6, ground := Ground.phase }, { on := 7, ground := Ground.phase }], guard := none }]
set_option maxRecDepth 100000 in
set_option maxHeartbeats 8000000 in
theorem reg4 {Q : Exit → Act → World → Prop} (t0 t1 t4 t12 t13 t14 t15 t16 t17 t18 t19 t20 t21 t22 t23 t24 t25 t26 t27 t28 t29 t30 t31 t32 c0 c1 c2 c3 c4 c5 d0 d1 d2 d3 d4 d5 g0 g1 g2 g3 g4 g5 : Value) (p q r : Nat) (la lb lc : List ByteArray) (W : World) (hc : (W.cell? ⟨p, 0, none⟩ = some c0 ∧ W.cell? ⟨p, 1, none⟩ = some c1 ∧ W.cell? ⟨p, 2, none⟩ = some c2 ∧ W.cell? ⟨p, 3, none⟩ = some c3 ∧ W.cell? ⟨p, 4, none⟩ = some c4 ∧ W.cell? ⟨p, 5, none⟩ = some c5)) (hd : (W.cell? ⟨q, 0, none⟩ = some d0 ∧ W.cell? ⟨q, 1, none⟩ = some d1 ∧ W.cell? ⟨q, 2, none⟩ = some d2 ∧ W.cell? ⟨q, 3, none⟩ = some d3 ∧ W.cell? ⟨q, 4, none⟩ = some d4 ∧ W.cell? ⟨q, 5, none⟩ = some d5)) (hg : (W.cell? ⟨r, 0, none⟩ = some g0 ∧ W.cell? ⟨r, 1, none⟩ = some g1 ∧ W.cell? ⟨r, 2, none⟩ = some g2 ∧ W.cell? ⟨r, 3, none⟩ = some g3 ∧ W.cell? ⟨r, 4, none⟩ = some g4 ∧ W.cell? ⟨r, 5, none⟩ = some g5))
    (h18a : ∀ W', Below W.heap.size W W' → Calls Tryd.prog 18 #[.agg #[c0, c1, c2, c3, c4, c5]] W' fun r w' => ∃ v, r = .returned v ∧ TxAt w' v la ∧ Below W'.heap.size W' w') (h18b : ∀ W', Below W.heap.size W W' → Calls Tryd.prog 18 #[.agg #[d0, d1, d2, d3, d4, d5]] W' fun r w' => ∃ v, r = .returned v ∧ TxAt w' v lb ∧ Below W'.heap.size W' w') (h18c : ∀ W', Below W.heap.size W W' → Calls Tryd.prog 18 #[.agg #[g0, g1, g2, g3, g4, g5]] W' fun r w' => ∃ v, r = .returned v ∧ TxAt w' v lc ∧ Below W'.heap.size W' w')
    (hQ : ∀ v1 v2 v3 w', TxAt w' v1 la → TxAt w' v2 lb → TxAt w' v3 lc → Below W.heap.size W w' → Q .normal { tmps := #[t0, t1, .pointer (some ⟨p, 0, none⟩), .pointer (some ⟨q, 0, none⟩), t4, .pointer (some ⟨r, 0, none⟩), v1, v2, v3, undef, undef, undef, t12, t13, t14, t15, t16, t17, t18, t19, t20, t21, t22, t23, t24, t25, t26, t27, t28, t29, t30, t31, t32, .agg #[c0, c1, c2, c3, c4, c5], v1, .agg #[d0, d1, d2, d3, d4, d5], v2, .agg #[g0, g1, g2, g3, g4, g5], v3, undef, undef, undef, undef, undef, undef, undef, undef, undef, undef, undef, undef, undef, undef, undef, undef, undef, undef, undef, undef, undef, undef, undef, undef, undef, undef, undef, undef, undef, undef, undef, undef, undef, undef, undef, undef, undef, undef, undef, undef, undef, undef, undef, undef, undef, undef, undef, undef, undef, undef, undef, undef, undef, undef, undef, undef, undef, undef, undef, undef, undef, undef], defers := [] } w') : (Code.region 4 r4Ops true).wp Tryd.prog Q { tmps := #[t0, t1, .pointer (some ⟨p, 0, none⟩), .pointer (some ⟨q, 0, none⟩), t4, .pointer (some ⟨r, 0, none⟩), undef, undef, undef, undef, undef, undef, t12, t13, t14, t15, t16, t17, t18, t19, t20, t21, t22, t23, t24, t25, t26, t27, t28, t29, t30, t31, t32, undef, undef, undef, undef, undef, undef, undef, undef, undef, undef, undef, undef, undef, undef, undef, undef, undef, undef, undef, undef, undef, undef, undef, undef, undef, undef, undef, undef, undef, undef, undef, undef, undef, undef, undef, undef, undef, undef, undef, undef, undef, undef, undef, undef, undef, undef, undef, undef, undef, undef, undef, undef, undef, undef, undef, undef, undef, undef, undef, undef, undef, undef, undef, undef, undef, undef, undef, undef], defers := [] } W := by
  dsimp only at hQ ⊢
  refine wp_region_any mixedP ?_
  obtain ⟨w0, hw0⟩ : ∃ U : World, ({ W with drawn := W.drawn + 1 } : World) = U := ⟨_, rfl⟩
  have B0 : Below W.heap.size W w0 := by rw [← hw0]; exact drew_below W
  rw [hw0]
  clear hw0
  obtain ⟨e0, e1, e2, e3, e4, e5⟩ := six_keep hc B0
  obtain ⟨f0, f1, f2, f3, f4, f5⟩ := six_keep hd B0
  obtain ⟨k0, k1, k2, k3, k4, k5⟩ := six_keep hg B0
  show wpAny Tryd.prog .any r4Ops Q 9 #[false, false, false, false, false, false, false, false, false] _ w0
  refine wpAny_ready (rs := [0, 2, 4]) (by kernel_rfl) (by simp) ?_
  refine AllReady.cons (o := { dst := some 33, op := Op.load 33 (Operand.tmp 2), type := 33, pos := "law.go:78", after := #[], guard := none }) rfl (fun _ _ => ?r40n1) (AllReady.cons (o := { dst := some 35, op := Op.load 33 (Operand.tmp 3), type := 33, pos := "law.go:78", after := #[], guard := none }) rfl (fun _ _ => ?r42n1) (AllReady.cons (o := { dst := some 37, op := Op.load 33 (Operand.tmp 5), type := 33, pos := "law.go:78", after := #[], guard := none }) rfl (fun _ _ => ?r44n1) (AllReady.nil)))
  case r40n1 =>
    rw [if_pos (show Region.wanted _ _ = true from rfl)]
    go_wp2
    show wpAny Tryd.prog .any r4Ops Q 8 #[true, false, false, false, false, false, false, false, false] _ _
    refine wpAny_ready (rs := [1, 2, 4]) (by kernel_rfl) (by simp) ?_
    refine AllReady.cons (o := { dst := some 34, op := Op.call { callee := Callee.value (Operand.func 18), args := #[Operand.tmp 33], argTypes := #[33] }, type := 39, pos := "law.go:78", after := #[{ on := 0, ground := Ground.data }], guard := none }) rfl (fun _ _ => ?r41n2) (AllReady.cons (o := { dst := some 35, op := Op.load 33 (Operand.tmp 3), type := 33, pos := "law.go:78", after := #[], guard := none }) rfl (fun _ _ => ?r42n2) (AllReady.cons (o := { dst := some 37, op := Op.load 33 (Operand.tmp 5), type := 33, pos := "law.go:78", after := #[], guard := none }) rfl (fun _ _ => ?r44n2) (AllReady.nil)))
    case r41n2 =>
      rw [if_pos (show Region.wanted _ _ = true from rfl)]
      go_wp2_with (go_at_call 18; refine (h18a _ B0).mono ?_; rintro rr w1 ⟨v1, rfl, x1, bb1⟩; have B1 := Below.tr B0 le_rfl' bb1; obtain ⟨e0, e1, e2, e3, e4, e5⟩ := six_keep hc B1; obtain ⟨f0, f1, f2, f3, f4, f5⟩ := six_keep hd B1; obtain ⟨k0, k1, k2, k3, k4, k5⟩ := six_keep hg B1)
      show wpAny Tryd.prog .any r4Ops Q 7 #[true, true, false, false, false, false, false, false, false] _ _
      refine wpAny_ready (rs := [2, 4]) (by kernel_rfl) (by simp) ?_
      refine AllReady.cons (o := { dst := some 35, op := Op.load 33 (Operand.tmp 3), type := 33, pos := "law.go:78", after := #[], guard := none }) rfl (fun _ _ => ?r42n3) (AllReady.cons (o := { dst := some 37, op := Op.load 33 (Operand.tmp 5), type := 33, pos := "law.go:78", after := #[], guard := none }) rfl (fun _ _ => ?r44n3) (AllReady.nil))
      case r42n3 =>
        rw [if_pos (show Region.wanted _ _ = true from rfl)]
        go_wp2
        show wpAny Tryd.prog .any r4Ops Q 6 #[true, true, true, false, false, false, false, false, false] _ _
        refine wpAny_ready (rs := [3, 4]) (by kernel_rfl) (by simp) ?_
        refine AllReady.cons (o := { dst := some 36, op := Op.call { callee := Callee.value (Operand.func 18), args := #[Operand.tmp 35], argTypes := #[33] }, type := 39, pos := "law.go:78", after := #[{ on := 2, ground := Ground.data }, { on := 1, ground := Ground.chain }], guard := none }) rfl (fun _ _ => ?r43n4) (AllReady.cons (o := { dst := some 37, op := Op.load 33 (Operand.tmp 5), type := 33, pos := "law.go:78", after := #[], guard := none }) rfl (fun _ _ => ?r44n4) (AllReady.nil))
        case r43n4 =>
          rw [if_pos (show Region.wanted _ _ = true from rfl)]
          go_wp2_with (go_at_call 18; refine (h18b _ B1).mono ?_; rintro rr w2 ⟨v2, rfl, x2, bb2⟩; have B2 := Below.tr B1 le_rfl' bb2; obtain ⟨e0, e1, e2, e3, e4, e5⟩ := six_keep hc B2; obtain ⟨f0, f1, f2, f3, f4, f5⟩ := six_keep hd B2; obtain ⟨k0, k1, k2, k3, k4, k5⟩ := six_keep hg B2)
          show wpAny Tryd.prog .any r4Ops Q 5 #[true, true, true, true, false, false, false, false, false] _ _
          refine wpAny_ready (rs := [4]) (by kernel_rfl) (by simp) ?_
          refine AllReady.cons (o := { dst := some 37, op := Op.load 33 (Operand.tmp 5), type := 33, pos := "law.go:78", after := #[], guard := none }) rfl (fun _ _ => ?r44n5) (AllReady.nil)
          case r44n5 =>
            rw [if_pos (show Region.wanted _ _ = true from rfl)]
            go_wp2
            show wpAny Tryd.prog .any r4Ops Q 4 #[true, true, true, true, true, false, false, false, false] _ _
            refine wpAny_ready (rs := [5]) (by kernel_rfl) (by simp) ?_
            refine AllReady.cons (o := { dst := some 38, op := Op.call { callee := Callee.value (Operand.func 18), args := #[Operand.tmp 37], argTypes := #[33] }, type := 39, pos := "law.go:78", after := #[{ on := 4, ground := Ground.data }, { on := 3, ground := Ground.chain }], guard := none }) rfl (fun _ _ => ?r45n6) (AllReady.nil)
            case r45n6 =>
              rw [if_pos (show Region.wanted _ _ = true from rfl)]
              go_wp2_with (go_at_call 18; refine (h18c _ B2).mono ?_; rintro rr w3 ⟨v3, rfl, x3, bb3⟩; have B3 := Below.tr B2 le_rfl' bb3; obtain ⟨e0, e1, e2, e3, e4, e5⟩ := six_keep hc B3; obtain ⟨f0, f1, f2, f3, f4, f5⟩ := six_keep hd B3; obtain ⟨k0, k1, k2, k3, k4, k5⟩ := six_keep hg B3)
              show wpAny Tryd.prog .any r4Ops Q 3 #[true, true, true, true, true, true, false, false, false] _ _
              refine wpAny_ready (rs := [6]) (by kernel_rfl) (by simp) ?_
              refine AllReady.cons (o := { dst := some 6, op := Op.assign (Operand.tmp 34), type := 39, pos := "law.go:78", after := #[{ on := 1, ground := Ground.data }, { on := 5, ground := Ground.chain }, { on := 0, ground := Ground.phase }, { on := 1, ground := Ground.phase }, { on := 2, ground := Ground.textOnly Departure.lateStores }, { on := 3, ground := Ground.textOnly Departure.lateStoresUnsure }, { on := 4, ground := Ground.textOnly Departure.lateStores }, { on := 5, ground := Ground.textOnly Departure.lateStoresUnsure }], guard := none }) rfl (fun _ _ => ?r46n7) (AllReady.nil)
              case r46n7 =>
                rw [if_pos (show Region.wanted _ _ = true from rfl)]
                go_wp2
                show wpAny Tryd.prog .any r4Ops Q 2 #[true, true, true, true, true, true, true, false, false] _ _
                refine wpAny_ready (rs := [7]) (by kernel_rfl) (by simp) ?_
                refine AllReady.cons (o := { dst := some 7, op := Op.assign (Operand.tmp 36), type := 39, pos := "law.go:78", after := #[{ on := 3, ground := Ground.data }, { on := 6, ground := Ground.chain }, { on := 0, ground := Ground.phase }, { on := 1, ground := Ground.phase }, { on := 2, ground := Ground.phase }, { on := 3, ground := Ground.phase }, { on := 4, ground := Ground.textOnly Departure.lateStores }, { on := 5, ground := Ground.textOnly Departure.lateStoresUnsure }, { on := 6, ground := Ground.phase }], guard := none }) rfl (fun _ _ => ?r47n8) (AllReady.nil)
                case r47n8 =>
                  rw [if_pos (show Region.wanted _ _ = true from rfl)]
                  go_wp2
                  show wpAny Tryd.prog .any r4Ops Q 1 #[true, true, true, true, true, true, true, true, false] _ _
                  refine wpAny_ready (rs := [8]) (by kernel_rfl) (by simp) ?_
                  refine AllReady.cons (o := { dst := some 8, op := Op.assign (Operand.tmp 38), type := 39, pos := "law.go:78", after := #[{ on := 5, ground := Ground.data }, { on := 7, ground := Ground.chain }, { on := 0, ground := Ground.phase }, { on := 1, ground := Ground.phase }, { on := 2, ground := Ground.phase }, { on := 3, ground := Ground.phase }, { on := 4, ground := Ground.phase }, { on := 5, ground := Ground.phase }, { on := 6, ground := Ground.phase }, { on := 7, ground := Ground.phase }], guard := none }) rfl (fun _ _ => ?r48n9) (AllReady.nil)
                  case r48n9 =>
                    rw [if_pos (show Region.wanted _ _ = true from rfl)]
                    go_wp2
                    show wpAny Tryd.prog .any r4Ops Q 0 #[true, true, true, true, true, true, true, true, true] _ _
                    exact wpAny_done (by kernel_rfl) (hQ _ _ _ _ ((x1.below bb2).below bb3) (x2.below bb3) x3 B3) _
        case r44n4 =>
          rw [if_pos (show Region.wanted _ _ = true from rfl)]
          go_wp2
          show wpAny Tryd.prog .any r4Ops Q 5 #[true, true, true, false, true, false, false, false, false] _ _
          refine wpAny_ready (rs := [3]) (by kernel_rfl) (by simp) ?_
          refine AllReady.cons (o := { dst := some 36, op := Op.call { callee := Callee.value (Operand.func 18), args := #[Operand.tmp 35], argTypes := #[33] }, type := 39, pos := "law.go:78", after := #[{ on := 2, ground := Ground.data }, { on := 1, ground := Ground.chain }], guard := none }) rfl (fun _ _ => ?r43n11) (AllReady.nil)
          case r43n11 =>
            rw [if_pos (show Region.wanted _ _ = true from rfl)]
            go_wp2_with (go_at_call 18; refine (h18b _ B1).mono ?_; rintro rr w2 ⟨v2, rfl, x2, bb2⟩; have B2 := Below.tr B1 le_rfl' bb2; obtain ⟨e0, e1, e2, e3, e4, e5⟩ := six_keep hc B2; obtain ⟨f0, f1, f2, f3, f4, f5⟩ := six_keep hd B2; obtain ⟨k0, k1, k2, k3, k4, k5⟩ := six_keep hg B2)
            show wpAny Tryd.prog .any r4Ops Q 4 #[true, true, true, true, true, false, false, false, false] _ _
            refine wpAny_ready (rs := [5]) (by kernel_rfl) (by simp) ?_
            refine AllReady.cons (o := { dst := some 38, op := Op.call { callee := Callee.value (Operand.func 18), args := #[Operand.tmp 37], argTypes := #[33] }, type := 39, pos := "law.go:78", after := #[{ on := 4, ground := Ground.data }, { on := 3, ground := Ground.chain }], guard := none }) rfl (fun _ _ => ?r45n12) (AllReady.nil)
            case r45n12 =>
              rw [if_pos (show Region.wanted _ _ = true from rfl)]
              go_wp2_with (go_at_call 18; refine (h18c _ B2).mono ?_; rintro rr w3 ⟨v3, rfl, x3, bb3⟩; have B3 := Below.tr B2 le_rfl' bb3; obtain ⟨e0, e1, e2, e3, e4, e5⟩ := six_keep hc B3; obtain ⟨f0, f1, f2, f3, f4, f5⟩ := six_keep hd B3; obtain ⟨k0, k1, k2, k3, k4, k5⟩ := six_keep hg B3)
              show wpAny Tryd.prog .any r4Ops Q 3 #[true, true, true, true, true, true, false, false, false] _ _
              refine wpAny_ready (rs := [6]) (by kernel_rfl) (by simp) ?_
              refine AllReady.cons (o := { dst := some 6, op := Op.assign (Operand.tmp 34), type := 39, pos := "law.go:78", after := #[{ on := 1, ground := Ground.data }, { on := 5, ground := Ground.chain }, { on := 0, ground := Ground.phase }, { on := 1, ground := Ground.phase }, { on := 2, ground := Ground.textOnly Departure.lateStores }, { on := 3, ground := Ground.textOnly Departure.lateStoresUnsure }, { on := 4, ground := Ground.textOnly Departure.lateStores }, { on := 5, ground := Ground.textOnly Departure.lateStoresUnsure }], guard := none }) rfl (fun _ _ => ?r46n13) (AllReady.nil)
              case r46n13 =>
                rw [if_pos (show Region.wanted _ _ = true from rfl)]
                go_wp2
                show wpAny Tryd.prog .any r4Ops Q 2 #[true, true, true, true, true, true, true, false, false] _ _
                refine wpAny_ready (rs := [7]) (by kernel_rfl) (by simp) ?_
                refine AllReady.cons (o := { dst := some 7, op := Op.assign (Operand.tmp 36), type := 39, pos := "law.go:78", after := #[{ on := 3, ground := Ground.data }, { on := 6, ground := Ground.chain }, { on := 0, ground := Ground.phase }, { on := 1, ground := Ground.phase }, { on := 2, ground := Ground.phase }, { on := 3, ground := Ground.phase }, { on := 4, ground := Ground.textOnly Departure.lateStores }, { on := 5, ground := Ground.textOnly Departure.lateStoresUnsure }, { on := 6, ground := Ground.phase }], guard := none }) rfl (fun _ _ => ?r47n14) (AllReady.nil)
                case r47n14 =>
                  rw [if_pos (show Region.wanted _ _ = true from rfl)]
                  go_wp2
                  show wpAny Tryd.prog .any r4Ops Q 1 #[true, true, true, true, true, true, true, true, false] _ _
                  refine wpAny_ready (rs := [8]) (by kernel_rfl) (by simp) ?_
                  refine AllReady.cons (o := { dst := some 8, op := Op.assign (Operand.tmp 38), type := 39, pos := "law.go:78", after := #[{ on := 5, ground := Ground.data }, { on := 7, ground := Ground.chain }, { on := 0, ground := Ground.phase }, { on := 1, ground := Ground.phase }, { on := 2, ground := Ground.phase }, { on := 3, ground := Ground.phase }, { on := 4, ground := Ground.phase }, { on := 5, ground := Ground.phase }, { on := 6, ground := Ground.phase }, { on := 7, ground := Ground.phase }], guard := none }) rfl (fun _ _ => ?r48n15) (AllReady.nil)
                  case r48n15 =>
                    rw [if_pos (show Region.wanted _ _ = true from rfl)]
                    go_wp2
                    show wpAny Tryd.prog .any r4Ops Q 0 #[true, true, true, true, true, true, true, true, true] _ _
                    exact wpAny_done (by kernel_rfl) (hQ _ _ _ _ ((x1.below bb2).below bb3) (x2.below bb3) x3 B3) _
      case r44n3 =>
        rw [if_pos (show Region.wanted _ _ = true from rfl)]
        go_wp2
        show wpAny Tryd.prog .any r4Ops Q 6 #[true, true, false, false, true, false, false, false, false] _ _
        refine wpAny_ready (rs := [2]) (by kernel_rfl) (by simp) ?_
        refine AllReady.cons (o := { dst := some 35, op := Op.load 33 (Operand.tmp 3), type := 33, pos := "law.go:78", after := #[], guard := none }) rfl (fun _ _ => ?r42n17) (AllReady.nil)
        case r42n17 =>
          rw [if_pos (show Region.wanted _ _ = true from rfl)]
          go_wp2
          show wpAny Tryd.prog .any r4Ops Q 5 #[true, true, true, false, true, false, false, false, false] _ _
          refine wpAny_ready (rs := [3]) (by kernel_rfl) (by simp) ?_
          refine AllReady.cons (o := { dst := some 36, op := Op.call { callee := Callee.value (Operand.func 18), args := #[Operand.tmp 35], argTypes := #[33] }, type := 39, pos := "law.go:78", after := #[{ on := 2, ground := Ground.data }, { on := 1, ground := Ground.chain }], guard := none }) rfl (fun _ _ => ?r43n18) (AllReady.nil)
          case r43n18 =>
            rw [if_pos (show Region.wanted _ _ = true from rfl)]
            go_wp2_with (go_at_call 18; refine (h18b _ B1).mono ?_; rintro rr w2 ⟨v2, rfl, x2, bb2⟩; have B2 := Below.tr B1 le_rfl' bb2; obtain ⟨e0, e1, e2, e3, e4, e5⟩ := six_keep hc B2; obtain ⟨f0, f1, f2, f3, f4, f5⟩ := six_keep hd B2; obtain ⟨k0, k1, k2, k3, k4, k5⟩ := six_keep hg B2)
            show wpAny Tryd.prog .any r4Ops Q 4 #[true, true, true, true, true, false, false, false, false] _ _
            refine wpAny_ready (rs := [5]) (by kernel_rfl) (by simp) ?_
            refine AllReady.cons (o := { dst := some 38, op := Op.call { callee := Callee.value (Operand.func 18), args := #[Operand.tmp 37], argTypes := #[33] }, type := 39, pos := "law.go:78", after := #[{ on := 4, ground := Ground.data }, { on := 3, ground := Ground.chain }], guard := none }) rfl (fun _ _ => ?r45n19) (AllReady.nil)
            case r45n19 =>
              rw [if_pos (show Region.wanted _ _ = true from rfl)]
              go_wp2_with (go_at_call 18; refine (h18c _ B2).mono ?_; rintro rr w3 ⟨v3, rfl, x3, bb3⟩; have B3 := Below.tr B2 le_rfl' bb3; obtain ⟨e0, e1, e2, e3, e4, e5⟩ := six_keep hc B3; obtain ⟨f0, f1, f2, f3, f4, f5⟩ := six_keep hd B3; obtain ⟨k0, k1, k2, k3, k4, k5⟩ := six_keep hg B3)
              show wpAny Tryd.prog .any r4Ops Q 3 #[true, true, true, true, true, true, false, false, false] _ _
              refine wpAny_ready (rs := [6]) (by kernel_rfl) (by simp) ?_
              refine AllReady.cons (o := { dst := some 6, op := Op.assign (Operand.tmp 34), type := 39, pos := "law.go:78", after := #[{ on := 1, ground := Ground.data }, { on := 5, ground := Ground.chain }, { on := 0, ground := Ground.phase }, { on := 1, ground := Ground.phase }, { on := 2, ground := Ground.textOnly Departure.lateStores }, { on := 3, ground := Ground.textOnly Departure.lateStoresUnsure }, { on := 4, ground := Ground.textOnly Departure.lateStores }, { on := 5, ground := Ground.textOnly Departure.lateStoresUnsure }], guard := none }) rfl (fun _ _ => ?r46n20) (AllReady.nil)
              case r46n20 =>
                rw [if_pos (show Region.wanted _ _ = true from rfl)]
                go_wp2
                show wpAny Tryd.prog .any r4Ops Q 2 #[true, true, true, true, true, true, true, false, false] _ _
                refine wpAny_ready (rs := [7]) (by kernel_rfl) (by simp) ?_
                refine AllReady.cons (o := { dst := some 7, op := Op.assign (Operand.tmp 36), type := 39, pos := "law.go:78", after := #[{ on := 3, ground := Ground.data }, { on := 6, ground := Ground.chain }, { on := 0, ground := Ground.phase }, { on := 1, ground := Ground.phase }, { on := 2, ground := Ground.phase }, { on := 3, ground := Ground.phase }, { on := 4, ground := Ground.textOnly Departure.lateStores }, { on := 5, ground := Ground.textOnly Departure.lateStoresUnsure }, { on := 6, ground := Ground.phase }], guard := none }) rfl (fun _ _ => ?r47n21) (AllReady.nil)
                case r47n21 =>
                  rw [if_pos (show Region.wanted _ _ = true from rfl)]
                  go_wp2
                  show wpAny Tryd.prog .any r4Ops Q 1 #[true, true, true, true, true, true, true, true, false] _ _
                  refine wpAny_ready (rs := [8]) (by kernel_rfl) (by simp) ?_
                  refine AllReady.cons (o := { dst := some 8, op := Op.assign (Operand.tmp 38), type := 39, pos := "law.go:78", after := #[{ on := 5, ground := Ground.data }, { on := 7, ground := Ground.chain }, { on := 0, ground := Ground.phase }, { on := 1, ground := Ground.phase }, { on := 2, ground := Ground.phase }, { on := 3, ground := Ground.phase }, { on := 4, ground := Ground.phase }, { on := 5, ground := Ground.phase }, { on := 6, ground := Ground.phase }, { on := 7, ground := Ground.phase }], guard := none }) rfl (fun _ _ => ?r48n22) (AllReady.nil)
                  case r48n22 =>
                    rw [if_pos (show Region.wanted _ _ = true from rfl)]
                    go_wp2
                    show wpAny Tryd.prog .any r4Ops Q 0 #[true, true, true, true, true, true, true, true, true] _ _
                    exact wpAny_done (by kernel_rfl) (hQ _ _ _ _ ((x1.below bb2).below bb3) (x2.below bb3) x3 B3) _
    case r42n2 =>
      rw [if_pos (show Region.wanted _ _ = true from rfl)]
      go_wp2
      show wpAny Tryd.prog .any r4Ops Q 7 #[true, false, true, false, false, false, false, false, false] _ _
      refine wpAny_ready (rs := [1, 4]) (by kernel_rfl) (by simp) ?_
      refine AllReady.cons (o := { dst := some 34, op := Op.call { callee := Callee.value (Operand.func 18), args := #[Operand.tmp 33], argTypes := #[33] }, type := 39, pos := "law.go:78", after := #[{ on := 0, ground := Ground.data }], guard := none }) rfl (fun _ _ => ?r41n24) (AllReady.cons (o := { dst := some 37, op := Op.load 33 (Operand.tmp 5), type := 33, pos := "law.go:78", after := #[], guard := none }) rfl (fun _ _ => ?r44n24) (AllReady.nil))
      case r41n24 =>
        rw [if_pos (show Region.wanted _ _ = true from rfl)]
        go_wp2_with (go_at_call 18; refine (h18a _ B0).mono ?_; rintro rr w1 ⟨v1, rfl, x1, bb1⟩; have B1 := Below.tr B0 le_rfl' bb1; obtain ⟨e0, e1, e2, e3, e4, e5⟩ := six_keep hc B1; obtain ⟨f0, f1, f2, f3, f4, f5⟩ := six_keep hd B1; obtain ⟨k0, k1, k2, k3, k4, k5⟩ := six_keep hg B1)
        show wpAny Tryd.prog .any r4Ops Q 6 #[true, true, true, false, false, false, false, false, false] _ _
        refine wpAny_ready (rs := [3, 4]) (by kernel_rfl) (by simp) ?_
        refine AllReady.cons (o := { dst := some 36, op := Op.call { callee := Callee.value (Operand.func 18), args := #[Operand.tmp 35], argTypes := #[33] }, type := 39, pos := "law.go:78", after := #[{ on := 2, ground := Ground.data }, { on := 1, ground := Ground.chain }], guard := none }) rfl (fun _ _ => ?r43n25) (AllReady.cons (o := { dst := some 37, op := Op.load 33 (Operand.tmp 5), type := 33, pos := "law.go:78", after := #[], guard := none }) rfl (fun _ _ => ?r44n25) (AllReady.nil))
        case r43n25 =>
          rw [if_pos (show Region.wanted _ _ = true from rfl)]
          go_wp2_with (go_at_call 18; refine (h18b _ B1).mono ?_; rintro rr w2 ⟨v2, rfl, x2, bb2⟩; have B2 := Below.tr B1 le_rfl' bb2; obtain ⟨e0, e1, e2, e3, e4, e5⟩ := six_keep hc B2; obtain ⟨f0, f1, f2, f3, f4, f5⟩ := six_keep hd B2; obtain ⟨k0, k1, k2, k3, k4, k5⟩ := six_keep hg B2)
          show wpAny Tryd.prog .any r4Ops Q 5 #[true, true, true, true, false, false, false, false, false] _ _
          refine wpAny_ready (rs := [4]) (by kernel_rfl) (by simp) ?_
          refine AllReady.cons (o := { dst := some 37, op := Op.load 33 (Operand.tmp 5), type := 33, pos := "law.go:78", after := #[], guard := none }) rfl (fun _ _ => ?r44n26) (AllReady.nil)
          case r44n26 =>
            rw [if_pos (show Region.wanted _ _ = true from rfl)]
            go_wp2
            show wpAny Tryd.prog .any r4Ops Q 4 #[true, true, true, true, true, false, false, false, false] _ _
            refine wpAny_ready (rs := [5]) (by kernel_rfl) (by simp) ?_
            refine AllReady.cons (o := { dst := some 38, op := Op.call { callee := Callee.value (Operand.func 18), args := #[Operand.tmp 37], argTypes := #[33] }, type := 39, pos := "law.go:78", after := #[{ on := 4, ground := Ground.data }, { on := 3, ground := Ground.chain }], guard := none }) rfl (fun _ _ => ?r45n27) (AllReady.nil)
            case r45n27 =>
              rw [if_pos (show Region.wanted _ _ = true from rfl)]
              go_wp2_with (go_at_call 18; refine (h18c _ B2).mono ?_; rintro rr w3 ⟨v3, rfl, x3, bb3⟩; have B3 := Below.tr B2 le_rfl' bb3; obtain ⟨e0, e1, e2, e3, e4, e5⟩ := six_keep hc B3; obtain ⟨f0, f1, f2, f3, f4, f5⟩ := six_keep hd B3; obtain ⟨k0, k1, k2, k3, k4, k5⟩ := six_keep hg B3)
              show wpAny Tryd.prog .any r4Ops Q 3 #[true, true, true, true, true, true, false, false, false] _ _
              refine wpAny_ready (rs := [6]) (by kernel_rfl) (by simp) ?_
              refine AllReady.cons (o := { dst := some 6, op := Op.assign (Operand.tmp 34), type := 39, pos := "law.go:78", after := #[{ on := 1, ground := Ground.data }, { on := 5, ground := Ground.chain }, { on := 0, ground := Ground.phase }, { on := 1, ground := Ground.phase }, { on := 2, ground := Ground.textOnly Departure.lateStores }, { on := 3, ground := Ground.textOnly Departure.lateStoresUnsure }, { on := 4, ground := Ground.textOnly Departure.lateStores }, { on := 5, ground := Ground.textOnly Departure.lateStoresUnsure }], guard := none }) rfl (fun _ _ => ?r46n28) (AllReady.nil)
              case r46n28 =>
                rw [if_pos (show Region.wanted _ _ = true from rfl)]
                go_wp2
                show wpAny Tryd.prog .any r4Ops Q 2 #[true, true, true, true, true, true, true, false, false] _ _
                refine wpAny_ready (rs := [7]) (by kernel_rfl) (by simp) ?_
                refine AllReady.cons (o := { dst := some 7, op := Op.assign (Operand.tmp 36), type := 39, pos := "law.go:78", after := #[{ on := 3, ground := Ground.data }, { on := 6, ground := Ground.chain }, { on := 0, ground := Ground.phase }, { on := 1, ground := Ground.phase }, { on := 2, ground := Ground.phase }, { on := 3, ground := Ground.phase }, { on := 4, ground := Ground.textOnly Departure.lateStores }, { on := 5, ground := Ground.textOnly Departure.lateStoresUnsure }, { on := 6, ground := Ground.phase }], guard := none }) rfl (fun _ _ => ?r47n29) (AllReady.nil)
                case r47n29 =>
                  rw [if_pos (show Region.wanted _ _ = true from rfl)]
                  go_wp2
                  show wpAny Tryd.prog .any r4Ops Q 1 #[true, true, true, true, true, true, true, true, false] _ _
                  refine wpAny_ready (rs := [8]) (by kernel_rfl) (by simp) ?_
                  refine AllReady.cons (o := { dst := some 8, op := Op.assign (Operand.tmp 38), type := 39, pos := "law.go:78", after := #[{ on := 5, ground := Ground.data }, { on := 7, ground := Ground.chain }, { on := 0, ground := Ground.phase }, { on := 1, ground := Ground.phase }, { on := 2, ground := Ground.phase }, { on := 3, ground := Ground.phase }, { on := 4, ground := Ground.phase }, { on := 5, ground := Ground.phase }, { on := 6, ground := Ground.phase }, { on := 7, ground := Ground.phase }], guard := none }) rfl (fun _ _ => ?r48n30) (AllReady.nil)
                  case r48n30 =>
                    rw [if_pos (show Region.wanted _ _ = true from rfl)]
                    go_wp2
                    show wpAny Tryd.prog .any r4Ops Q 0 #[true, true, true, true, true, true, true, true, true] _ _
                    exact wpAny_done (by kernel_rfl) (hQ _ _ _ _ ((x1.below bb2).below bb3) (x2.below bb3) x3 B3) _
        case r44n25 =>
          rw [if_pos (show Region.wanted _ _ = true from rfl)]
          go_wp2
          show wpAny Tryd.prog .any r4Ops Q 5 #[true, true, true, false, true, false, false, false, false] _ _
          refine wpAny_ready (rs := [3]) (by kernel_rfl) (by simp) ?_
          refine AllReady.cons (o := { dst := some 36, op := Op.call { callee := Callee.value (Operand.func 18), args := #[Operand.tmp 35], argTypes := #[33] }, type := 39, pos := "law.go:78", after := #[{ on := 2, ground := Ground.data }, { on := 1, ground := Ground.chain }], guard := none }) rfl (fun _ _ => ?r43n32) (AllReady.nil)
          case r43n32 =>
            rw [if_pos (show Region.wanted _ _ = true from rfl)]
            go_wp2_with (go_at_call 18; refine (h18b _ B1).mono ?_; rintro rr w2 ⟨v2, rfl, x2, bb2⟩; have B2 := Below.tr B1 le_rfl' bb2; obtain ⟨e0, e1, e2, e3, e4, e5⟩ := six_keep hc B2; obtain ⟨f0, f1, f2, f3, f4, f5⟩ := six_keep hd B2; obtain ⟨k0, k1, k2, k3, k4, k5⟩ := six_keep hg B2)
            show wpAny Tryd.prog .any r4Ops Q 4 #[true, true, true, true, true, false, false, false, false] _ _
            refine wpAny_ready (rs := [5]) (by kernel_rfl) (by simp) ?_
            refine AllReady.cons (o := { dst := some 38, op := Op.call { callee := Callee.value (Operand.func 18), args := #[Operand.tmp 37], argTypes := #[33] }, type := 39, pos := "law.go:78", after := #[{ on := 4, ground := Ground.data }, { on := 3, ground := Ground.chain }], guard := none }) rfl (fun _ _ => ?r45n33) (AllReady.nil)
            case r45n33 =>
              rw [if_pos (show Region.wanted _ _ = true from rfl)]
              go_wp2_with (go_at_call 18; refine (h18c _ B2).mono ?_; rintro rr w3 ⟨v3, rfl, x3, bb3⟩; have B3 := Below.tr B2 le_rfl' bb3; obtain ⟨e0, e1, e2, e3, e4, e5⟩ := six_keep hc B3; obtain ⟨f0, f1, f2, f3, f4, f5⟩ := six_keep hd B3; obtain ⟨k0, k1, k2, k3, k4, k5⟩ := six_keep hg B3)
              show wpAny Tryd.prog .any r4Ops Q 3 #[true, true, true, true, true, true, false, false, false] _ _
              refine wpAny_ready (rs := [6]) (by kernel_rfl) (by simp) ?_
              refine AllReady.cons (o := { dst := some 6, op := Op.assign (Operand.tmp 34), type := 39, pos := "law.go:78", after := #[{ on := 1, ground := Ground.data }, { on := 5, ground := Ground.chain }, { on := 0, ground := Ground.phase }, { on := 1, ground := Ground.phase }, { on := 2, ground := Ground.textOnly Departure.lateStores }, { on := 3, ground := Ground.textOnly Departure.lateStoresUnsure }, { on := 4, ground := Ground.textOnly Departure.lateStores }, { on := 5, ground := Ground.textOnly Departure.lateStoresUnsure }], guard := none }) rfl (fun _ _ => ?r46n34) (AllReady.nil)
              case r46n34 =>
                rw [if_pos (show Region.wanted _ _ = true from rfl)]
                go_wp2
                show wpAny Tryd.prog .any r4Ops Q 2 #[true, true, true, true, true, true, true, false, false] _ _
                refine wpAny_ready (rs := [7]) (by kernel_rfl) (by simp) ?_
                refine AllReady.cons (o := { dst := some 7, op := Op.assign (Operand.tmp 36), type := 39, pos := "law.go:78", after := #[{ on := 3, ground := Ground.data }, { on := 6, ground := Ground.chain }, { on := 0, ground := Ground.phase }, { on := 1, ground := Ground.phase }, { on := 2, ground := Ground.phase }, { on := 3, ground := Ground.phase }, { on := 4, ground := Ground.textOnly Departure.lateStores }, { on := 5, ground := Ground.textOnly Departure.lateStoresUnsure }, { on := 6, ground := Ground.phase }], guard := none }) rfl (fun _ _ => ?r47n35) (AllReady.nil)
                case r47n35 =>
                  rw [if_pos (show Region.wanted _ _ = true from rfl)]
                  go_wp2
                  show wpAny Tryd.prog .any r4Ops Q 1 #[true, true, true, true, true, true, true, true, false] _ _
                  refine wpAny_ready (rs := [8]) (by kernel_rfl) (by simp) ?_
                  refine AllReady.cons (o := { dst := some 8, op := Op.assign (Operand.tmp 38), type := 39, pos := "law.go:78", after := #[{ on := 5, ground := Ground.data }, { on := 7, ground := Ground.chain }, { on := 0, ground := Ground.phase }, { on := 1, ground := Ground.phase }, { on := 2, ground := Ground.phase }, { on := 3, ground := Ground.phase }, { on := 4, ground := Ground.phase }, { on := 5, ground := Ground.phase }, { on := 6, ground := Ground.phase }, { on := 7, ground := Ground.phase }], guard := none }) rfl (fun _ _ => ?r48n36) (AllReady.nil)
                  case r48n36 =>
                    rw [if_pos (show Region.wanted _ _ = true from rfl)]
                    go_wp2
                    show wpAny Tryd.prog .any r4Ops Q 0 #[true, true, true, true, true, true, true, true, true] _ _
                    exact wpAny_done (by kernel_rfl) (hQ _ _ _ _ ((x1.below bb2).below bb3) (x2.below bb3) x3 B3) _
      case r44n24 =>
        rw [if_pos (show Region.wanted _ _ = true from rfl)]
        go_wp2
        show wpAny Tryd.prog .any r4Ops Q 6 #[true, false, true, false, true, false, false, false, false] _ _
        refine wpAny_ready (rs := [1]) (by kernel_rfl) (by simp) ?_
        refine AllReady.cons (o := { dst := some 34, op := Op.call { callee := Callee.value (Operand.func 18), args := #[Operand.tmp 33], argTypes := #[33] }, type := 39, pos := "law.go:78", after := #[{ on := 0, ground := Ground.data }], guard := none }) rfl (fun _ _ => ?r41n38) (AllReady.nil)
        case r41n38 =>
          rw [if_pos (show Region.wanted _ _ = true from rfl)]
          go_wp2_with (go_at_call 18; refine (h18a _ B0).mono ?_; rintro rr w1 ⟨v1, rfl, x1, bb1⟩; have B1 := Below.tr B0 le_rfl' bb1; obtain ⟨e0, e1, e2, e3, e4, e5⟩ := six_keep hc B1; obtain ⟨f0, f1, f2, f3, f4, f5⟩ := six_keep hd B1; obtain ⟨k0, k1, k2, k3, k4, k5⟩ := six_keep hg B1)
          show wpAny Tryd.prog .any r4Ops Q 5 #[true, true, true, false, true, false, false, false, false] _ _
          refine wpAny_ready (rs := [3]) (by kernel_rfl) (by simp) ?_
          refine AllReady.cons (o := { dst := some 36, op := Op.call { callee := Callee.value (Operand.func 18), args := #[Operand.tmp 35], argTypes := #[33] }, type := 39, pos := "law.go:78", after := #[{ on := 2, ground := Ground.data }, { on := 1, ground := Ground.chain }], guard := none }) rfl (fun _ _ => ?r43n39) (AllReady.nil)
          case r43n39 =>
            rw [if_pos (show Region.wanted _ _ = true from rfl)]
            go_wp2_with (go_at_call 18; refine (h18b _ B1).mono ?_; rintro rr w2 ⟨v2, rfl, x2, bb2⟩; have B2 := Below.tr B1 le_rfl' bb2; obtain ⟨e0, e1, e2, e3, e4, e5⟩ := six_keep hc B2; obtain ⟨f0, f1, f2, f3, f4, f5⟩ := six_keep hd B2; obtain ⟨k0, k1, k2, k3, k4, k5⟩ := six_keep hg B2)
            show wpAny Tryd.prog .any r4Ops Q 4 #[true, true, true, true, true, false, false, false, false] _ _
            refine wpAny_ready (rs := [5]) (by kernel_rfl) (by simp) ?_
            refine AllReady.cons (o := { dst := some 38, op := Op.call { callee := Callee.value (Operand.func 18), args := #[Operand.tmp 37], argTypes := #[33] }, type := 39, pos := "law.go:78", after := #[{ on := 4, ground := Ground.data }, { on := 3, ground := Ground.chain }], guard := none }) rfl (fun _ _ => ?r45n40) (AllReady.nil)
            case r45n40 =>
              rw [if_pos (show Region.wanted _ _ = true from rfl)]
              go_wp2_with (go_at_call 18; refine (h18c _ B2).mono ?_; rintro rr w3 ⟨v3, rfl, x3, bb3⟩; have B3 := Below.tr B2 le_rfl' bb3; obtain ⟨e0, e1, e2, e3, e4, e5⟩ := six_keep hc B3; obtain ⟨f0, f1, f2, f3, f4, f5⟩ := six_keep hd B3; obtain ⟨k0, k1, k2, k3, k4, k5⟩ := six_keep hg B3)
              show wpAny Tryd.prog .any r4Ops Q 3 #[true, true, true, true, true, true, false, false, false] _ _
              refine wpAny_ready (rs := [6]) (by kernel_rfl) (by simp) ?_
              refine AllReady.cons (o := { dst := some 6, op := Op.assign (Operand.tmp 34), type := 39, pos := "law.go:78", after := #[{ on := 1, ground := Ground.data }, { on := 5, ground := Ground.chain }, { on := 0, ground := Ground.phase }, { on := 1, ground := Ground.phase }, { on := 2, ground := Ground.textOnly Departure.lateStores }, { on := 3, ground := Ground.textOnly Departure.lateStoresUnsure }, { on := 4, ground := Ground.textOnly Departure.lateStores }, { on := 5, ground := Ground.textOnly Departure.lateStoresUnsure }], guard := none }) rfl (fun _ _ => ?r46n41) (AllReady.nil)
              case r46n41 =>
                rw [if_pos (show Region.wanted _ _ = true from rfl)]
                go_wp2
                show wpAny Tryd.prog .any r4Ops Q 2 #[true, true, true, true, true, true, true, false, false] _ _
                refine wpAny_ready (rs := [7]) (by kernel_rfl) (by simp) ?_
                refine AllReady.cons (o := { dst := some 7, op := Op.assign (Operand.tmp 36), type := 39, pos := "law.go:78", after := #[{ on := 3, ground := Ground.data }, { on := 6, ground := Ground.chain }, { on := 0, ground := Ground.phase }, { on := 1, ground := Ground.phase }, { on := 2, ground := Ground.phase }, { on := 3, ground := Ground.phase }, { on := 4, ground := Ground.textOnly Departure.lateStores }, { on := 5, ground := Ground.textOnly Departure.lateStoresUnsure }, { on := 6, ground := Ground.phase }], guard := none }) rfl (fun _ _ => ?r47n42) (AllReady.nil)
                case r47n42 =>
                  rw [if_pos (show Region.wanted _ _ = true from rfl)]
                  go_wp2
                  show wpAny Tryd.prog .any r4Ops Q 1 #[true, true, true, true, true, true, true, true, false] _ _
                  refine wpAny_ready (rs := [8]) (by kernel_rfl) (by simp) ?_
                  refine AllReady.cons (o := { dst := some 8, op := Op.assign (Operand.tmp 38), type := 39, pos := "law.go:78", after := #[{ on := 5, ground := Ground.data }, { on := 7, ground := Ground.chain }, { on := 0, ground := Ground.phase }, { on := 1, ground := Ground.phase }, { on := 2, ground := Ground.phase }, { on := 3, ground := Ground.phase }, { on := 4, ground := Ground.phase }, { on := 5, ground := Ground.phase }, { on := 6, ground := Ground.phase }, { on := 7, ground := Ground.phase }], guard := none }) rfl (fun _ _ => ?r48n43) (AllReady.nil)
                  case r48n43 =>
                    rw [if_pos (show Region.wanted _ _ = true from rfl)]
                    go_wp2
                    show wpAny Tryd.prog .any r4Ops Q 0 #[true, true, true, true, true, true, true, true, true] _ _
                    exact wpAny_done (by kernel_rfl) (hQ _ _ _ _ ((x1.below bb2).below bb3) (x2.below bb3) x3 B3) _
    case r44n2 =>
      rw [if_pos (show Region.wanted _ _ = true from rfl)]
      go_wp2
      show wpAny Tryd.prog .any r4Ops Q 7 #[true, false, false, false, true, false, false, false, false] _ _
      refine wpAny_ready (rs := [1, 2]) (by kernel_rfl) (by simp) ?_
      refine AllReady.cons (o := { dst := some 34, op := Op.call { callee := Callee.value (Operand.func 18), args := #[Operand.tmp 33], argTypes := #[33] }, type := 39, pos := "law.go:78", after := #[{ on := 0, ground := Ground.data }], guard := none }) rfl (fun _ _ => ?r41n45) (AllReady.cons (o := { dst := some 35, op := Op.load 33 (Operand.tmp 3), type := 33, pos := "law.go:78", after := #[], guard := none }) rfl (fun _ _ => ?r42n45) (AllReady.nil))
      case r41n45 =>
        rw [if_pos (show Region.wanted _ _ = true from rfl)]
        go_wp2_with (go_at_call 18; refine (h18a _ B0).mono ?_; rintro rr w1 ⟨v1, rfl, x1, bb1⟩; have B1 := Below.tr B0 le_rfl' bb1; obtain ⟨e0, e1, e2, e3, e4, e5⟩ := six_keep hc B1; obtain ⟨f0, f1, f2, f3, f4, f5⟩ := six_keep hd B1; obtain ⟨k0, k1, k2, k3, k4, k5⟩ := six_keep hg B1)
        show wpAny Tryd.prog .any r4Ops Q 6 #[true, true, false, false, true, false, false, false, false] _ _
        refine wpAny_ready (rs := [2]) (by kernel_rfl) (by simp) ?_
        refine AllReady.cons (o := { dst := some 35, op := Op.load 33 (Operand.tmp 3), type := 33, pos := "law.go:78", after := #[], guard := none }) rfl (fun _ _ => ?r42n46) (AllReady.nil)
        case r42n46 =>
          rw [if_pos (show Region.wanted _ _ = true from rfl)]
          go_wp2
          show wpAny Tryd.prog .any r4Ops Q 5 #[true, true, true, false, true, false, false, false, false] _ _
          refine wpAny_ready (rs := [3]) (by kernel_rfl) (by simp) ?_
          refine AllReady.cons (o := { dst := some 36, op := Op.call { callee := Callee.value (Operand.func 18), args := #[Operand.tmp 35], argTypes := #[33] }, type := 39, pos := "law.go:78", after := #[{ on := 2, ground := Ground.data }, { on := 1, ground := Ground.chain }], guard := none }) rfl (fun _ _ => ?r43n47) (AllReady.nil)
          case r43n47 =>
            rw [if_pos (show Region.wanted _ _ = true from rfl)]
            go_wp2_with (go_at_call 18; refine (h18b _ B1).mono ?_; rintro rr w2 ⟨v2, rfl, x2, bb2⟩; have B2 := Below.tr B1 le_rfl' bb2; obtain ⟨e0, e1, e2, e3, e4, e5⟩ := six_keep hc B2; obtain ⟨f0, f1, f2, f3, f4, f5⟩ := six_keep hd B2; obtain ⟨k0, k1, k2, k3, k4, k5⟩ := six_keep hg B2)
            show wpAny Tryd.prog .any r4Ops Q 4 #[true, true, true, true, true, false, false, false, false] _ _
            refine wpAny_ready (rs := [5]) (by kernel_rfl) (by simp) ?_
            refine AllReady.cons (o := { dst := some 38, op := Op.call { callee := Callee.value (Operand.func 18), args := #[Operand.tmp 37], argTypes := #[33] }, type := 39, pos := "law.go:78", after := #[{ on := 4, ground := Ground.data }, { on := 3, ground := Ground.chain }], guard := none }) rfl (fun _ _ => ?r45n48) (AllReady.nil)
            case r45n48 =>
              rw [if_pos (show Region.wanted _ _ = true from rfl)]
              go_wp2_with (go_at_call 18; refine (h18c _ B2).mono ?_; rintro rr w3 ⟨v3, rfl, x3, bb3⟩; have B3 := Below.tr B2 le_rfl' bb3; obtain ⟨e0, e1, e2, e3, e4, e5⟩ := six_keep hc B3; obtain ⟨f0, f1, f2, f3, f4, f5⟩ := six_keep hd B3; obtain ⟨k0, k1, k2, k3, k4, k5⟩ := six_keep hg B3)
              show wpAny Tryd.prog .any r4Ops Q 3 #[true, true, true, true, true, true, false, false, false] _ _
              refine wpAny_ready (rs := [6]) (by kernel_rfl) (by simp) ?_
              refine AllReady.cons (o := { dst := some 6, op := Op.assign (Operand.tmp 34), type := 39, pos := "law.go:78", after := #[{ on := 1, ground := Ground.data }, { on := 5, ground := Ground.chain }, { on := 0, ground := Ground.phase }, { on := 1, ground := Ground.phase }, { on := 2, ground := Ground.textOnly Departure.lateStores }, { on := 3, ground := Ground.textOnly Departure.lateStoresUnsure }, { on := 4, ground := Ground.textOnly Departure.lateStores }, { on := 5, ground := Ground.textOnly Departure.lateStoresUnsure }], guard := none }) rfl (fun _ _ => ?r46n49) (AllReady.nil)
              case r46n49 =>
                rw [if_pos (show Region.wanted _ _ = true from rfl)]
                go_wp2
                show wpAny Tryd.prog .any r4Ops Q 2 #[true, true, true, true, true, true, true, false, false] _ _
                refine wpAny_ready (rs := [7]) (by kernel_rfl) (by simp) ?_
                refine AllReady.cons (o := { dst := some 7, op := Op.assign (Operand.tmp 36), type := 39, pos := "law.go:78", after := #[{ on := 3, ground := Ground.data }, { on := 6, ground := Ground.chain }, { on := 0, ground := Ground.phase }, { on := 1, ground := Ground.phase }, { on := 2, ground := Ground.phase }, { on := 3, ground := Ground.phase }, { on := 4, ground := Ground.textOnly Departure.lateStores }, { on := 5, ground := Ground.textOnly Departure.lateStoresUnsure }, { on := 6, ground := Ground.phase }], guard := none }) rfl (fun _ _ => ?r47n50) (AllReady.nil)
                case r47n50 =>
                  rw [if_pos (show Region.wanted _ _ = true from rfl)]
                  go_wp2
                  show wpAny Tryd.prog .any r4Ops Q 1 #[true, true, true, true, true, true, true, true, false] _ _
                  refine wpAny_ready (rs := [8]) (by kernel_rfl) (by simp) ?_
                  refine AllReady.cons (o := { dst := some 8, op := Op.assign (Operand.tmp 38), type := 39, pos := "law.go:78", after := #[{ on := 5, ground := Ground.data }, { on := 7, ground := Ground.chain }, { on := 0, ground := Ground.phase }, { on := 1, ground := Ground.phase }, { on := 2, ground := Ground.phase }, { on := 3, ground := Ground.phase }, { on := 4, ground := Ground.phase }, { on := 5, ground := Ground.phase }, { on := 6, ground := Ground.phase }, { on := 7, ground := Ground.phase }], guard := none }) rfl (fun _ _ => ?r48n51) (AllReady.nil)
                  case r48n51 =>
                    rw [if_pos (show Region.wanted _ _ = true from rfl)]
                    go_wp2
                    show wpAny Tryd.prog .any r4Ops Q 0 #[true, true, true, true, true, true, true, true, true] _ _
                    exact wpAny_done (by kernel_rfl) (hQ _ _ _ _ ((x1.below bb2).below bb3) (x2.below bb3) x3 B3) _
      case r42n45 =>
        rw [if_pos (show Region.wanted _ _ = true from rfl)]
        go_wp2
        show wpAny Tryd.prog .any r4Ops Q 6 #[true, false, true, false, true, false, false, false, false] _ _
        refine wpAny_ready (rs := [1]) (by kernel_rfl) (by simp) ?_
        refine AllReady.cons (o := { dst := some 34, op := Op.call { callee := Callee.value (Operand.func 18), args := #[Operand.tmp 33], argTypes := #[33] }, type := 39, pos := "law.go:78", after := #[{ on := 0, ground := Ground.data }], guard := none }) rfl (fun _ _ => ?r41n53) (AllReady.nil)
        case r41n53 =>
          rw [if_pos (show Region.wanted _ _ = true from rfl)]
          go_wp2_with (go_at_call 18; refine (h18a _ B0).mono ?_; rintro rr w1 ⟨v1, rfl, x1, bb1⟩; have B1 := Below.tr B0 le_rfl' bb1; obtain ⟨e0, e1, e2, e3, e4, e5⟩ := six_keep hc B1; obtain ⟨f0, f1, f2, f3, f4, f5⟩ := six_keep hd B1; obtain ⟨k0, k1, k2, k3, k4, k5⟩ := six_keep hg B1)
          show wpAny Tryd.prog .any r4Ops Q 5 #[true, true, true, false, true, false, false, false, false] _ _
          refine wpAny_ready (rs := [3]) (by kernel_rfl) (by simp) ?_
          refine AllReady.cons (o := { dst := some 36, op := Op.call { callee := Callee.value (Operand.func 18), args := #[Operand.tmp 35], argTypes := #[33] }, type := 39, pos := "law.go:78", after := #[{ on := 2, ground := Ground.data }, { on := 1, ground := Ground.chain }], guard := none }) rfl (fun _ _ => ?r43n54) (AllReady.nil)
          case r43n54 =>
            rw [if_pos (show Region.wanted _ _ = true from rfl)]
            go_wp2_with (go_at_call 18; refine (h18b _ B1).mono ?_; rintro rr w2 ⟨v2, rfl, x2, bb2⟩; have B2 := Below.tr B1 le_rfl' bb2; obtain ⟨e0, e1, e2, e3, e4, e5⟩ := six_keep hc B2; obtain ⟨f0, f1, f2, f3, f4, f5⟩ := six_keep hd B2; obtain ⟨k0, k1, k2, k3, k4, k5⟩ := six_keep hg B2)
            show wpAny Tryd.prog .any r4Ops Q 4 #[true, true, true, true, true, false, false, false, false] _ _
            refine wpAny_ready (rs := [5]) (by kernel_rfl) (by simp) ?_
            refine AllReady.cons (o := { dst := some 38, op := Op.call { callee := Callee.value (Operand.func 18), args := #[Operand.tmp 37], argTypes := #[33] }, type := 39, pos := "law.go:78", after := #[{ on := 4, ground := Ground.data }, { on := 3, ground := Ground.chain }], guard := none }) rfl (fun _ _ => ?r45n55) (AllReady.nil)
            case r45n55 =>
              rw [if_pos (show Region.wanted _ _ = true from rfl)]
              go_wp2_with (go_at_call 18; refine (h18c _ B2).mono ?_; rintro rr w3 ⟨v3, rfl, x3, bb3⟩; have B3 := Below.tr B2 le_rfl' bb3; obtain ⟨e0, e1, e2, e3, e4, e5⟩ := six_keep hc B3; obtain ⟨f0, f1, f2, f3, f4, f5⟩ := six_keep hd B3; obtain ⟨k0, k1, k2, k3, k4, k5⟩ := six_keep hg B3)
              show wpAny Tryd.prog .any r4Ops Q 3 #[true, true, true, true, true, true, false, false, false] _ _
              refine wpAny_ready (rs := [6]) (by kernel_rfl) (by simp) ?_
              refine AllReady.cons (o := { dst := some 6, op := Op.assign (Operand.tmp 34), type := 39, pos := "law.go:78", after := #[{ on := 1, ground := Ground.data }, { on := 5, ground := Ground.chain }, { on := 0, ground := Ground.phase }, { on := 1, ground := Ground.phase }, { on := 2, ground := Ground.textOnly Departure.lateStores }, { on := 3, ground := Ground.textOnly Departure.lateStoresUnsure }, { on := 4, ground := Ground.textOnly Departure.lateStores }, { on := 5, ground := Ground.textOnly Departure.lateStoresUnsure }], guard := none }) rfl (fun _ _ => ?r46n56) (AllReady.nil)
              case r46n56 =>
                rw [if_pos (show Region.wanted _ _ = true from rfl)]
                go_wp2
                show wpAny Tryd.prog .any r4Ops Q 2 #[true, true, true, true, true, true, true, false, false] _ _
                refine wpAny_ready (rs := [7]) (by kernel_rfl) (by simp) ?_
                refine AllReady.cons (o := { dst := some 7, op := Op.assign (Operand.tmp 36), type := 39, pos := "law.go:78", after := #[{ on := 3, ground := Ground.data }, { on := 6, ground := Ground.chain }, { on := 0, ground := Ground.phase }, { on := 1, ground := Ground.phase }, { on := 2, ground := Ground.phase }, { on := 3, ground := Ground.phase }, { on := 4, ground := Ground.textOnly Departure.lateStores }, { on := 5, ground := Ground.textOnly Departure.lateStoresUnsure }, { on := 6, ground := Ground.phase }], guard := none }) rfl (fun _ _ => ?r47n57) (AllReady.nil)
                case r47n57 =>
                  rw [if_pos (show Region.wanted _ _ = true from rfl)]
                  go_wp2
                  show wpAny Tryd.prog .any r4Ops Q 1 #[true, true, true, true, true, true, true, true, false] _ _
                  refine wpAny_ready (rs := [8]) (by kernel_rfl) (by simp) ?_
                  refine AllReady.cons (o := { dst := some 8, op := Op.assign (Operand.tmp 38), type := 39, pos := "law.go:78", after := #[{ on := 5, ground := Ground.data }, { on := 7, ground := Ground.chain }, { on := 0, ground := Ground.phase }, { on := 1, ground := Ground.phase }, { on := 2, ground := Ground.phase }, { on := 3, ground := Ground.phase }, { on := 4, ground := Ground.phase }, { on := 5, ground := Ground.phase }, { on := 6, ground := Ground.phase }, { on := 7, ground := Ground.phase }], guard := none }) rfl (fun _ _ => ?r48n58) (AllReady.nil)
                  case r48n58 =>
                    rw [if_pos (show Region.wanted _ _ = true from rfl)]
                    go_wp2
                    show wpAny Tryd.prog .any r4Ops Q 0 #[true, true, true, true, true, true, true, true, true] _ _
                    exact wpAny_done (by kernel_rfl) (hQ _ _ _ _ ((x1.below bb2).below bb3) (x2.below bb3) x3 B3) _
  case r42n1 =>
    rw [if_pos (show Region.wanted _ _ = true from rfl)]
    go_wp2
    show wpAny Tryd.prog .any r4Ops Q 8 #[false, false, true, false, false, false, false, false, false] _ _
    refine wpAny_ready (rs := [0, 4]) (by kernel_rfl) (by simp) ?_
    refine AllReady.cons (o := { dst := some 33, op := Op.load 33 (Operand.tmp 2), type := 33, pos := "law.go:78", after := #[], guard := none }) rfl (fun _ _ => ?r40n60) (AllReady.cons (o := { dst := some 37, op := Op.load 33 (Operand.tmp 5), type := 33, pos := "law.go:78", after := #[], guard := none }) rfl (fun _ _ => ?r44n60) (AllReady.nil))
    case r40n60 =>
      rw [if_pos (show Region.wanted _ _ = true from rfl)]
      go_wp2
      show wpAny Tryd.prog .any r4Ops Q 7 #[true, false, true, false, false, false, false, false, false] _ _
      refine wpAny_ready (rs := [1, 4]) (by kernel_rfl) (by simp) ?_
      refine AllReady.cons (o := { dst := some 34, op := Op.call { callee := Callee.value (Operand.func 18), args := #[Operand.tmp 33], argTypes := #[33] }, type := 39, pos := "law.go:78", after := #[{ on := 0, ground := Ground.data }], guard := none }) rfl (fun _ _ => ?r41n61) (AllReady.cons (o := { dst := some 37, op := Op.load 33 (Operand.tmp 5), type := 33, pos := "law.go:78", after := #[], guard := none }) rfl (fun _ _ => ?r44n61) (AllReady.nil))
      case r41n61 =>
        rw [if_pos (show Region.wanted _ _ = true from rfl)]
        go_wp2_with (go_at_call 18; refine (h18a _ B0).mono ?_; rintro rr w1 ⟨v1, rfl, x1, bb1⟩; have B1 := Below.tr B0 le_rfl' bb1; obtain ⟨e0, e1, e2, e3, e4, e5⟩ := six_keep hc B1; obtain ⟨f0, f1, f2, f3, f4, f5⟩ := six_keep hd B1; obtain ⟨k0, k1, k2, k3, k4, k5⟩ := six_keep hg B1)
        show wpAny Tryd.prog .any r4Ops Q 6 #[true, true, true, false, false, false, false, false, false] _ _
        refine wpAny_ready (rs := [3, 4]) (by kernel_rfl) (by simp) ?_
        refine AllReady.cons (o := { dst := some 36, op := Op.call { callee := Callee.value (Operand.func 18), args := #[Operand.tmp 35], argTypes := #[33] }, type := 39, pos := "law.go:78", after := #[{ on := 2, ground := Ground.data }, { on := 1, ground := Ground.chain }], guard := none }) rfl (fun _ _ => ?r43n62) (AllReady.cons (o := { dst := some 37, op := Op.load 33 (Operand.tmp 5), type := 33, pos := "law.go:78", after := #[], guard := none }) rfl (fun _ _ => ?r44n62) (AllReady.nil))
        case r43n62 =>
          rw [if_pos (show Region.wanted _ _ = true from rfl)]
          go_wp2_with (go_at_call 18; refine (h18b _ B1).mono ?_; rintro rr w2 ⟨v2, rfl, x2, bb2⟩; have B2 := Below.tr B1 le_rfl' bb2; obtain ⟨e0, e1, e2, e3, e4, e5⟩ := six_keep hc B2; obtain ⟨f0, f1, f2, f3, f4, f5⟩ := six_keep hd B2; obtain ⟨k0, k1, k2, k3, k4, k5⟩ := six_keep hg B2)
          show wpAny Tryd.prog .any r4Ops Q 5 #[true, true, true, true, false, false, false, false, false] _ _
          refine wpAny_ready (rs := [4]) (by kernel_rfl) (by simp) ?_
          refine AllReady.cons (o := { dst := some 37, op := Op.load 33 (Operand.tmp 5), type := 33, pos := "law.go:78", after := #[], guard := none }) rfl (fun _ _ => ?r44n63) (AllReady.nil)
          case r44n63 =>
            rw [if_pos (show Region.wanted _ _ = true from rfl)]
            go_wp2
            show wpAny Tryd.prog .any r4Ops Q 4 #[true, true, true, true, true, false, false, false, false] _ _
            refine wpAny_ready (rs := [5]) (by kernel_rfl) (by simp) ?_
            refine AllReady.cons (o := { dst := some 38, op := Op.call { callee := Callee.value (Operand.func 18), args := #[Operand.tmp 37], argTypes := #[33] }, type := 39, pos := "law.go:78", after := #[{ on := 4, ground := Ground.data }, { on := 3, ground := Ground.chain }], guard := none }) rfl (fun _ _ => ?r45n64) (AllReady.nil)
            case r45n64 =>
              rw [if_pos (show Region.wanted _ _ = true from rfl)]
              go_wp2_with (go_at_call 18; refine (h18c _ B2).mono ?_; rintro rr w3 ⟨v3, rfl, x3, bb3⟩; have B3 := Below.tr B2 le_rfl' bb3; obtain ⟨e0, e1, e2, e3, e4, e5⟩ := six_keep hc B3; obtain ⟨f0, f1, f2, f3, f4, f5⟩ := six_keep hd B3; obtain ⟨k0, k1, k2, k3, k4, k5⟩ := six_keep hg B3)
              show wpAny Tryd.prog .any r4Ops Q 3 #[true, true, true, true, true, true, false, false, false] _ _
              refine wpAny_ready (rs := [6]) (by kernel_rfl) (by simp) ?_
              refine AllReady.cons (o := { dst := some 6, op := Op.assign (Operand.tmp 34), type := 39, pos := "law.go:78", after := #[{ on := 1, ground := Ground.data }, { on := 5, ground := Ground.chain }, { on := 0, ground := Ground.phase }, { on := 1, ground := Ground.phase }, { on := 2, ground := Ground.textOnly Departure.lateStores }, { on := 3, ground := Ground.textOnly Departure.lateStoresUnsure }, { on := 4, ground := Ground.textOnly Departure.lateStores }, { on := 5, ground := Ground.textOnly Departure.lateStoresUnsure }], guard := none }) rfl (fun _ _ => ?r46n65) (AllReady.nil)
              case r46n65 =>
                rw [if_pos (show Region.wanted _ _ = true from rfl)]
                go_wp2
                show wpAny Tryd.prog .any r4Ops Q 2 #[true, true, true, true, true, true, true, false, false] _ _
                refine wpAny_ready (rs := [7]) (by kernel_rfl) (by simp) ?_
                refine AllReady.cons (o := { dst := some 7, op := Op.assign (Operand.tmp 36), type := 39, pos := "law.go:78", after := #[{ on := 3, ground := Ground.data }, { on := 6, ground := Ground.chain }, { on := 0, ground := Ground.phase }, { on := 1, ground := Ground.phase }, { on := 2, ground := Ground.phase }, { on := 3, ground := Ground.phase }, { on := 4, ground := Ground.textOnly Departure.lateStores }, { on := 5, ground := Ground.textOnly Departure.lateStoresUnsure }, { on := 6, ground := Ground.phase }], guard := none }) rfl (fun _ _ => ?r47n66) (AllReady.nil)
                case r47n66 =>
                  rw [if_pos (show Region.wanted _ _ = true from rfl)]
                  go_wp2
                  show wpAny Tryd.prog .any r4Ops Q 1 #[true, true, true, true, true, true, true, true, false] _ _
                  refine wpAny_ready (rs := [8]) (by kernel_rfl) (by simp) ?_
                  refine AllReady.cons (o := { dst := some 8, op := Op.assign (Operand.tmp 38), type := 39, pos := "law.go:78", after := #[{ on := 5, ground := Ground.data }, { on := 7, ground := Ground.chain }, { on := 0, ground := Ground.phase }, { on := 1, ground := Ground.phase }, { on := 2, ground := Ground.phase }, { on := 3, ground := Ground.phase }, { on := 4, ground := Ground.phase }, { on := 5, ground := Ground.phase }, { on := 6, ground := Ground.phase }, { on := 7, ground := Ground.phase }], guard := none }) rfl (fun _ _ => ?r48n67) (AllReady.nil)
                  case r48n67 =>
                    rw [if_pos (show Region.wanted _ _ = true from rfl)]
                    go_wp2
                    show wpAny Tryd.prog .any r4Ops Q 0 #[true, true, true, true, true, true, true, true, true] _ _
                    exact wpAny_done (by kernel_rfl) (hQ _ _ _ _ ((x1.below bb2).below bb3) (x2.below bb3) x3 B3) _
        case r44n62 =>
          rw [if_pos (show Region.wanted _ _ = true from rfl)]
          go_wp2
          show wpAny Tryd.prog .any r4Ops Q 5 #[true, true, true, false, true, false, false, false, false] _ _
          refine wpAny_ready (rs := [3]) (by kernel_rfl) (by simp) ?_
          refine AllReady.cons (o := { dst := some 36, op := Op.call { callee := Callee.value (Operand.func 18), args := #[Operand.tmp 35], argTypes := #[33] }, type := 39, pos := "law.go:78", after := #[{ on := 2, ground := Ground.data }, { on := 1, ground := Ground.chain }], guard := none }) rfl (fun _ _ => ?r43n69) (AllReady.nil)
          case r43n69 =>
            rw [if_pos (show Region.wanted _ _ = true from rfl)]
            go_wp2_with (go_at_call 18; refine (h18b _ B1).mono ?_; rintro rr w2 ⟨v2, rfl, x2, bb2⟩; have B2 := Below.tr B1 le_rfl' bb2; obtain ⟨e0, e1, e2, e3, e4, e5⟩ := six_keep hc B2; obtain ⟨f0, f1, f2, f3, f4, f5⟩ := six_keep hd B2; obtain ⟨k0, k1, k2, k3, k4, k5⟩ := six_keep hg B2)
            show wpAny Tryd.prog .any r4Ops Q 4 #[true, true, true, true, true, false, false, false, false] _ _
            refine wpAny_ready (rs := [5]) (by kernel_rfl) (by simp) ?_
            refine AllReady.cons (o := { dst := some 38, op := Op.call { callee := Callee.value (Operand.func 18), args := #[Operand.tmp 37], argTypes := #[33] }, type := 39, pos := "law.go:78", after := #[{ on := 4, ground := Ground.data }, { on := 3, ground := Ground.chain }], guard := none }) rfl (fun _ _ => ?r45n70) (AllReady.nil)
            case r45n70 =>
              rw [if_pos (show Region.wanted _ _ = true from rfl)]
              go_wp2_with (go_at_call 18; refine (h18c _ B2).mono ?_; rintro rr w3 ⟨v3, rfl, x3, bb3⟩; have B3 := Below.tr B2 le_rfl' bb3; obtain ⟨e0, e1, e2, e3, e4, e5⟩ := six_keep hc B3; obtain ⟨f0, f1, f2, f3, f4, f5⟩ := six_keep hd B3; obtain ⟨k0, k1, k2, k3, k4, k5⟩ := six_keep hg B3)
              show wpAny Tryd.prog .any r4Ops Q 3 #[true, true, true, true, true, true, false, false, false] _ _
              refine wpAny_ready (rs := [6]) (by kernel_rfl) (by simp) ?_
              refine AllReady.cons (o := { dst := some 6, op := Op.assign (Operand.tmp 34), type := 39, pos := "law.go:78", after := #[{ on := 1, ground := Ground.data }, { on := 5, ground := Ground.chain }, { on := 0, ground := Ground.phase }, { on := 1, ground := Ground.phase }, { on := 2, ground := Ground.textOnly Departure.lateStores }, { on := 3, ground := Ground.textOnly Departure.lateStoresUnsure }, { on := 4, ground := Ground.textOnly Departure.lateStores }, { on := 5, ground := Ground.textOnly Departure.lateStoresUnsure }], guard := none }) rfl (fun _ _ => ?r46n71) (AllReady.nil)
              case r46n71 =>
                rw [if_pos (show Region.wanted _ _ = true from rfl)]
                go_wp2
                show wpAny Tryd.prog .any r4Ops Q 2 #[true, true, true, true, true, true, true, false, false] _ _
                refine wpAny_ready (rs := [7]) (by kernel_rfl) (by simp) ?_
                refine AllReady.cons (o := { dst := some 7, op := Op.assign (Operand.tmp 36), type := 39, pos := "law.go:78", after := #[{ on := 3, ground := Ground.data }, { on := 6, ground := Ground.chain }, { on := 0, ground := Ground.phase }, { on := 1, ground := Ground.phase }, { on := 2, ground := Ground.phase }, { on := 3, ground := Ground.phase }, { on := 4, ground := Ground.textOnly Departure.lateStores }, { on := 5, ground := Ground.textOnly Departure.lateStoresUnsure }, { on := 6, ground := Ground.phase }], guard := none }) rfl (fun _ _ => ?r47n72) (AllReady.nil)
                case r47n72 =>
                  rw [if_pos (show Region.wanted _ _ = true from rfl)]
                  go_wp2
                  show wpAny Tryd.prog .any r4Ops Q 1 #[true, true, true, true, true, true, true, true, false] _ _
                  refine wpAny_ready (rs := [8]) (by kernel_rfl) (by simp) ?_
                  refine AllReady.cons (o := { dst := some 8, op := Op.assign (Operand.tmp 38), type := 39, pos := "law.go:78", after := #[{ on := 5, ground := Ground.data }, { on := 7, ground := Ground.chain }, { on := 0, ground := Ground.phase }, { on := 1, ground := Ground.phase }, { on := 2, ground := Ground.phase }, { on := 3, ground := Ground.phase }, { on := 4, ground := Ground.phase }, { on := 5, ground := Ground.phase }, { on := 6, ground := Ground.phase }, { on := 7, ground := Ground.phase }], guard := none }) rfl (fun _ _ => ?r48n73) (AllReady.nil)
                  case r48n73 =>
                    rw [if_pos (show Region.wanted _ _ = true from rfl)]
                    go_wp2
                    show wpAny Tryd.prog .any r4Ops Q 0 #[true, true, true, true, true, true, true, true, true] _ _
                    exact wpAny_done (by kernel_rfl) (hQ _ _ _ _ ((x1.below bb2).below bb3) (x2.below bb3) x3 B3) _
      case r44n61 =>
        rw [if_pos (show Region.wanted _ _ = true from rfl)]
        go_wp2
        show wpAny Tryd.prog .any r4Ops Q 6 #[true, false, true, false, true, false, false, false, false] _ _
        refine wpAny_ready (rs := [1]) (by kernel_rfl) (by simp) ?_
        refine AllReady.cons (o := { dst := some 34, op := Op.call { callee := Callee.value (Operand.func 18), args := #[Operand.tmp 33], argTypes := #[33] }, type := 39, pos := "law.go:78", after := #[{ on := 0, ground := Ground.data }], guard := none }) rfl (fun _ _ => ?r41n75) (AllReady.nil)
        case r41n75 =>
          rw [if_pos (show Region.wanted _ _ = true from rfl)]
          go_wp2_with (go_at_call 18; refine (h18a _ B0).mono ?_; rintro rr w1 ⟨v1, rfl, x1, bb1⟩; have B1 := Below.tr B0 le_rfl' bb1; obtain ⟨e0, e1, e2, e3, e4, e5⟩ := six_keep hc B1; obtain ⟨f0, f1, f2, f3, f4, f5⟩ := six_keep hd B1; obtain ⟨k0, k1, k2, k3, k4, k5⟩ := six_keep hg B1)
          show wpAny Tryd.prog .any r4Ops Q 5 #[true, true, true, false, true, false, false, false, false] _ _
          refine wpAny_ready (rs := [3]) (by kernel_rfl) (by simp) ?_
          refine AllReady.cons (o := { dst := some 36, op := Op.call { callee := Callee.value (Operand.func 18), args := #[Operand.tmp 35], argTypes := #[33] }, type := 39, pos := "law.go:78", after := #[{ on := 2, ground := Ground.data }, { on := 1, ground := Ground.chain }], guard := none }) rfl (fun _ _ => ?r43n76) (AllReady.nil)
          case r43n76 =>
            rw [if_pos (show Region.wanted _ _ = true from rfl)]
            go_wp2_with (go_at_call 18; refine (h18b _ B1).mono ?_; rintro rr w2 ⟨v2, rfl, x2, bb2⟩; have B2 := Below.tr B1 le_rfl' bb2; obtain ⟨e0, e1, e2, e3, e4, e5⟩ := six_keep hc B2; obtain ⟨f0, f1, f2, f3, f4, f5⟩ := six_keep hd B2; obtain ⟨k0, k1, k2, k3, k4, k5⟩ := six_keep hg B2)
            show wpAny Tryd.prog .any r4Ops Q 4 #[true, true, true, true, true, false, false, false, false] _ _
            refine wpAny_ready (rs := [5]) (by kernel_rfl) (by simp) ?_
            refine AllReady.cons (o := { dst := some 38, op := Op.call { callee := Callee.value (Operand.func 18), args := #[Operand.tmp 37], argTypes := #[33] }, type := 39, pos := "law.go:78", after := #[{ on := 4, ground := Ground.data }, { on := 3, ground := Ground.chain }], guard := none }) rfl (fun _ _ => ?r45n77) (AllReady.nil)
            case r45n77 =>
              rw [if_pos (show Region.wanted _ _ = true from rfl)]
              go_wp2_with (go_at_call 18; refine (h18c _ B2).mono ?_; rintro rr w3 ⟨v3, rfl, x3, bb3⟩; have B3 := Below.tr B2 le_rfl' bb3; obtain ⟨e0, e1, e2, e3, e4, e5⟩ := six_keep hc B3; obtain ⟨f0, f1, f2, f3, f4, f5⟩ := six_keep hd B3; obtain ⟨k0, k1, k2, k3, k4, k5⟩ := six_keep hg B3)
              show wpAny Tryd.prog .any r4Ops Q 3 #[true, true, true, true, true, true, false, false, false] _ _
              refine wpAny_ready (rs := [6]) (by kernel_rfl) (by simp) ?_
              refine AllReady.cons (o := { dst := some 6, op := Op.assign (Operand.tmp 34), type := 39, pos := "law.go:78", after := #[{ on := 1, ground := Ground.data }, { on := 5, ground := Ground.chain }, { on := 0, ground := Ground.phase }, { on := 1, ground := Ground.phase }, { on := 2, ground := Ground.textOnly Departure.lateStores }, { on := 3, ground := Ground.textOnly Departure.lateStoresUnsure }, { on := 4, ground := Ground.textOnly Departure.lateStores }, { on := 5, ground := Ground.textOnly Departure.lateStoresUnsure }], guard := none }) rfl (fun _ _ => ?r46n78) (AllReady.nil)
              case r46n78 =>
                rw [if_pos (show Region.wanted _ _ = true from rfl)]
                go_wp2
                show wpAny Tryd.prog .any r4Ops Q 2 #[true, true, true, true, true, true, true, false, false] _ _
                refine wpAny_ready (rs := [7]) (by kernel_rfl) (by simp) ?_
                refine AllReady.cons (o := { dst := some 7, op := Op.assign (Operand.tmp 36), type := 39, pos := "law.go:78", after := #[{ on := 3, ground := Ground.data }, { on := 6, ground := Ground.chain }, { on := 0, ground := Ground.phase }, { on := 1, ground := Ground.phase }, { on := 2, ground := Ground.phase }, { on := 3, ground := Ground.phase }, { on := 4, ground := Ground.textOnly Departure.lateStores }, { on := 5, ground := Ground.textOnly Departure.lateStoresUnsure }, { on := 6, ground := Ground.phase }], guard := none }) rfl (fun _ _ => ?r47n79) (AllReady.nil)
                case r47n79 =>
                  rw [if_pos (show Region.wanted _ _ = true from rfl)]
                  go_wp2
                  show wpAny Tryd.prog .any r4Ops Q 1 #[true, true, true, true, true, true, true, true, false] _ _
                  refine wpAny_ready (rs := [8]) (by kernel_rfl) (by simp) ?_
                  refine AllReady.cons (o := { dst := some 8, op := Op.assign (Operand.tmp 38), type := 39, pos := "law.go:78", after := #[{ on := 5, ground := Ground.data }, { on := 7, ground := Ground.chain }, { on := 0, ground := Ground.phase }, { on := 1, ground := Ground.phase }, { on := 2, ground := Ground.phase }, { on := 3, ground := Ground.phase }, { on := 4, ground := Ground.phase }, { on := 5, ground := Ground.phase }, { on := 6, ground := Ground.phase }, { on := 7, ground := Ground.phase }], guard := none }) rfl (fun _ _ => ?r48n80) (AllReady.nil)
                  case r48n80 =>
                    rw [if_pos (show Region.wanted _ _ = true from rfl)]
                    go_wp2
                    show wpAny Tryd.prog .any r4Ops Q 0 #[true, true, true, true, true, true, true, true, true] _ _
                    exact wpAny_done (by kernel_rfl) (hQ _ _ _ _ ((x1.below bb2).below bb3) (x2.below bb3) x3 B3) _
    case r44n60 =>
      rw [if_pos (show Region.wanted _ _ = true from rfl)]
      go_wp2
      show wpAny Tryd.prog .any r4Ops Q 7 #[false, false, true, false, true, false, false, false, false] _ _
      refine wpAny_ready (rs := [0]) (by kernel_rfl) (by simp) ?_
      refine AllReady.cons (o := { dst := some 33, op := Op.load 33 (Operand.tmp 2), type := 33, pos := "law.go:78", after := #[], guard := none }) rfl (fun _ _ => ?r40n82) (AllReady.nil)
      case r40n82 =>
        rw [if_pos (show Region.wanted _ _ = true from rfl)]
        go_wp2
        show wpAny Tryd.prog .any r4Ops Q 6 #[true, false, true, false, true, false, false, false, false] _ _
        refine wpAny_ready (rs := [1]) (by kernel_rfl) (by simp) ?_
        refine AllReady.cons (o := { dst := some 34, op := Op.call { callee := Callee.value (Operand.func 18), args := #[Operand.tmp 33], argTypes := #[33] }, type := 39, pos := "law.go:78", after := #[{ on := 0, ground := Ground.data }], guard := none }) rfl (fun _ _ => ?r41n83) (AllReady.nil)
        case r41n83 =>
          rw [if_pos (show Region.wanted _ _ = true from rfl)]
          go_wp2_with (go_at_call 18; refine (h18a _ B0).mono ?_; rintro rr w1 ⟨v1, rfl, x1, bb1⟩; have B1 := Below.tr B0 le_rfl' bb1; obtain ⟨e0, e1, e2, e3, e4, e5⟩ := six_keep hc B1; obtain ⟨f0, f1, f2, f3, f4, f5⟩ := six_keep hd B1; obtain ⟨k0, k1, k2, k3, k4, k5⟩ := six_keep hg B1)
          show wpAny Tryd.prog .any r4Ops Q 5 #[true, true, true, false, true, false, false, false, false] _ _
          refine wpAny_ready (rs := [3]) (by kernel_rfl) (by simp) ?_
          refine AllReady.cons (o := { dst := some 36, op := Op.call { callee := Callee.value (Operand.func 18), args := #[Operand.tmp 35], argTypes := #[33] }, type := 39, pos := "law.go:78", after := #[{ on := 2, ground := Ground.data }, { on := 1, ground := Ground.chain }], guard := none }) rfl (fun _ _ => ?r43n84) (AllReady.nil)
          case r43n84 =>
            rw [if_pos (show Region.wanted _ _ = true from rfl)]
            go_wp2_with (go_at_call 18; refine (h18b _ B1).mono ?_; rintro rr w2 ⟨v2, rfl, x2, bb2⟩; have B2 := Below.tr B1 le_rfl' bb2; obtain ⟨e0, e1, e2, e3, e4, e5⟩ := six_keep hc B2; obtain ⟨f0, f1, f2, f3, f4, f5⟩ := six_keep hd B2; obtain ⟨k0, k1, k2, k3, k4, k5⟩ := six_keep hg B2)
            show wpAny Tryd.prog .any r4Ops Q 4 #[true, true, true, true, true, false, false, false, false] _ _
            refine wpAny_ready (rs := [5]) (by kernel_rfl) (by simp) ?_
            refine AllReady.cons (o := { dst := some 38, op := Op.call { callee := Callee.value (Operand.func 18), args := #[Operand.tmp 37], argTypes := #[33] }, type := 39, pos := "law.go:78", after := #[{ on := 4, ground := Ground.data }, { on := 3, ground := Ground.chain }], guard := none }) rfl (fun _ _ => ?r45n85) (AllReady.nil)
            case r45n85 =>
              rw [if_pos (show Region.wanted _ _ = true from rfl)]
              go_wp2_with (go_at_call 18; refine (h18c _ B2).mono ?_; rintro rr w3 ⟨v3, rfl, x3, bb3⟩; have B3 := Below.tr B2 le_rfl' bb3; obtain ⟨e0, e1, e2, e3, e4, e5⟩ := six_keep hc B3; obtain ⟨f0, f1, f2, f3, f4, f5⟩ := six_keep hd B3; obtain ⟨k0, k1, k2, k3, k4, k5⟩ := six_keep hg B3)
              show wpAny Tryd.prog .any r4Ops Q 3 #[true, true, true, true, true, true, false, false, false] _ _
              refine wpAny_ready (rs := [6]) (by kernel_rfl) (by simp) ?_
              refine AllReady.cons (o := { dst := some 6, op := Op.assign (Operand.tmp 34), type := 39, pos := "law.go:78", after := #[{ on := 1, ground := Ground.data }, { on := 5, ground := Ground.chain }, { on := 0, ground := Ground.phase }, { on := 1, ground := Ground.phase }, { on := 2, ground := Ground.textOnly Departure.lateStores }, { on := 3, ground := Ground.textOnly Departure.lateStoresUnsure }, { on := 4, ground := Ground.textOnly Departure.lateStores }, { on := 5, ground := Ground.textOnly Departure.lateStoresUnsure }], guard := none }) rfl (fun _ _ => ?r46n86) (AllReady.nil)
              case r46n86 =>
                rw [if_pos (show Region.wanted _ _ = true from rfl)]
                go_wp2
                show wpAny Tryd.prog .any r4Ops Q 2 #[true, true, true, true, true, true, true, false, false] _ _
                refine wpAny_ready (rs := [7]) (by kernel_rfl) (by simp) ?_
                refine AllReady.cons (o := { dst := some 7, op := Op.assign (Operand.tmp 36), type := 39, pos := "law.go:78", after := #[{ on := 3, ground := Ground.data }, { on := 6, ground := Ground.chain }, { on := 0, ground := Ground.phase }, { on := 1, ground := Ground.phase }, { on := 2, ground := Ground.phase }, { on := 3, ground := Ground.phase }, { on := 4, ground := Ground.textOnly Departure.lateStores }, { on := 5, ground := Ground.textOnly Departure.lateStoresUnsure }, { on := 6, ground := Ground.phase }], guard := none }) rfl (fun _ _ => ?r47n87) (AllReady.nil)
                case r47n87 =>
                  rw [if_pos (show Region.wanted _ _ = true from rfl)]
                  go_wp2
                  show wpAny Tryd.prog .any r4Ops Q 1 #[true, true, true, true, true, true, true, true, false] _ _
                  refine wpAny_ready (rs := [8]) (by kernel_rfl) (by simp) ?_
                  refine AllReady.cons (o := { dst := some 8, op := Op.assign (Operand.tmp 38), type := 39, pos := "law.go:78", after := #[{ on := 5, ground := Ground.data }, { on := 7, ground := Ground.chain }, { on := 0, ground := Ground.phase }, { on := 1, ground := Ground.phase }, { on := 2, ground := Ground.phase }, { on := 3, ground := Ground.phase }, { on := 4, ground := Ground.phase }, { on := 5, ground := Ground.phase }, { on := 6, ground := Ground.phase }, { on := 7, ground := Ground.phase }], guard := none }) rfl (fun _ _ => ?r48n88) (AllReady.nil)
                  case r48n88 =>
                    rw [if_pos (show Region.wanted _ _ = true from rfl)]
                    go_wp2
                    show wpAny Tryd.prog .any r4Ops Q 0 #[true, true, true, true, true, true, true, true, true] _ _
                    exact wpAny_done (by kernel_rfl) (hQ _ _ _ _ ((x1.below bb2).below bb3) (x2.below bb3) x3 B3) _
  case r44n1 =>
    rw [if_pos (show Region.wanted _ _ = true from rfl)]
    go_wp2
    show wpAny Tryd.prog .any r4Ops Q 8 #[false, false, false, false, true, false, false, false, false] _ _
    refine wpAny_ready (rs := [0, 2]) (by kernel_rfl) (by simp) ?_
    refine AllReady.cons (o := { dst := some 33, op := Op.load 33 (Operand.tmp 2), type := 33, pos := "law.go:78", after := #[], guard := none }) rfl (fun _ _ => ?r40n90) (AllReady.cons (o := { dst := some 35, op := Op.load 33 (Operand.tmp 3), type := 33, pos := "law.go:78", after := #[], guard := none }) rfl (fun _ _ => ?r42n90) (AllReady.nil))
    case r40n90 =>
      rw [if_pos (show Region.wanted _ _ = true from rfl)]
      go_wp2
      show wpAny Tryd.prog .any r4Ops Q 7 #[true, false, false, false, true, false, false, false, false] _ _
      refine wpAny_ready (rs := [1, 2]) (by kernel_rfl) (by simp) ?_
      refine AllReady.cons (o := { dst := some 34, op := Op.call { callee := Callee.value (Operand.func 18), args := #[Operand.tmp 33], argTypes := #[33] }, type := 39, pos := "law.go:78", after := #[{ on := 0, ground := Ground.data }], guard := none }) rfl (fun _ _ => ?r41n91) (AllReady.cons (o := { dst := some 35, op := Op.load 33 (Operand.tmp 3), type := 33, pos := "law.go:78", after := #[], guard := none }) rfl (fun _ _ => ?r42n91) (AllReady.nil))
      case r41n91 =>
        rw [if_pos (show Region.wanted _ _ = true from rfl)]
        go_wp2_with (go_at_call 18; refine (h18a _ B0).mono ?_; rintro rr w1 ⟨v1, rfl, x1, bb1⟩; have B1 := Below.tr B0 le_rfl' bb1; obtain ⟨e0, e1, e2, e3, e4, e5⟩ := six_keep hc B1; obtain ⟨f0, f1, f2, f3, f4, f5⟩ := six_keep hd B1; obtain ⟨k0, k1, k2, k3, k4, k5⟩ := six_keep hg B1)
        show wpAny Tryd.prog .any r4Ops Q 6 #[true, true, false, false, true, false, false, false, false] _ _
        refine wpAny_ready (rs := [2]) (by kernel_rfl) (by simp) ?_
        refine AllReady.cons (o := { dst := some 35, op := Op.load 33 (Operand.tmp 3), type := 33, pos := "law.go:78", after := #[], guard := none }) rfl (fun _ _ => ?r42n92) (AllReady.nil)
        case r42n92 =>
          rw [if_pos (show Region.wanted _ _ = true from rfl)]
          go_wp2
          show wpAny Tryd.prog .any r4Ops Q 5 #[true, true, true, false, true, false, false, false, false] _ _
          refine wpAny_ready (rs := [3]) (by kernel_rfl) (by simp) ?_
          refine AllReady.cons (o := { dst := some 36, op := Op.call { callee := Callee.value (Operand.func 18), args := #[Operand.tmp 35], argTypes := #[33] }, type := 39, pos := "law.go:78", after := #[{ on := 2, ground := Ground.data }, { on := 1, ground := Ground.chain }], guard := none }) rfl (fun _ _ => ?r43n93) (AllReady.nil)
          case r43n93 =>
            rw [if_pos (show Region.wanted _ _ = true from rfl)]
            go_wp2_with (go_at_call 18; refine (h18b _ B1).mono ?_; rintro rr w2 ⟨v2, rfl, x2, bb2⟩; have B2 := Below.tr B1 le_rfl' bb2; obtain ⟨e0, e1, e2, e3, e4, e5⟩ := six_keep hc B2; obtain ⟨f0, f1, f2, f3, f4, f5⟩ := six_keep hd B2; obtain ⟨k0, k1, k2, k3, k4, k5⟩ := six_keep hg B2)
            show wpAny Tryd.prog .any r4Ops Q 4 #[true, true, true, true, true, false, false, false, false] _ _
            refine wpAny_ready (rs := [5]) (by kernel_rfl) (by simp) ?_
            refine AllReady.cons (o := { dst := some 38, op := Op.call { callee := Callee.value (Operand.func 18), args := #[Operand.tmp 37], argTypes := #[33] }, type := 39, pos := "law.go:78", after := #[{ on := 4, ground := Ground.data }, { on := 3, ground := Ground.chain }], guard := none }) rfl (fun _ _ => ?r45n94) (AllReady.nil)
            case r45n94 =>
              rw [if_pos (show Region.wanted _ _ = true from rfl)]
              go_wp2_with (go_at_call 18; refine (h18c _ B2).mono ?_; rintro rr w3 ⟨v3, rfl, x3, bb3⟩; have B3 := Below.tr B2 le_rfl' bb3; obtain ⟨e0, e1, e2, e3, e4, e5⟩ := six_keep hc B3; obtain ⟨f0, f1, f2, f3, f4, f5⟩ := six_keep hd B3; obtain ⟨k0, k1, k2, k3, k4, k5⟩ := six_keep hg B3)
              show wpAny Tryd.prog .any r4Ops Q 3 #[true, true, true, true, true, true, false, false, false] _ _
              refine wpAny_ready (rs := [6]) (by kernel_rfl) (by simp) ?_
              refine AllReady.cons (o := { dst := some 6, op := Op.assign (Operand.tmp 34), type := 39, pos := "law.go:78", after := #[{ on := 1, ground := Ground.data }, { on := 5, ground := Ground.chain }, { on := 0, ground := Ground.phase }, { on := 1, ground := Ground.phase }, { on := 2, ground := Ground.textOnly Departure.lateStores }, { on := 3, ground := Ground.textOnly Departure.lateStoresUnsure }, { on := 4, ground := Ground.textOnly Departure.lateStores }, { on := 5, ground := Ground.textOnly Departure.lateStoresUnsure }], guard := none }) rfl (fun _ _ => ?r46n95) (AllReady.nil)
              case r46n95 =>
                rw [if_pos (show Region.wanted _ _ = true from rfl)]
                go_wp2
                show wpAny Tryd.prog .any r4Ops Q 2 #[true, true, true, true, true, true, true, false, false] _ _
                refine wpAny_ready (rs := [7]) (by kernel_rfl) (by simp) ?_
                refine AllReady.cons (o := { dst := some 7, op := Op.assign (Operand.tmp 36), type := 39, pos := "law.go:78", after := #[{ on := 3, ground := Ground.data }, { on := 6, ground := Ground.chain }, { on := 0, ground := Ground.phase }, { on := 1, ground := Ground.phase }, { on := 2, ground := Ground.phase }, { on := 3, ground := Ground.phase }, { on := 4, ground := Ground.textOnly Departure.lateStores }, { on := 5, ground := Ground.textOnly Departure.lateStoresUnsure }, { on := 6, ground := Ground.phase }], guard := none }) rfl (fun _ _ => ?r47n96) (AllReady.nil)
                case r47n96 =>
                  rw [if_pos (show Region.wanted _ _ = true from rfl)]
                  go_wp2
                  show wpAny Tryd.prog .any r4Ops Q 1 #[true, true, true, true, true, true, true, true, false] _ _
                  refine wpAny_ready (rs := [8]) (by kernel_rfl) (by simp) ?_
                  refine AllReady.cons (o := { dst := some 8, op := Op.assign (Operand.tmp 38), type := 39, pos := "law.go:78", after := #[{ on := 5, ground := Ground.data }, { on := 7, ground := Ground.chain }, { on := 0, ground := Ground.phase }, { on := 1, ground := Ground.phase }, { on := 2, ground := Ground.phase }, { on := 3, ground := Ground.phase }, { on := 4, ground := Ground.phase }, { on := 5, ground := Ground.phase }, { on := 6, ground := Ground.phase }, { on := 7, ground := Ground.phase }], guard := none }) rfl (fun _ _ => ?r48n97) (AllReady.nil)
                  case r48n97 =>
                    rw [if_pos (show Region.wanted _ _ = true from rfl)]
                    go_wp2
                    show wpAny Tryd.prog .any r4Ops Q 0 #[true, true, true, true, true, true, true, true, true] _ _
                    exact wpAny_done (by kernel_rfl) (hQ _ _ _ _ ((x1.below bb2).below bb3) (x2.below bb3) x3 B3) _
      case r42n91 =>
        rw [if_pos (show Region.wanted _ _ = true from rfl)]
        go_wp2
        show wpAny Tryd.prog .any r4Ops Q 6 #[true, false, true, false, true, false, false, false, false] _ _
        refine wpAny_ready (rs := [1]) (by kernel_rfl) (by simp) ?_
        refine AllReady.cons (o := { dst := some 34, op := Op.call { callee := Callee.value (Operand.func 18), args := #[Operand.tmp 33], argTypes := #[33] }, type := 39, pos := "law.go:78", after := #[{ on := 0, ground := Ground.data }], guard := none }) rfl (fun _ _ => ?r41n99) (AllReady.nil)
        case r41n99 =>
          rw [if_pos (show Region.wanted _ _ = true from rfl)]
          go_wp2_with (go_at_call 18; refine (h18a _ B0).mono ?_; rintro rr w1 ⟨v1, rfl, x1, bb1⟩; have B1 := Below.tr B0 le_rfl' bb1; obtain ⟨e0, e1, e2, e3, e4, e5⟩ := six_keep hc B1; obtain ⟨f0, f1, f2, f3, f4, f5⟩ := six_keep hd B1; obtain ⟨k0, k1, k2, k3, k4, k5⟩ := six_keep hg B1)
          show wpAny Tryd.prog .any r4Ops Q 5 #[true, true, true, false, true, false, false, false, false] _ _
          refine wpAny_ready (rs := [3]) (by kernel_rfl) (by simp) ?_
          refine AllReady.cons (o := { dst := some 36, op := Op.call { callee := Callee.value (Operand.func 18), args := #[Operand.tmp 35], argTypes := #[33] }, type := 39, pos := "law.go:78", after := #[{ on := 2, ground := Ground.data }, { on := 1, ground := Ground.chain }], guard := none }) rfl (fun _ _ => ?r43n100) (AllReady.nil)
          case r43n100 =>
            rw [if_pos (show Region.wanted _ _ = true from rfl)]
            go_wp2_with (go_at_call 18; refine (h18b _ B1).mono ?_; rintro rr w2 ⟨v2, rfl, x2, bb2⟩; have B2 := Below.tr B1 le_rfl' bb2; obtain ⟨e0, e1, e2, e3, e4, e5⟩ := six_keep hc B2; obtain ⟨f0, f1, f2, f3, f4, f5⟩ := six_keep hd B2; obtain ⟨k0, k1, k2, k3, k4, k5⟩ := six_keep hg B2)
            show wpAny Tryd.prog .any r4Ops Q 4 #[true, true, true, true, true, false, false, false, false] _ _
            refine wpAny_ready (rs := [5]) (by kernel_rfl) (by simp) ?_
            refine AllReady.cons (o := { dst := some 38, op := Op.call { callee := Callee.value (Operand.func 18), args := #[Operand.tmp 37], argTypes := #[33] }, type := 39, pos := "law.go:78", after := #[{ on := 4, ground := Ground.data }, { on := 3, ground := Ground.chain }], guard := none }) rfl (fun _ _ => ?r45n101) (AllReady.nil)
            case r45n101 =>
              rw [if_pos (show Region.wanted _ _ = true from rfl)]
              go_wp2_with (go_at_call 18; refine (h18c _ B2).mono ?_; rintro rr w3 ⟨v3, rfl, x3, bb3⟩; have B3 := Below.tr B2 le_rfl' bb3; obtain ⟨e0, e1, e2, e3, e4, e5⟩ := six_keep hc B3; obtain ⟨f0, f1, f2, f3, f4, f5⟩ := six_keep hd B3; obtain ⟨k0, k1, k2, k3, k4, k5⟩ := six_keep hg B3)
              show wpAny Tryd.prog .any r4Ops Q 3 #[true, true, true, true, true, true, false, false, false] _ _
              refine wpAny_ready (rs := [6]) (by kernel_rfl) (by simp) ?_
              refine AllReady.cons (o := { dst := some 6, op := Op.assign (Operand.tmp 34), type := 39, pos := "law.go:78", after := #[{ on := 1, ground := Ground.data }, { on := 5, ground := Ground.chain }, { on := 0, ground := Ground.phase }, { on := 1, ground := Ground.phase }, { on := 2, ground := Ground.textOnly Departure.lateStores }, { on := 3, ground := Ground.textOnly Departure.lateStoresUnsure }, { on := 4, ground := Ground.textOnly Departure.lateStores }, { on := 5, ground := Ground.textOnly Departure.lateStoresUnsure }], guard := none }) rfl (fun _ _ => ?r46n102) (AllReady.nil)
              case r46n102 =>
                rw [if_pos (show Region.wanted _ _ = true from rfl)]
                go_wp2
                show wpAny Tryd.prog .any r4Ops Q 2 #[true, true, true, true, true, true, true, false, false] _ _
                refine wpAny_ready (rs := [7]) (by kernel_rfl) (by simp) ?_
                refine AllReady.cons (o := { dst := some 7, op := Op.assign (Operand.tmp 36), type := 39, pos := "law.go:78", after := #[{ on := 3, ground := Ground.data }, { on := 6, ground := Ground.chain }, { on := 0, ground := Ground.phase }, { on := 1, ground := Ground.phase }, { on := 2, ground := Ground.phase }, { on := 3, ground := Ground.phase }, { on := 4, ground := Ground.textOnly Departure.lateStores }, { on := 5, ground := Ground.textOnly Departure.lateStoresUnsure }, { on := 6, ground := Ground.phase }], guard := none }) rfl (fun _ _ => ?r47n103) (AllReady.nil)
                case r47n103 =>
                  rw [if_pos (show Region.wanted _ _ = true from rfl)]
                  go_wp2
                  show wpAny Tryd.prog .any r4Ops Q 1 #[true, true, true, true, true, true, true, true, false] _ _
                  refine wpAny_ready (rs := [8]) (by kernel_rfl) (by simp) ?_
                  refine AllReady.cons (o := { dst := some 8, op := Op.assign (Operand.tmp 38), type := 39, pos := "law.go:78", after := #[{ on := 5, ground := Ground.data }, { on := 7, ground := Ground.chain }, { on := 0, ground := Ground.phase }, { on := 1, ground := Ground.phase }, { on := 2, ground := Ground.phase }, { on := 3, ground := Ground.phase }, { on := 4, ground := Ground.phase }, { on := 5, ground := Ground.phase }, { on := 6, ground := Ground.phase }, { on := 7, ground := Ground.phase }], guard := none }) rfl (fun _ _ => ?r48n104) (AllReady.nil)
                  case r48n104 =>
                    rw [if_pos (show Region.wanted _ _ = true from rfl)]
                    go_wp2
                    show wpAny Tryd.prog .any r4Ops Q 0 #[true, true, true, true, true, true, true, true, true] _ _
                    exact wpAny_done (by kernel_rfl) (hQ _ _ _ _ ((x1.below bb2).below bb3) (x2.below bb3) x3 B3) _
    case r42n90 =>
      rw [if_pos (show Region.wanted _ _ = true from rfl)]
      go_wp2
      show wpAny Tryd.prog .any r4Ops Q 7 #[false, false, true, false, true, false, false, false, false] _ _
      refine wpAny_ready (rs := [0]) (by kernel_rfl) (by simp) ?_
      refine AllReady.cons (o := { dst := some 33, op := Op.load 33 (Operand.tmp 2), type := 33, pos := "law.go:78", after := #[], guard := none }) rfl (fun _ _ => ?r40n106) (AllReady.nil)
      case r40n106 =>
        rw [if_pos (show Region.wanted _ _ = true from rfl)]
        go_wp2
        show wpAny Tryd.prog .any r4Ops Q 6 #[true, false, true, false, true, false, false, false, false] _ _
        refine wpAny_ready (rs := [1]) (by kernel_rfl) (by simp) ?_
        refine AllReady.cons (o := { dst := some 34, op := Op.call { callee := Callee.value (Operand.func 18), args := #[Operand.tmp 33], argTypes := #[33] }, type := 39, pos := "law.go:78", after := #[{ on := 0, ground := Ground.data }], guard := none }) rfl (fun _ _ => ?r41n107) (AllReady.nil)
        case r41n107 =>
          rw [if_pos (show Region.wanted _ _ = true from rfl)]
          go_wp2_with (go_at_call 18; refine (h18a _ B0).mono ?_; rintro rr w1 ⟨v1, rfl, x1, bb1⟩; have B1 := Below.tr B0 le_rfl' bb1; obtain ⟨e0, e1, e2, e3, e4, e5⟩ := six_keep hc B1; obtain ⟨f0, f1, f2, f3, f4, f5⟩ := six_keep hd B1; obtain ⟨k0, k1, k2, k3, k4, k5⟩ := six_keep hg B1)
          show wpAny Tryd.prog .any r4Ops Q 5 #[true, true, true, false, true, false, false, false, false] _ _
          refine wpAny_ready (rs := [3]) (by kernel_rfl) (by simp) ?_
          refine AllReady.cons (o := { dst := some 36, op := Op.call { callee := Callee.value (Operand.func 18), args := #[Operand.tmp 35], argTypes := #[33] }, type := 39, pos := "law.go:78", after := #[{ on := 2, ground := Ground.data }, { on := 1, ground := Ground.chain }], guard := none }) rfl (fun _ _ => ?r43n108) (AllReady.nil)
          case r43n108 =>
            rw [if_pos (show Region.wanted _ _ = true from rfl)]
            go_wp2_with (go_at_call 18; refine (h18b _ B1).mono ?_; rintro rr w2 ⟨v2, rfl, x2, bb2⟩; have B2 := Below.tr B1 le_rfl' bb2; obtain ⟨e0, e1, e2, e3, e4, e5⟩ := six_keep hc B2; obtain ⟨f0, f1, f2, f3, f4, f5⟩ := six_keep hd B2; obtain ⟨k0, k1, k2, k3, k4, k5⟩ := six_keep hg B2)
            show wpAny Tryd.prog .any r4Ops Q 4 #[true, true, true, true, true, false, false, false, false] _ _
            refine wpAny_ready (rs := [5]) (by kernel_rfl) (by simp) ?_
            refine AllReady.cons (o := { dst := some 38, op := Op.call { callee := Callee.value (Operand.func 18), args := #[Operand.tmp 37], argTypes := #[33] }, type := 39, pos := "law.go:78", after := #[{ on := 4, ground := Ground.data }, { on := 3, ground := Ground.chain }], guard := none }) rfl (fun _ _ => ?r45n109) (AllReady.nil)
            case r45n109 =>
              rw [if_pos (show Region.wanted _ _ = true from rfl)]
              go_wp2_with (go_at_call 18; refine (h18c _ B2).mono ?_; rintro rr w3 ⟨v3, rfl, x3, bb3⟩; have B3 := Below.tr B2 le_rfl' bb3; obtain ⟨e0, e1, e2, e3, e4, e5⟩ := six_keep hc B3; obtain ⟨f0, f1, f2, f3, f4, f5⟩ := six_keep hd B3; obtain ⟨k0, k1, k2, k3, k4, k5⟩ := six_keep hg B3)
              show wpAny Tryd.prog .any r4Ops Q 3 #[true, true, true, true, true, true, false, false, false] _ _
              refine wpAny_ready (rs := [6]) (by kernel_rfl) (by simp) ?_
              refine AllReady.cons (o := { dst := some 6, op := Op.assign (Operand.tmp 34), type := 39, pos := "law.go:78", after := #[{ on := 1, ground := Ground.data }, { on := 5, ground := Ground.chain }, { on := 0, ground := Ground.phase }, { on := 1, ground := Ground.phase }, { on := 2, ground := Ground.textOnly Departure.lateStores }, { on := 3, ground := Ground.textOnly Departure.lateStoresUnsure }, { on := 4, ground := Ground.textOnly Departure.lateStores }, { on := 5, ground := Ground.textOnly Departure.lateStoresUnsure }], guard := none }) rfl (fun _ _ => ?r46n110) (AllReady.nil)
              case r46n110 =>
                rw [if_pos (show Region.wanted _ _ = true from rfl)]
                go_wp2
                show wpAny Tryd.prog .any r4Ops Q 2 #[true, true, true, true, true, true, true, false, false] _ _
                refine wpAny_ready (rs := [7]) (by kernel_rfl) (by simp) ?_
                refine AllReady.cons (o := { dst := some 7, op := Op.assign (Operand.tmp 36), type := 39, pos := "law.go:78", after := #[{ on := 3, ground := Ground.data }, { on := 6, ground := Ground.chain }, { on := 0, ground := Ground.phase }, { on := 1, ground := Ground.phase }, { on := 2, ground := Ground.phase }, { on := 3, ground := Ground.phase }, { on := 4, ground := Ground.textOnly Departure.lateStores }, { on := 5, ground := Ground.textOnly Departure.lateStoresUnsure }, { on := 6, ground := Ground.phase }], guard := none }) rfl (fun _ _ => ?r47n111) (AllReady.nil)
                case r47n111 =>
                  rw [if_pos (show Region.wanted _ _ = true from rfl)]
                  go_wp2
                  show wpAny Tryd.prog .any r4Ops Q 1 #[true, true, true, true, true, true, true, true, false] _ _
                  refine wpAny_ready (rs := [8]) (by kernel_rfl) (by simp) ?_
                  refine AllReady.cons (o := { dst := some 8, op := Op.assign (Operand.tmp 38), type := 39, pos := "law.go:78", after := #[{ on := 5, ground := Ground.data }, { on := 7, ground := Ground.chain }, { on := 0, ground := Ground.phase }, { on := 1, ground := Ground.phase }, { on := 2, ground := Ground.phase }, { on := 3, ground := Ground.phase }, { on := 4, ground := Ground.phase }, { on := 5, ground := Ground.phase }, { on := 6, ground := Ground.phase }, { on := 7, ground := Ground.phase }], guard := none }) rfl (fun _ _ => ?r48n112) (AllReady.nil)
                  case r48n112 =>
                    rw [if_pos (show Region.wanted _ _ = true from rfl)]
                    go_wp2
                    show wpAny Tryd.prog .any r4Ops Q 0 #[true, true, true, true, true, true, true, true, true] _ _
                    exact wpAny_done (by kernel_rfl) (hQ _ _ _ _ ((x1.below bb2).below bb3) (x2.below bb3) x3 B3) _
def r15Ops : Array Oper := #[{ dst := some 83, op := Op.load 33 (Operand.tmp 2), type := 33, pos := "law.go:89", after := #[], guard := none }, { dst := some 84, op := Op.call { callee := Callee.value (Operand.func 27), args := #[Operand.tmp 83], argTypes := #[33] }, type := 3, pos := "law.go:89", after := #[{ on := 0, ground := Ground.data }], guard := none }, { dst := some 85, op := Op.load 33 (Operand.tmp 3), type := 33, pos := "law.go:89", after := #[], guard := none }, { dst := some 86, op := Op.call { callee := Callee.value (Operand.func 27), args := #[Operand.tmp 85], argTypes := #[33] }, type := 3, pos := "law.go:89", after := #[{ on := 2, ground := Ground.data }, { on := 1, ground := Ground.chain }], guard := none }, { dst := some 87, op := Op.binOp BinOp.add 3 (Operand.tmp 84) (Operand.tmp 86) 3, type := 3, pos := "law.go:89", after := #[{ on := 1, ground := Ground.data }, { on := 3, ground := Ground.data }], guard := none }, { dst := some 11, op := Op.assign (Operand.tmp 87), type := 3, pos := "law.go:89", after := #[{ on := 4, ground := Ground.data }, { on := 3, ground := Ground.chain }, { on := 0, ground := Ground.phase }, { on := 1, ground := Ground.phase }, { on := 2, ground := Ground.phase }, { on := 3, ground := Ground.phase }, { on := 4, ground := Ground.phase }], guard := none }]
set_option maxRecDepth 100000 in
set_option maxHeartbeats 8000000 in
theorem reg15 {Q : Exit → Act → World → Prop} (t0 t1 t4 t5 t6 t7 t8 t9 t10 t11 t12 t13 t14 t15 t16 t17 t18 t19 t20 t21 t22 t23 t24 t25 t26 t27 t28 t29 t30 t31 t32 t33 t34 t35 t36 t37 t38 t39 t40 t41 t42 t43 t44 t45 t46 t47 t48 t49 t50 t51 t52 t53 t54 t55 t56 t57 t58 t59 t60 t61 t62 t63 t64 t65 t66 t67 t68 t69 t70 t71 t72 t73 t74 t75 t76 t77 t78 t79 t80 t81 t82 c0 c1 c2 c3 c4 c5 d0 d1 d2 d3 d4 d5 : Value) (p q na nb : Nat) (hna : na ≤ 1000) (hnb : nb ≤ 1000) (W : World) (hc : (W.cell? ⟨p, 0, none⟩ = some c0 ∧ W.cell? ⟨p, 1, none⟩ = some c1 ∧ W.cell? ⟨p, 2, none⟩ = some c2 ∧ W.cell? ⟨p, 3, none⟩ = some c3 ∧ W.cell? ⟨p, 4, none⟩ = some c4 ∧ W.cell? ⟨p, 5, none⟩ = some c5)) (hd : (W.cell? ⟨q, 0, none⟩ = some d0 ∧ W.cell? ⟨q, 1, none⟩ = some d1 ∧ W.cell? ⟨q, 2, none⟩ = some d2 ∧ W.cell? ⟨q, 3, none⟩ = some d3 ∧ W.cell? ⟨q, 4, none⟩ = some d4 ∧ W.cell? ⟨q, 5, none⟩ = some d5))
    (h27a : ∀ W', Below W.heap.size W W' → Calls Tryd.prog 27 #[.agg #[c0, c1, c2, c3, c4, c5]] W' fun r w' => r = .returned (.int .i64 (na : Int)) ∧ Below W'.heap.size W' w') (h27b : ∀ W', Below W.heap.size W W' → Calls Tryd.prog 27 #[.agg #[d0, d1, d2, d3, d4, d5]] W' fun r w' => r = .returned (.int .i64 (nb : Int)) ∧ Below W'.heap.size W' w')
    (hQ : ∀ w', Below W.heap.size W w' → Q .normal { tmps := #[t0, t1, .pointer (some ⟨p, 0, none⟩), .pointer (some ⟨q, 0, none⟩), t4, t5, t6, t7, t8, t9, t10, .int .i64 ((na : Int) + (nb : Int)), t12, t13, t14, t15, t16, t17, t18, t19, t20, t21, t22, t23, t24, t25, t26, t27, t28, t29, t30, t31, t32, t33, t34, t35, t36, t37, t38, t39, t40, t41, t42, t43, t44, t45, t46, t47, t48, t49, t50, t51, t52, t53, t54, t55, t56, t57, t58, t59, t60, t61, t62, t63, t64, t65, t66, t67, t68, t69, t70, t71, t72, t73, t74, t75, t76, t77, t78, t79, t80, t81, t82, .agg #[c0, c1, c2, c3, c4, c5], .int .i64 (na : Int), .agg #[d0, d1, d2, d3, d4, d5], .int .i64 (nb : Int), .int .i64 ((na : Int) + (nb : Int)), undef, undef, undef, undef, undef, undef, undef, undef, undef, undef, undef, undef, undef], defers := [] } w') : (Code.region 15 r15Ops true).wp Tryd.prog Q { tmps := #[t0, t1, .pointer (some ⟨p, 0, none⟩), .pointer (some ⟨q, 0, none⟩), t4, t5, t6, t7, t8, t9, t10, t11, t12, t13, t14, t15, t16, t17, t18, t19, t20, t21, t22, t23, t24, t25, t26, t27, t28, t29, t30, t31, t32, t33, t34, t35, t36, t37, t38, t39, t40, t41, t42, t43, t44, t45, t46, t47, t48, t49, t50, t51, t52, t53, t54, t55, t56, t57, t58, t59, t60, t61, t62, t63, t64, t65, t66, t67, t68, t69, t70, t71, t72, t73, t74, t75, t76, t77, t78, t79, t80, t81, t82, undef, undef, undef, undef, undef, undef, undef, undef, undef, undef, undef, undef, undef, undef, undef, undef, undef, undef], defers := [] } W := by
  dsimp only at hQ ⊢
  refine wp_region_any mixedP ?_
  obtain ⟨w0, hw0⟩ : ∃ U : World, ({ W with drawn := W.drawn + 1 } : World) = U := ⟨_, rfl⟩
  have B0 : Below W.heap.size W w0 := by rw [← hw0]; exact drew_below W
  rw [hw0]
  clear hw0
  have hsum : 0 ≤ (na : Int) + (nb : Int) ∧ (na : Int) + (nb : Int) ≤ 2000 := by omega
  obtain ⟨e0, e1, e2, e3, e4, e5⟩ := six_keep hc B0
  obtain ⟨f0, f1, f2, f3, f4, f5⟩ := six_keep hd B0
  show wpAny Tryd.prog .any r15Ops Q 6 #[false, false, false, false, false, false] _ w0
  refine wpAny_ready (rs := [0, 2]) (by kernel_rfl) (by simp) ?_
  refine AllReady.cons (o := { dst := some 83, op := Op.load 33 (Operand.tmp 2), type := 33, pos := "law.go:89", after := #[], guard := none }) rfl (fun _ _ => ?r150n1) (AllReady.cons (o := { dst := some 85, op := Op.load 33 (Operand.tmp 3), type := 33, pos := "law.go:89", after := #[], guard := none }) rfl (fun _ _ => ?r152n1) (AllReady.nil))
  case r150n1 =>
    rw [if_pos (show Region.wanted _ _ = true from rfl)]
    go_wp2
    show wpAny Tryd.prog .any r15Ops Q 5 #[true, false, false, false, false, false] _ _
    refine wpAny_ready (rs := [1, 2]) (by kernel_rfl) (by simp) ?_
    refine AllReady.cons (o := { dst := some 84, op := Op.call { callee := Callee.value (Operand.func 27), args := #[Operand.tmp 83], argTypes := #[33] }, type := 3, pos := "law.go:89", after := #[{ on := 0, ground := Ground.data }], guard := none }) rfl (fun _ _ => ?r151n2) (AllReady.cons (o := { dst := some 85, op := Op.load 33 (Operand.tmp 3), type := 33, pos := "law.go:89", after := #[], guard := none }) rfl (fun _ _ => ?r152n2) (AllReady.nil))
    case r151n2 =>
      rw [if_pos (show Region.wanted _ _ = true from rfl)]
      go_wp2_with (go_at_call 27; refine (h27a _ B0).mono ?_; rintro rr w1 ⟨rfl, bb1⟩; have B1 := Below.tr B0 le_rfl' bb1; obtain ⟨e0, e1, e2, e3, e4, e5⟩ := six_keep hc B1; obtain ⟨f0, f1, f2, f3, f4, f5⟩ := six_keep hd B1)
      show wpAny Tryd.prog .any r15Ops Q 4 #[true, true, false, false, false, false] _ _
      refine wpAny_ready (rs := [2]) (by kernel_rfl) (by simp) ?_
      refine AllReady.cons (o := { dst := some 85, op := Op.load 33 (Operand.tmp 3), type := 33, pos := "law.go:89", after := #[], guard := none }) rfl (fun _ _ => ?r152n3) (AllReady.nil)
      case r152n3 =>
        rw [if_pos (show Region.wanted _ _ = true from rfl)]
        go_wp2
        show wpAny Tryd.prog .any r15Ops Q 3 #[true, true, true, false, false, false] _ _
        refine wpAny_ready (rs := [3]) (by kernel_rfl) (by simp) ?_
        refine AllReady.cons (o := { dst := some 86, op := Op.call { callee := Callee.value (Operand.func 27), args := #[Operand.tmp 85], argTypes := #[33] }, type := 3, pos := "law.go:89", after := #[{ on := 2, ground := Ground.data }, { on := 1, ground := Ground.chain }], guard := none }) rfl (fun _ _ => ?r153n4) (AllReady.nil)
        case r153n4 =>
          rw [if_pos (show Region.wanted _ _ = true from rfl)]
          go_wp2_with (go_at_call 27; refine (h27b _ B1).mono ?_; rintro rr w2 ⟨rfl, bb2⟩; have B2 := Below.tr B1 le_rfl' bb2; obtain ⟨e0, e1, e2, e3, e4, e5⟩ := six_keep hc B2; obtain ⟨f0, f1, f2, f3, f4, f5⟩ := six_keep hd B2)
          show wpAny Tryd.prog .any r15Ops Q 2 #[true, true, true, true, false, false] _ _
          refine wpAny_ready (rs := [4]) (by kernel_rfl) (by simp) ?_
          refine AllReady.cons (o := { dst := some 87, op := Op.binOp BinOp.add 3 (Operand.tmp 84) (Operand.tmp 86) 3, type := 3, pos := "law.go:89", after := #[{ on := 1, ground := Ground.data }, { on := 3, ground := Ground.data }], guard := none }) rfl (fun _ _ => ?r154n5) (AllReady.nil)
          case r154n5 =>
            rw [if_pos (show Region.wanted _ _ = true from rfl)]
            go_wp2
            show wpAny Tryd.prog .any r15Ops Q 1 #[true, true, true, true, true, false] _ _
            refine wpAny_ready (rs := [5]) (by kernel_rfl) (by simp) ?_
            refine AllReady.cons (o := { dst := some 11, op := Op.assign (Operand.tmp 87), type := 3, pos := "law.go:89", after := #[{ on := 4, ground := Ground.data }, { on := 3, ground := Ground.chain }, { on := 0, ground := Ground.phase }, { on := 1, ground := Ground.phase }, { on := 2, ground := Ground.phase }, { on := 3, ground := Ground.phase }, { on := 4, ground := Ground.phase }], guard := none }) rfl (fun _ _ => ?r155n6) (AllReady.nil)
            case r155n6 =>
              rw [if_pos (show Region.wanted _ _ = true from rfl)]
              go_wp2
              show wpAny Tryd.prog .any r15Ops Q 0 #[true, true, true, true, true, true] _ _
              exact wpAny_done (by kernel_rfl) (hQ _ B2) _
    case r152n2 =>
      rw [if_pos (show Region.wanted _ _ = true from rfl)]
      go_wp2
      show wpAny Tryd.prog .any r15Ops Q 4 #[true, false, true, false, false, false] _ _
      refine wpAny_ready (rs := [1]) (by kernel_rfl) (by simp) ?_
      refine AllReady.cons (o := { dst := some 84, op := Op.call { callee := Callee.value (Operand.func 27), args := #[Operand.tmp 83], argTypes := #[33] }, type := 3, pos := "law.go:89", after := #[{ on := 0, ground := Ground.data }], guard := none }) rfl (fun _ _ => ?r151n8) (AllReady.nil)
      case r151n8 =>
        rw [if_pos (show Region.wanted _ _ = true from rfl)]
        go_wp2_with (go_at_call 27; refine (h27a _ B0).mono ?_; rintro rr w1 ⟨rfl, bb1⟩; have B1 := Below.tr B0 le_rfl' bb1; obtain ⟨e0, e1, e2, e3, e4, e5⟩ := six_keep hc B1; obtain ⟨f0, f1, f2, f3, f4, f5⟩ := six_keep hd B1)
        show wpAny Tryd.prog .any r15Ops Q 3 #[true, true, true, false, false, false] _ _
        refine wpAny_ready (rs := [3]) (by kernel_rfl) (by simp) ?_
        refine AllReady.cons (o := { dst := some 86, op := Op.call { callee := Callee.value (Operand.func 27), args := #[Operand.tmp 85], argTypes := #[33] }, type := 3, pos := "law.go:89", after := #[{ on := 2, ground := Ground.data }, { on := 1, ground := Ground.chain }], guard := none }) rfl (fun _ _ => ?r153n9) (AllReady.nil)
        case r153n9 =>
          rw [if_pos (show Region.wanted _ _ = true from rfl)]
          go_wp2_with (go_at_call 27; refine (h27b _ B1).mono ?_; rintro rr w2 ⟨rfl, bb2⟩; have B2 := Below.tr B1 le_rfl' bb2; obtain ⟨e0, e1, e2, e3, e4, e5⟩ := six_keep hc B2; obtain ⟨f0, f1, f2, f3, f4, f5⟩ := six_keep hd B2)
          show wpAny Tryd.prog .any r15Ops Q 2 #[true, true, true, true, false, false] _ _
          refine wpAny_ready (rs := [4]) (by kernel_rfl) (by simp) ?_
          refine AllReady.cons (o := { dst := some 87, op := Op.binOp BinOp.add 3 (Operand.tmp 84) (Operand.tmp 86) 3, type := 3, pos := "law.go:89", after := #[{ on := 1, ground := Ground.data }, { on := 3, ground := Ground.data }], guard := none }) rfl (fun _ _ => ?r154n10) (AllReady.nil)
          case r154n10 =>
            rw [if_pos (show Region.wanted _ _ = true from rfl)]
            go_wp2
            show wpAny Tryd.prog .any r15Ops Q 1 #[true, true, true, true, true, false] _ _
            refine wpAny_ready (rs := [5]) (by kernel_rfl) (by simp) ?_
            refine AllReady.cons (o := { dst := some 11, op := Op.assign (Operand.tmp 87), type := 3, pos := "law.go:89", after := #[{ on := 4, ground := Ground.data }, { on := 3, ground := Ground.chain }, { on := 0, ground := Ground.phase }, { on := 1, ground := Ground.phase }, { on := 2, ground := Ground.phase }, { on := 3, ground := Ground.phase }, { on := 4, ground := Ground.phase }], guard := none }) rfl (fun _ _ => ?r155n11) (AllReady.nil)
            case r155n11 =>
              rw [if_pos (show Region.wanted _ _ = true from rfl)]
              go_wp2
              show wpAny Tryd.prog .any r15Ops Q 0 #[true, true, true, true, true, true] _ _
              exact wpAny_done (by kernel_rfl) (hQ _ B2) _
  case r152n1 =>
    rw [if_pos (show Region.wanted _ _ = true from rfl)]
    go_wp2
    show wpAny Tryd.prog .any r15Ops Q 5 #[false, false, true, false, false, false] _ _
    refine wpAny_ready (rs := [0]) (by kernel_rfl) (by simp) ?_
    refine AllReady.cons (o := { dst := some 83, op := Op.load 33 (Operand.tmp 2), type := 33, pos := "law.go:89", after := #[], guard := none }) rfl (fun _ _ => ?r150n13) (AllReady.nil)
    case r150n13 =>
      rw [if_pos (show Region.wanted _ _ = true from rfl)]
      go_wp2
      show wpAny Tryd.prog .any r15Ops Q 4 #[true, false, true, false, false, false] _ _
      refine wpAny_ready (rs := [1]) (by kernel_rfl) (by simp) ?_
      refine AllReady.cons (o := { dst := some 84, op := Op.call { callee := Callee.value (Operand.func 27), args := #[Operand.tmp 83], argTypes := #[33] }, type := 3, pos := "law.go:89", after := #[{ on := 0, ground := Ground.data }], guard := none }) rfl (fun _ _ => ?r151n14) (AllReady.nil)
      case r151n14 =>
        rw [if_pos (show Region.wanted _ _ = true from rfl)]
        go_wp2_with (go_at_call 27; refine (h27a _ B0).mono ?_; rintro rr w1 ⟨rfl, bb1⟩; have B1 := Below.tr B0 le_rfl' bb1; obtain ⟨e0, e1, e2, e3, e4, e5⟩ := six_keep hc B1; obtain ⟨f0, f1, f2, f3, f4, f5⟩ := six_keep hd B1)
        show wpAny Tryd.prog .any r15Ops Q 3 #[true, true, true, false, false, false] _ _
        refine wpAny_ready (rs := [3]) (by kernel_rfl) (by simp) ?_
        refine AllReady.cons (o := { dst := some 86, op := Op.call { callee := Callee.value (Operand.func 27), args := #[Operand.tmp 85], argTypes := #[33] }, type := 3, pos := "law.go:89", after := #[{ on := 2, ground := Ground.data }, { on := 1, ground := Ground.chain }], guard := none }) rfl (fun _ _ => ?r153n15) (AllReady.nil)
        case r153n15 =>
          rw [if_pos (show Region.wanted _ _ = true from rfl)]
          go_wp2_with (go_at_call 27; refine (h27b _ B1).mono ?_; rintro rr w2 ⟨rfl, bb2⟩; have B2 := Below.tr B1 le_rfl' bb2; obtain ⟨e0, e1, e2, e3, e4, e5⟩ := six_keep hc B2; obtain ⟨f0, f1, f2, f3, f4, f5⟩ := six_keep hd B2)
          show wpAny Tryd.prog .any r15Ops Q 2 #[true, true, true, true, false, false] _ _
          refine wpAny_ready (rs := [4]) (by kernel_rfl) (by simp) ?_
          refine AllReady.cons (o := { dst := some 87, op := Op.binOp BinOp.add 3 (Operand.tmp 84) (Operand.tmp 86) 3, type := 3, pos := "law.go:89", after := #[{ on := 1, ground := Ground.data }, { on := 3, ground := Ground.data }], guard := none }) rfl (fun _ _ => ?r154n16) (AllReady.nil)
          case r154n16 =>
            rw [if_pos (show Region.wanted _ _ = true from rfl)]
            go_wp2
            show wpAny Tryd.prog .any r15Ops Q 1 #[true, true, true, true, true, false] _ _
            refine wpAny_ready (rs := [5]) (by kernel_rfl) (by simp) ?_
            refine AllReady.cons (o := { dst := some 11, op := Op.assign (Operand.tmp 87), type := 3, pos := "law.go:89", after := #[{ on := 4, ground := Ground.data }, { on := 3, ground := Ground.chain }, { on := 0, ground := Ground.phase }, { on := 1, ground := Ground.phase }, { on := 2, ground := Ground.phase }, { on := 3, ground := Ground.phase }, { on := 4, ground := Ground.phase }], guard := none }) rfl (fun _ _ => ?r155n17) (AllReady.nil)
            case r155n17 =>
              rw [if_pos (show Region.wanted _ _ = true from rfl)]
              go_wp2
              show wpAny Tryd.prog .any r15Ops Q 0 #[true, true, true, true, true, true] _ _
              exact wpAny_done (by kernel_rfl) (hQ _ B2) _
end Go.Proofs.YtjgomkkmmhkpdaaDoor
