/-
  What an increment of the map of variables does, in whatever order its operations are done.
-/
import Derived.Test.YtopiceoofdlkbaaDoorMpA
import Derived.Test.YtopiceoofdlkbaaDoorCkA
import Derived.OrdersIn
namespace Go.Proofs.YtopiceoofdlkbaaDoor
open Go.RowKit Go.Shelf
attribute [local go_sem] Oper.semAt_some
def incOps : Array Oper := #[{ dst := some 25, op := Op.load 80 (Operand.tmp 4), type := 80, pos := "tree.go:35", after := #[], guard := none }, { dst := some 26, op := Op.load 85 (Operand.tmp 6), type := 85, pos := "tree.go:35", after := #[], guard := none }, { dst := some 27, op := Op.lookup 80 (Operand.tmp 25) (Operand.tmp 26) false, type := 3, pos := "tree.go:35", after := #[{ on := 0, ground := Ground.data }, { on := 1, ground := Ground.data }], guard := none }, { dst := some 28, op := Op.binOp BinOp.add 3 (Operand.tmp 27) (Operand.const (Value.int IntKind.i64 1)) 3, type := 3, pos := "tree.go:35", after := #[{ on := 2, ground := Ground.data }], guard := none }, { dst := some 29, op := Op.mapEntry 80 (Operand.tmp 25) (Operand.tmp 26), type := 0, pos := "tree.go:35", after := #[{ on := 0, ground := Ground.data }, { on := 1, ground := Ground.data }, { on := 0, ground := Ground.phase }, { on := 1, ground := Ground.phase }, { on := 2, ground := Ground.textOnly Departure.mapOpAssignEntry }, { on := 3, ground := Ground.textOnly Departure.mapOpAssignEntry }], guard := none }, { dst := some 30, op := Op.extract (Operand.tmp 29) 1, type := 3, pos := "tree.go:35", after := #[{ on := 4, ground := Ground.data }], guard := none }, { dst := none, op := Op.entryStore 80 (Operand.tmp 25) (Operand.tmp 30) (Operand.tmp 28), type := 0, pos := "tree.go:35", after := #[{ on := 0, ground := Ground.data }, { on := 5, ground := Ground.data }, { on := 3, ground := Ground.data }, { on := 4, ground := Ground.chain }, { on := 0, ground := Ground.phase }, { on := 1, ground := Ground.phase }, { on := 2, ground := Ground.phase }, { on := 3, ground := Ground.phase }, { on := 4, ground := Ground.phase }, { on := 5, ground := Ground.phase }], guard := none }]
theorem mixed : Tryd.prog.follows .mixedOrders = true := by kernel_rfl
set_option maxRecDepth 100000 in
set_option maxHeartbeats 4000000 in
theorem inc_region {l m : Nat} {Q : Exit → Act → World → Prop} (t0 t1 t2 t3 t5 t7 t8 t9 t10 t11 t12 t13 t14 t15 t16 t17 t18 t19 t20 t21 t22 t23 t24 : Value) (s4 s6 b : Nat) (S : List (ByteArray × ByteArray)) (p : ByteArray × ByteArray) (W : World)
    (h4 : W.cell? ⟨s4, 0, none⟩ = some (.map (some b))) (h60 : W.cell? ⟨s6, 0, none⟩ = some (.string p.1)) (h61 : W.cell? ⟨s6, 1, none⟩ = some (.string p.2)) (hM : SeenMap W b S) (hv : VLen p) (hm : p ∉ S)
    (hQ : Q .normal { tmps := #[t0, t1, t2, t3, .pointer (some ⟨s4, 0, none⟩), t5, .pointer (some ⟨s6, 0, none⟩), t7, t8, t9, t10, t11, t12, t13, t14, t15, t16, t17, t18, t19, t20, t21, t22, t23, t24, .map (some b), .agg #[.string p.1, .string p.2], .int .i64 0, .int .i64 1, .tuple #[.int .i64 0, .int .i64 (S.length : Int)], .int .i64 (S.length : Int), undef, undef, undef, undef, undef, undef, undef, undef, undef, undef], defers := [] } (entryW { W with drawn := W.drawn + 1 } b S p 1)) :
    (Code.region 7 incOps true).wpIn (Fence.wide.inRound l) m Tryd.prog Q { tmps := #[t0, t1, t2, t3, .pointer (some ⟨s4, 0, none⟩), t5, .pointer (some ⟨s6, 0, none⟩), t7, t8, t9, t10, t11, t12, t13, t14, t15, t16, t17, t18, t19, t20, t21, t22, t23, t24, undef, undef, undef, undef, undef, undef, undef, undef, undef, undef, undef, undef, undef, undef, undef, undef], defers := [] } W := by
  dsimp only at hQ ⊢
  refine wpIn_region_any mixed ?_
  obtain ⟨U, hU⟩ : ∃ U : World, ({ W with drawn := W.drawn + 1 } : World) = U := ⟨_, rfl⟩
  have hMU : SeenMap U b S := by rw [← hU]; exact hM
  have c4 : U.cell? ⟨s4, 0, none⟩ = some (.map (some b)) := by rw [← hU]; exact h4
  have c60 : U.cell? ⟨s6, 0, none⟩ = some (.string p.1) := by rw [← hU]; exact h60
  have c61 : U.cell? ⟨s6, 1, none⟩ = some (.string p.2) := by rw [← hU]; exact h61
  rw [hU] at hQ ⊢
  have L0 : (Instr.lookup 80 (.map (some b)) (.agg #[.string p.1, .string p.2]) false).run Tryd.prog U = .ok (.int .i64 0) U := lookup_new hMU hv hm
  have L1 : (Instr.lookup 80 (.map (some b)) (.agg #[.string p.1, .string p.2]) false).run Tryd.prog (entryW U b S p 0) = .ok (.int .i64 0) (entryW U b S p 0) := lookup_entry hMU hv hm
  have E0 : (Instr.mapEntry 80 (.map (some b)) (.agg #[.string p.1, .string p.2])).run Tryd.prog U = .ok (.tuple #[.int .i64 0, .int .i64 (S.length : Int)]) (entryW U b S p 0) := mapEntry_new hMU hv hm
  have E1 : (Instr.entryStore 80 (.map (some b)) (.int .i64 (S.length : Int)) (.int .i64 1)).run Tryd.prog (entryW U b S p 0) = .ok () (entryW U b S p 1) := entryStore_new hMU p
  clear hM hMU hm hv h4 h60 h61 hU
  show wpAnyIn (Fence.wide.inRound l) m Tryd.prog .any incOps Q 7 #[false, false, false, false, false, false, false] _ U
  refine wpAnyIn_ready (rs := [0, 1]) (by kernel_rfl) (by simp) ?_
  refine AllReadyIn.cons (o := { dst := some 25, op := Op.load 80 (Operand.tmp 4), type := 80, pos := "tree.go:35", after := #[], guard := none }) rfl (fun _ _ => ?op0n1) (AllReadyIn.cons (o := { dst := some 26, op := Op.load 85 (Operand.tmp 6), type := 85, pos := "tree.go:35", after := #[], guard := none }) rfl (fun _ _ => ?op1n1) (AllReadyIn.nil))
  case op0n1 =>
    rw [if_pos (show Region.wanted _ _ = true from rfl)]
    gi_wp2
    show wpAnyIn (Fence.wide.inRound l) m Tryd.prog .any incOps Q 6 #[true, false, false, false, false, false, false] _ _
    refine wpAnyIn_ready (rs := [1]) (by kernel_rfl) (by simp) ?_
    refine AllReadyIn.cons (o := { dst := some 26, op := Op.load 85 (Operand.tmp 6), type := 85, pos := "tree.go:35", after := #[], guard := none }) rfl (fun _ _ => ?op1n2) (AllReadyIn.nil)
    case op1n2 =>
      rw [if_pos (show Region.wanted _ _ = true from rfl)]
      gi_wp2
      show wpAnyIn (Fence.wide.inRound l) m Tryd.prog .any incOps Q 5 #[true, true, false, false, false, false, false] _ _
      refine wpAnyIn_ready (rs := [2, 4]) (by kernel_rfl) (by simp) ?_
      refine AllReadyIn.cons (o := { dst := some 27, op := Op.lookup 80 (Operand.tmp 25) (Operand.tmp 26) false, type := 3, pos := "tree.go:35", after := #[{ on := 0, ground := Ground.data }, { on := 1, ground := Ground.data }], guard := none }) rfl (fun _ _ => ?op2n3) (AllReadyIn.cons (o := { dst := some 29, op := Op.mapEntry 80 (Operand.tmp 25) (Operand.tmp 26), type := 0, pos := "tree.go:35", after := #[{ on := 0, ground := Ground.data }, { on := 1, ground := Ground.data }, { on := 0, ground := Ground.phase }, { on := 1, ground := Ground.phase }, { on := 2, ground := Ground.textOnly Departure.mapOpAssignEntry }, { on := 3, ground := Ground.textOnly Departure.mapOpAssignEntry }], guard := none }) rfl (fun _ _ => ?op4n3) (AllReadyIn.nil))
      case op2n3 =>
        rw [if_pos (show Region.wanted _ _ = true from rfl)]
        gi_wp2
        show wpAnyIn (Fence.wide.inRound l) m Tryd.prog .any incOps Q 4 #[true, true, true, false, false, false, false] _ _
        refine wpAnyIn_ready (rs := [3, 4]) (by kernel_rfl) (by simp) ?_
        refine AllReadyIn.cons (o := { dst := some 28, op := Op.binOp BinOp.add 3 (Operand.tmp 27) (Operand.const (Value.int IntKind.i64 1)) 3, type := 3, pos := "tree.go:35", after := #[{ on := 2, ground := Ground.data }], guard := none }) rfl (fun _ _ => ?op3n4) (AllReadyIn.cons (o := { dst := some 29, op := Op.mapEntry 80 (Operand.tmp 25) (Operand.tmp 26), type := 0, pos := "tree.go:35", after := #[{ on := 0, ground := Ground.data }, { on := 1, ground := Ground.data }, { on := 0, ground := Ground.phase }, { on := 1, ground := Ground.phase }, { on := 2, ground := Ground.textOnly Departure.mapOpAssignEntry }, { on := 3, ground := Ground.textOnly Departure.mapOpAssignEntry }], guard := none }) rfl (fun _ _ => ?op4n4) (AllReadyIn.nil))
        case op3n4 =>
          rw [if_pos (show Region.wanted _ _ = true from rfl)]
          gi_wp2
          show wpAnyIn (Fence.wide.inRound l) m Tryd.prog .any incOps Q 3 #[true, true, true, true, false, false, false] _ _
          refine wpAnyIn_ready (rs := [4]) (by kernel_rfl) (by simp) ?_
          refine AllReadyIn.cons (o := { dst := some 29, op := Op.mapEntry 80 (Operand.tmp 25) (Operand.tmp 26), type := 0, pos := "tree.go:35", after := #[{ on := 0, ground := Ground.data }, { on := 1, ground := Ground.data }, { on := 0, ground := Ground.phase }, { on := 1, ground := Ground.phase }, { on := 2, ground := Ground.textOnly Departure.mapOpAssignEntry }, { on := 3, ground := Ground.textOnly Departure.mapOpAssignEntry }], guard := none }) rfl (fun _ _ => ?op4n5) (AllReadyIn.nil)
          case op4n5 =>
            rw [if_pos (show Region.wanted _ _ = true from rfl)]
            gi_wp2
            show wpAnyIn (Fence.wide.inRound l) m Tryd.prog .any incOps Q 2 #[true, true, true, true, true, false, false] _ _
            refine wpAnyIn_ready (rs := [5]) (by kernel_rfl) (by simp) ?_
            refine AllReadyIn.cons (o := { dst := some 30, op := Op.extract (Operand.tmp 29) 1, type := 3, pos := "tree.go:35", after := #[{ on := 4, ground := Ground.data }], guard := none }) rfl (fun _ _ => ?op5n6) (AllReadyIn.nil)
            case op5n6 =>
              rw [if_pos (show Region.wanted _ _ = true from rfl)]
              gi_wp2
              show wpAnyIn (Fence.wide.inRound l) m Tryd.prog .any incOps Q 1 #[true, true, true, true, true, true, false] _ _
              refine wpAnyIn_ready (rs := [6]) (by kernel_rfl) (by simp) ?_
              refine AllReadyIn.cons (o := { dst := none, op := Op.entryStore 80 (Operand.tmp 25) (Operand.tmp 30) (Operand.tmp 28), type := 0, pos := "tree.go:35", after := #[{ on := 0, ground := Ground.data }, { on := 5, ground := Ground.data }, { on := 3, ground := Ground.data }, { on := 4, ground := Ground.chain }, { on := 0, ground := Ground.phase }, { on := 1, ground := Ground.phase }, { on := 2, ground := Ground.phase }, { on := 3, ground := Ground.phase }, { on := 4, ground := Ground.phase }, { on := 5, ground := Ground.phase }], guard := none }) rfl (fun _ _ => ?op6n7) (AllReadyIn.nil)
              case op6n7 =>
                rw [if_pos (show Region.wanted _ _ = true from rfl)]
                gi_wp2
                show wpAnyIn (Fence.wide.inRound l) m Tryd.prog .any incOps Q 0 #[true, true, true, true, true, true, true] _ _
                exact wpAnyIn_done (by kernel_rfl) hQ _
        case op4n4 =>
          rw [if_pos (show Region.wanted _ _ = true from rfl)]
          gi_wp2
          show wpAnyIn (Fence.wide.inRound l) m Tryd.prog .any incOps Q 3 #[true, true, true, false, true, false, false] _ _
          refine wpAnyIn_ready (rs := [3, 5]) (by kernel_rfl) (by simp) ?_
          refine AllReadyIn.cons (o := { dst := some 28, op := Op.binOp BinOp.add 3 (Operand.tmp 27) (Operand.const (Value.int IntKind.i64 1)) 3, type := 3, pos := "tree.go:35", after := #[{ on := 2, ground := Ground.data }], guard := none }) rfl (fun _ _ => ?op3n9) (AllReadyIn.cons (o := { dst := some 30, op := Op.extract (Operand.tmp 29) 1, type := 3, pos := "tree.go:35", after := #[{ on := 4, ground := Ground.data }], guard := none }) rfl (fun _ _ => ?op5n9) (AllReadyIn.nil))
          case op3n9 =>
            rw [if_pos (show Region.wanted _ _ = true from rfl)]
            gi_wp2
            show wpAnyIn (Fence.wide.inRound l) m Tryd.prog .any incOps Q 2 #[true, true, true, true, true, false, false] _ _
            refine wpAnyIn_ready (rs := [5]) (by kernel_rfl) (by simp) ?_
            refine AllReadyIn.cons (o := { dst := some 30, op := Op.extract (Operand.tmp 29) 1, type := 3, pos := "tree.go:35", after := #[{ on := 4, ground := Ground.data }], guard := none }) rfl (fun _ _ => ?op5n10) (AllReadyIn.nil)
            case op5n10 =>
              rw [if_pos (show Region.wanted _ _ = true from rfl)]
              gi_wp2
              show wpAnyIn (Fence.wide.inRound l) m Tryd.prog .any incOps Q 1 #[true, true, true, true, true, true, false] _ _
              refine wpAnyIn_ready (rs := [6]) (by kernel_rfl) (by simp) ?_
              refine AllReadyIn.cons (o := { dst := none, op := Op.entryStore 80 (Operand.tmp 25) (Operand.tmp 30) (Operand.tmp 28), type := 0, pos := "tree.go:35", after := #[{ on := 0, ground := Ground.data }, { on := 5, ground := Ground.data }, { on := 3, ground := Ground.data }, { on := 4, ground := Ground.chain }, { on := 0, ground := Ground.phase }, { on := 1, ground := Ground.phase }, { on := 2, ground := Ground.phase }, { on := 3, ground := Ground.phase }, { on := 4, ground := Ground.phase }, { on := 5, ground := Ground.phase }], guard := none }) rfl (fun _ _ => ?op6n11) (AllReadyIn.nil)
              case op6n11 =>
                rw [if_pos (show Region.wanted _ _ = true from rfl)]
                gi_wp2
                show wpAnyIn (Fence.wide.inRound l) m Tryd.prog .any incOps Q 0 #[true, true, true, true, true, true, true] _ _
                exact wpAnyIn_done (by kernel_rfl) hQ _
          case op5n9 =>
            rw [if_pos (show Region.wanted _ _ = true from rfl)]
            gi_wp2
            show wpAnyIn (Fence.wide.inRound l) m Tryd.prog .any incOps Q 2 #[true, true, true, false, true, true, false] _ _
            refine wpAnyIn_ready (rs := [3]) (by kernel_rfl) (by simp) ?_
            refine AllReadyIn.cons (o := { dst := some 28, op := Op.binOp BinOp.add 3 (Operand.tmp 27) (Operand.const (Value.int IntKind.i64 1)) 3, type := 3, pos := "tree.go:35", after := #[{ on := 2, ground := Ground.data }], guard := none }) rfl (fun _ _ => ?op3n13) (AllReadyIn.nil)
            case op3n13 =>
              rw [if_pos (show Region.wanted _ _ = true from rfl)]
              gi_wp2
              show wpAnyIn (Fence.wide.inRound l) m Tryd.prog .any incOps Q 1 #[true, true, true, true, true, true, false] _ _
              refine wpAnyIn_ready (rs := [6]) (by kernel_rfl) (by simp) ?_
              refine AllReadyIn.cons (o := { dst := none, op := Op.entryStore 80 (Operand.tmp 25) (Operand.tmp 30) (Operand.tmp 28), type := 0, pos := "tree.go:35", after := #[{ on := 0, ground := Ground.data }, { on := 5, ground := Ground.data }, { on := 3, ground := Ground.data }, { on := 4, ground := Ground.chain }, { on := 0, ground := Ground.phase }, { on := 1, ground := Ground.phase }, { on := 2, ground := Ground.phase }, { on := 3, ground := Ground.phase }, { on := 4, ground := Ground.phase }, { on := 5, ground := Ground.phase }], guard := none }) rfl (fun _ _ => ?op6n14) (AllReadyIn.nil)
              case op6n14 =>
                rw [if_pos (show Region.wanted _ _ = true from rfl)]
                gi_wp2
                show wpAnyIn (Fence.wide.inRound l) m Tryd.prog .any incOps Q 0 #[true, true, true, true, true, true, true] _ _
                exact wpAnyIn_done (by kernel_rfl) hQ _
      case op4n3 =>
        rw [if_pos (show Region.wanted _ _ = true from rfl)]
        gi_wp2
        show wpAnyIn (Fence.wide.inRound l) m Tryd.prog .any incOps Q 4 #[true, true, false, false, true, false, false] _ _
        refine wpAnyIn_ready (rs := [2, 5]) (by kernel_rfl) (by simp) ?_
        refine AllReadyIn.cons (o := { dst := some 27, op := Op.lookup 80 (Operand.tmp 25) (Operand.tmp 26) false, type := 3, pos := "tree.go:35", after := #[{ on := 0, ground := Ground.data }, { on := 1, ground := Ground.data }], guard := none }) rfl (fun _ _ => ?op2n16) (AllReadyIn.cons (o := { dst := some 30, op := Op.extract (Operand.tmp 29) 1, type := 3, pos := "tree.go:35", after := #[{ on := 4, ground := Ground.data }], guard := none }) rfl (fun _ _ => ?op5n16) (AllReadyIn.nil))
        case op2n16 =>
          rw [if_pos (show Region.wanted _ _ = true from rfl)]
          gi_wp2
          show wpAnyIn (Fence.wide.inRound l) m Tryd.prog .any incOps Q 3 #[true, true, true, false, true, false, false] _ _
          refine wpAnyIn_ready (rs := [3, 5]) (by kernel_rfl) (by simp) ?_
          refine AllReadyIn.cons (o := { dst := some 28, op := Op.binOp BinOp.add 3 (Operand.tmp 27) (Operand.const (Value.int IntKind.i64 1)) 3, type := 3, pos := "tree.go:35", after := #[{ on := 2, ground := Ground.data }], guard := none }) rfl (fun _ _ => ?op3n17) (AllReadyIn.cons (o := { dst := some 30, op := Op.extract (Operand.tmp 29) 1, type := 3, pos := "tree.go:35", after := #[{ on := 4, ground := Ground.data }], guard := none }) rfl (fun _ _ => ?op5n17) (AllReadyIn.nil))
          case op3n17 =>
            rw [if_pos (show Region.wanted _ _ = true from rfl)]
            gi_wp2
            show wpAnyIn (Fence.wide.inRound l) m Tryd.prog .any incOps Q 2 #[true, true, true, true, true, false, false] _ _
            refine wpAnyIn_ready (rs := [5]) (by kernel_rfl) (by simp) ?_
            refine AllReadyIn.cons (o := { dst := some 30, op := Op.extract (Operand.tmp 29) 1, type := 3, pos := "tree.go:35", after := #[{ on := 4, ground := Ground.data }], guard := none }) rfl (fun _ _ => ?op5n18) (AllReadyIn.nil)
            case op5n18 =>
              rw [if_pos (show Region.wanted _ _ = true from rfl)]
              gi_wp2
              show wpAnyIn (Fence.wide.inRound l) m Tryd.prog .any incOps Q 1 #[true, true, true, true, true, true, false] _ _
              refine wpAnyIn_ready (rs := [6]) (by kernel_rfl) (by simp) ?_
              refine AllReadyIn.cons (o := { dst := none, op := Op.entryStore 80 (Operand.tmp 25) (Operand.tmp 30) (Operand.tmp 28), type := 0, pos := "tree.go:35", after := #[{ on := 0, ground := Ground.data }, { on := 5, ground := Ground.data }, { on := 3, ground := Ground.data }, { on := 4, ground := Ground.chain }, { on := 0, ground := Ground.phase }, { on := 1, ground := Ground.phase }, { on := 2, ground := Ground.phase }, { on := 3, ground := Ground.phase }, { on := 4, ground := Ground.phase }, { on := 5, ground := Ground.phase }], guard := none }) rfl (fun _ _ => ?op6n19) (AllReadyIn.nil)
              case op6n19 =>
                rw [if_pos (show Region.wanted _ _ = true from rfl)]
                gi_wp2
                show wpAnyIn (Fence.wide.inRound l) m Tryd.prog .any incOps Q 0 #[true, true, true, true, true, true, true] _ _
                exact wpAnyIn_done (by kernel_rfl) hQ _
          case op5n17 =>
            rw [if_pos (show Region.wanted _ _ = true from rfl)]
            gi_wp2
            show wpAnyIn (Fence.wide.inRound l) m Tryd.prog .any incOps Q 2 #[true, true, true, false, true, true, false] _ _
            refine wpAnyIn_ready (rs := [3]) (by kernel_rfl) (by simp) ?_
            refine AllReadyIn.cons (o := { dst := some 28, op := Op.binOp BinOp.add 3 (Operand.tmp 27) (Operand.const (Value.int IntKind.i64 1)) 3, type := 3, pos := "tree.go:35", after := #[{ on := 2, ground := Ground.data }], guard := none }) rfl (fun _ _ => ?op3n21) (AllReadyIn.nil)
            case op3n21 =>
              rw [if_pos (show Region.wanted _ _ = true from rfl)]
              gi_wp2
              show wpAnyIn (Fence.wide.inRound l) m Tryd.prog .any incOps Q 1 #[true, true, true, true, true, true, false] _ _
              refine wpAnyIn_ready (rs := [6]) (by kernel_rfl) (by simp) ?_
              refine AllReadyIn.cons (o := { dst := none, op := Op.entryStore 80 (Operand.tmp 25) (Operand.tmp 30) (Operand.tmp 28), type := 0, pos := "tree.go:35", after := #[{ on := 0, ground := Ground.data }, { on := 5, ground := Ground.data }, { on := 3, ground := Ground.data }, { on := 4, ground := Ground.chain }, { on := 0, ground := Ground.phase }, { on := 1, ground := Ground.phase }, { on := 2, ground := Ground.phase }, { on := 3, ground := Ground.phase }, { on := 4, ground := Ground.phase }, { on := 5, ground := Ground.phase }], guard := none }) rfl (fun _ _ => ?op6n22) (AllReadyIn.nil)
              case op6n22 =>
                rw [if_pos (show Region.wanted _ _ = true from rfl)]
                gi_wp2
                show wpAnyIn (Fence.wide.inRound l) m Tryd.prog .any incOps Q 0 #[true, true, true, true, true, true, true] _ _
                exact wpAnyIn_done (by kernel_rfl) hQ _
        case op5n16 =>
          rw [if_pos (show Region.wanted _ _ = true from rfl)]
          gi_wp2
          show wpAnyIn (Fence.wide.inRound l) m Tryd.prog .any incOps Q 3 #[true, true, false, false, true, true, false] _ _
          refine wpAnyIn_ready (rs := [2]) (by kernel_rfl) (by simp) ?_
          refine AllReadyIn.cons (o := { dst := some 27, op := Op.lookup 80 (Operand.tmp 25) (Operand.tmp 26) false, type := 3, pos := "tree.go:35", after := #[{ on := 0, ground := Ground.data }, { on := 1, ground := Ground.data }], guard := none }) rfl (fun _ _ => ?op2n24) (AllReadyIn.nil)
          case op2n24 =>
            rw [if_pos (show Region.wanted _ _ = true from rfl)]
            gi_wp2
            show wpAnyIn (Fence.wide.inRound l) m Tryd.prog .any incOps Q 2 #[true, true, true, false, true, true, false] _ _
            refine wpAnyIn_ready (rs := [3]) (by kernel_rfl) (by simp) ?_
            refine AllReadyIn.cons (o := { dst := some 28, op := Op.binOp BinOp.add 3 (Operand.tmp 27) (Operand.const (Value.int IntKind.i64 1)) 3, type := 3, pos := "tree.go:35", after := #[{ on := 2, ground := Ground.data }], guard := none }) rfl (fun _ _ => ?op3n25) (AllReadyIn.nil)
            case op3n25 =>
              rw [if_pos (show Region.wanted _ _ = true from rfl)]
              gi_wp2
              show wpAnyIn (Fence.wide.inRound l) m Tryd.prog .any incOps Q 1 #[true, true, true, true, true, true, false] _ _
              refine wpAnyIn_ready (rs := [6]) (by kernel_rfl) (by simp) ?_
              refine AllReadyIn.cons (o := { dst := none, op := Op.entryStore 80 (Operand.tmp 25) (Operand.tmp 30) (Operand.tmp 28), type := 0, pos := "tree.go:35", after := #[{ on := 0, ground := Ground.data }, { on := 5, ground := Ground.data }, { on := 3, ground := Ground.data }, { on := 4, ground := Ground.chain }, { on := 0, ground := Ground.phase }, { on := 1, ground := Ground.phase }, { on := 2, ground := Ground.phase }, { on := 3, ground := Ground.phase }, { on := 4, ground := Ground.phase }, { on := 5, ground := Ground.phase }], guard := none }) rfl (fun _ _ => ?op6n26) (AllReadyIn.nil)
              case op6n26 =>
                rw [if_pos (show Region.wanted _ _ = true from rfl)]
                gi_wp2
                show wpAnyIn (Fence.wide.inRound l) m Tryd.prog .any incOps Q 0 #[true, true, true, true, true, true, true] _ _
                exact wpAnyIn_done (by kernel_rfl) hQ _
  case op1n1 =>
    rw [if_pos (show Region.wanted _ _ = true from rfl)]
    gi_wp2
    show wpAnyIn (Fence.wide.inRound l) m Tryd.prog .any incOps Q 6 #[false, true, false, false, false, false, false] _ _
    refine wpAnyIn_ready (rs := [0]) (by kernel_rfl) (by simp) ?_
    refine AllReadyIn.cons (o := { dst := some 25, op := Op.load 80 (Operand.tmp 4), type := 80, pos := "tree.go:35", after := #[], guard := none }) rfl (fun _ _ => ?op0n28) (AllReadyIn.nil)
    case op0n28 =>
      rw [if_pos (show Region.wanted _ _ = true from rfl)]
      gi_wp2
      show wpAnyIn (Fence.wide.inRound l) m Tryd.prog .any incOps Q 5 #[true, true, false, false, false, false, false] _ _
      refine wpAnyIn_ready (rs := [2, 4]) (by kernel_rfl) (by simp) ?_
      refine AllReadyIn.cons (o := { dst := some 27, op := Op.lookup 80 (Operand.tmp 25) (Operand.tmp 26) false, type := 3, pos := "tree.go:35", after := #[{ on := 0, ground := Ground.data }, { on := 1, ground := Ground.data }], guard := none }) rfl (fun _ _ => ?op2n29) (AllReadyIn.cons (o := { dst := some 29, op := Op.mapEntry 80 (Operand.tmp 25) (Operand.tmp 26), type := 0, pos := "tree.go:35", after := #[{ on := 0, ground := Ground.data }, { on := 1, ground := Ground.data }, { on := 0, ground := Ground.phase }, { on := 1, ground := Ground.phase }, { on := 2, ground := Ground.textOnly Departure.mapOpAssignEntry }, { on := 3, ground := Ground.textOnly Departure.mapOpAssignEntry }], guard := none }) rfl (fun _ _ => ?op4n29) (AllReadyIn.nil))
      case op2n29 =>
        rw [if_pos (show Region.wanted _ _ = true from rfl)]
        gi_wp2
        show wpAnyIn (Fence.wide.inRound l) m Tryd.prog .any incOps Q 4 #[true, true, true, false, false, false, false] _ _
        refine wpAnyIn_ready (rs := [3, 4]) (by kernel_rfl) (by simp) ?_
        refine AllReadyIn.cons (o := { dst := some 28, op := Op.binOp BinOp.add 3 (Operand.tmp 27) (Operand.const (Value.int IntKind.i64 1)) 3, type := 3, pos := "tree.go:35", after := #[{ on := 2, ground := Ground.data }], guard := none }) rfl (fun _ _ => ?op3n30) (AllReadyIn.cons (o := { dst := some 29, op := Op.mapEntry 80 (Operand.tmp 25) (Operand.tmp 26), type := 0, pos := "tree.go:35", after := #[{ on := 0, ground := Ground.data }, { on := 1, ground := Ground.data }, { on := 0, ground := Ground.phase }, { on := 1, ground := Ground.phase }, { on := 2, ground := Ground.textOnly Departure.mapOpAssignEntry }, { on := 3, ground := Ground.textOnly Departure.mapOpAssignEntry }], guard := none }) rfl (fun _ _ => ?op4n30) (AllReadyIn.nil))
        case op3n30 =>
          rw [if_pos (show Region.wanted _ _ = true from rfl)]
          gi_wp2
          show wpAnyIn (Fence.wide.inRound l) m Tryd.prog .any incOps Q 3 #[true, true, true, true, false, false, false] _ _
          refine wpAnyIn_ready (rs := [4]) (by kernel_rfl) (by simp) ?_
          refine AllReadyIn.cons (o := { dst := some 29, op := Op.mapEntry 80 (Operand.tmp 25) (Operand.tmp 26), type := 0, pos := "tree.go:35", after := #[{ on := 0, ground := Ground.data }, { on := 1, ground := Ground.data }, { on := 0, ground := Ground.phase }, { on := 1, ground := Ground.phase }, { on := 2, ground := Ground.textOnly Departure.mapOpAssignEntry }, { on := 3, ground := Ground.textOnly Departure.mapOpAssignEntry }], guard := none }) rfl (fun _ _ => ?op4n31) (AllReadyIn.nil)
          case op4n31 =>
            rw [if_pos (show Region.wanted _ _ = true from rfl)]
            gi_wp2
            show wpAnyIn (Fence.wide.inRound l) m Tryd.prog .any incOps Q 2 #[true, true, true, true, true, false, false] _ _
            refine wpAnyIn_ready (rs := [5]) (by kernel_rfl) (by simp) ?_
            refine AllReadyIn.cons (o := { dst := some 30, op := Op.extract (Operand.tmp 29) 1, type := 3, pos := "tree.go:35", after := #[{ on := 4, ground := Ground.data }], guard := none }) rfl (fun _ _ => ?op5n32) (AllReadyIn.nil)
            case op5n32 =>
              rw [if_pos (show Region.wanted _ _ = true from rfl)]
              gi_wp2
              show wpAnyIn (Fence.wide.inRound l) m Tryd.prog .any incOps Q 1 #[true, true, true, true, true, true, false] _ _
              refine wpAnyIn_ready (rs := [6]) (by kernel_rfl) (by simp) ?_
              refine AllReadyIn.cons (o := { dst := none, op := Op.entryStore 80 (Operand.tmp 25) (Operand.tmp 30) (Operand.tmp 28), type := 0, pos := "tree.go:35", after := #[{ on := 0, ground := Ground.data }, { on := 5, ground := Ground.data }, { on := 3, ground := Ground.data }, { on := 4, ground := Ground.chain }, { on := 0, ground := Ground.phase }, { on := 1, ground := Ground.phase }, { on := 2, ground := Ground.phase }, { on := 3, ground := Ground.phase }, { on := 4, ground := Ground.phase }, { on := 5, ground := Ground.phase }], guard := none }) rfl (fun _ _ => ?op6n33) (AllReadyIn.nil)
              case op6n33 =>
                rw [if_pos (show Region.wanted _ _ = true from rfl)]
                gi_wp2
                show wpAnyIn (Fence.wide.inRound l) m Tryd.prog .any incOps Q 0 #[true, true, true, true, true, true, true] _ _
                exact wpAnyIn_done (by kernel_rfl) hQ _
        case op4n30 =>
          rw [if_pos (show Region.wanted _ _ = true from rfl)]
          gi_wp2
          show wpAnyIn (Fence.wide.inRound l) m Tryd.prog .any incOps Q 3 #[true, true, true, false, true, false, false] _ _
          refine wpAnyIn_ready (rs := [3, 5]) (by kernel_rfl) (by simp) ?_
          refine AllReadyIn.cons (o := { dst := some 28, op := Op.binOp BinOp.add 3 (Operand.tmp 27) (Operand.const (Value.int IntKind.i64 1)) 3, type := 3, pos := "tree.go:35", after := #[{ on := 2, ground := Ground.data }], guard := none }) rfl (fun _ _ => ?op3n35) (AllReadyIn.cons (o := { dst := some 30, op := Op.extract (Operand.tmp 29) 1, type := 3, pos := "tree.go:35", after := #[{ on := 4, ground := Ground.data }], guard := none }) rfl (fun _ _ => ?op5n35) (AllReadyIn.nil))
          case op3n35 =>
            rw [if_pos (show Region.wanted _ _ = true from rfl)]
            gi_wp2
            show wpAnyIn (Fence.wide.inRound l) m Tryd.prog .any incOps Q 2 #[true, true, true, true, true, false, false] _ _
            refine wpAnyIn_ready (rs := [5]) (by kernel_rfl) (by simp) ?_
            refine AllReadyIn.cons (o := { dst := some 30, op := Op.extract (Operand.tmp 29) 1, type := 3, pos := "tree.go:35", after := #[{ on := 4, ground := Ground.data }], guard := none }) rfl (fun _ _ => ?op5n36) (AllReadyIn.nil)
            case op5n36 =>
              rw [if_pos (show Region.wanted _ _ = true from rfl)]
              gi_wp2
              show wpAnyIn (Fence.wide.inRound l) m Tryd.prog .any incOps Q 1 #[true, true, true, true, true, true, false] _ _
              refine wpAnyIn_ready (rs := [6]) (by kernel_rfl) (by simp) ?_
              refine AllReadyIn.cons (o := { dst := none, op := Op.entryStore 80 (Operand.tmp 25) (Operand.tmp 30) (Operand.tmp 28), type := 0, pos := "tree.go:35", after := #[{ on := 0, ground := Ground.data }, { on := 5, ground := Ground.data }, { on := 3, ground := Ground.data }, { on := 4, ground := Ground.chain }, { on := 0, ground := Ground.phase }, { on := 1, ground := Ground.phase }, { on := 2, ground := Ground.phase }, { on := 3, ground := Ground.phase }, { on := 4, ground := Ground.phase }, { on := 5, ground := Ground.phase }], guard := none }) rfl (fun _ _ => ?op6n37) (AllReadyIn.nil)
              case op6n37 =>
                rw [if_pos (show Region.wanted _ _ = true from rfl)]
                gi_wp2
                show wpAnyIn (Fence.wide.inRound l) m Tryd.prog .any incOps Q 0 #[true, true, true, true, true, true, true] _ _
                exact wpAnyIn_done (by kernel_rfl) hQ _
          case op5n35 =>
            rw [if_pos (show Region.wanted _ _ = true from rfl)]
            gi_wp2
            show wpAnyIn (Fence.wide.inRound l) m Tryd.prog .any incOps Q 2 #[true, true, true, false, true, true, false] _ _
            refine wpAnyIn_ready (rs := [3]) (by kernel_rfl) (by simp) ?_
            refine AllReadyIn.cons (o := { dst := some 28, op := Op.binOp BinOp.add 3 (Operand.tmp 27) (Operand.const (Value.int IntKind.i64 1)) 3, type := 3, pos := "tree.go:35", after := #[{ on := 2, ground := Ground.data }], guard := none }) rfl (fun _ _ => ?op3n39) (AllReadyIn.nil)
            case op3n39 =>
              rw [if_pos (show Region.wanted _ _ = true from rfl)]
              gi_wp2
              show wpAnyIn (Fence.wide.inRound l) m Tryd.prog .any incOps Q 1 #[true, true, true, true, true, true, false] _ _
              refine wpAnyIn_ready (rs := [6]) (by kernel_rfl) (by simp) ?_
              refine AllReadyIn.cons (o := { dst := none, op := Op.entryStore 80 (Operand.tmp 25) (Operand.tmp 30) (Operand.tmp 28), type := 0, pos := "tree.go:35", after := #[{ on := 0, ground := Ground.data }, { on := 5, ground := Ground.data }, { on := 3, ground := Ground.data }, { on := 4, ground := Ground.chain }, { on := 0, ground := Ground.phase }, { on := 1, ground := Ground.phase }, { on := 2, ground := Ground.phase }, { on := 3, ground := Ground.phase }, { on := 4, ground := Ground.phase }, { on := 5, ground := Ground.phase }], guard := none }) rfl (fun _ _ => ?op6n40) (AllReadyIn.nil)
              case op6n40 =>
                rw [if_pos (show Region.wanted _ _ = true from rfl)]
                gi_wp2
                show wpAnyIn (Fence.wide.inRound l) m Tryd.prog .any incOps Q 0 #[true, true, true, true, true, true, true] _ _
                exact wpAnyIn_done (by kernel_rfl) hQ _
      case op4n29 =>
        rw [if_pos (show Region.wanted _ _ = true from rfl)]
        gi_wp2
        show wpAnyIn (Fence.wide.inRound l) m Tryd.prog .any incOps Q 4 #[true, true, false, false, true, false, false] _ _
        refine wpAnyIn_ready (rs := [2, 5]) (by kernel_rfl) (by simp) ?_
        refine AllReadyIn.cons (o := { dst := some 27, op := Op.lookup 80 (Operand.tmp 25) (Operand.tmp 26) false, type := 3, pos := "tree.go:35", after := #[{ on := 0, ground := Ground.data }, { on := 1, ground := Ground.data }], guard := none }) rfl (fun _ _ => ?op2n42) (AllReadyIn.cons (o := { dst := some 30, op := Op.extract (Operand.tmp 29) 1, type := 3, pos := "tree.go:35", after := #[{ on := 4, ground := Ground.data }], guard := none }) rfl (fun _ _ => ?op5n42) (AllReadyIn.nil))
        case op2n42 =>
          rw [if_pos (show Region.wanted _ _ = true from rfl)]
          gi_wp2
          show wpAnyIn (Fence.wide.inRound l) m Tryd.prog .any incOps Q 3 #[true, true, true, false, true, false, false] _ _
          refine wpAnyIn_ready (rs := [3, 5]) (by kernel_rfl) (by simp) ?_
          refine AllReadyIn.cons (o := { dst := some 28, op := Op.binOp BinOp.add 3 (Operand.tmp 27) (Operand.const (Value.int IntKind.i64 1)) 3, type := 3, pos := "tree.go:35", after := #[{ on := 2, ground := Ground.data }], guard := none }) rfl (fun _ _ => ?op3n43) (AllReadyIn.cons (o := { dst := some 30, op := Op.extract (Operand.tmp 29) 1, type := 3, pos := "tree.go:35", after := #[{ on := 4, ground := Ground.data }], guard := none }) rfl (fun _ _ => ?op5n43) (AllReadyIn.nil))
          case op3n43 =>
            rw [if_pos (show Region.wanted _ _ = true from rfl)]
            gi_wp2
            show wpAnyIn (Fence.wide.inRound l) m Tryd.prog .any incOps Q 2 #[true, true, true, true, true, false, false] _ _
            refine wpAnyIn_ready (rs := [5]) (by kernel_rfl) (by simp) ?_
            refine AllReadyIn.cons (o := { dst := some 30, op := Op.extract (Operand.tmp 29) 1, type := 3, pos := "tree.go:35", after := #[{ on := 4, ground := Ground.data }], guard := none }) rfl (fun _ _ => ?op5n44) (AllReadyIn.nil)
            case op5n44 =>
              rw [if_pos (show Region.wanted _ _ = true from rfl)]
              gi_wp2
              show wpAnyIn (Fence.wide.inRound l) m Tryd.prog .any incOps Q 1 #[true, true, true, true, true, true, false] _ _
              refine wpAnyIn_ready (rs := [6]) (by kernel_rfl) (by simp) ?_
              refine AllReadyIn.cons (o := { dst := none, op := Op.entryStore 80 (Operand.tmp 25) (Operand.tmp 30) (Operand.tmp 28), type := 0, pos := "tree.go:35", after := #[{ on := 0, ground := Ground.data }, { on := 5, ground := Ground.data }, { on := 3, ground := Ground.data }, { on := 4, ground := Ground.chain }, { on := 0, ground := Ground.phase }, { on := 1, ground := Ground.phase }, { on := 2, ground := Ground.phase }, { on := 3, ground := Ground.phase }, { on := 4, ground := Ground.phase }, { on := 5, ground := Ground.phase }], guard := none }) rfl (fun _ _ => ?op6n45) (AllReadyIn.nil)
              case op6n45 =>
                rw [if_pos (show Region.wanted _ _ = true from rfl)]
                gi_wp2
                show wpAnyIn (Fence.wide.inRound l) m Tryd.prog .any incOps Q 0 #[true, true, true, true, true, true, true] _ _
                exact wpAnyIn_done (by kernel_rfl) hQ _
          case op5n43 =>
            rw [if_pos (show Region.wanted _ _ = true from rfl)]
            gi_wp2
            show wpAnyIn (Fence.wide.inRound l) m Tryd.prog .any incOps Q 2 #[true, true, true, false, true, true, false] _ _
            refine wpAnyIn_ready (rs := [3]) (by kernel_rfl) (by simp) ?_
            refine AllReadyIn.cons (o := { dst := some 28, op := Op.binOp BinOp.add 3 (Operand.tmp 27) (Operand.const (Value.int IntKind.i64 1)) 3, type := 3, pos := "tree.go:35", after := #[{ on := 2, ground := Ground.data }], guard := none }) rfl (fun _ _ => ?op3n47) (AllReadyIn.nil)
            case op3n47 =>
              rw [if_pos (show Region.wanted _ _ = true from rfl)]
              gi_wp2
              show wpAnyIn (Fence.wide.inRound l) m Tryd.prog .any incOps Q 1 #[true, true, true, true, true, true, false] _ _
              refine wpAnyIn_ready (rs := [6]) (by kernel_rfl) (by simp) ?_
              refine AllReadyIn.cons (o := { dst := none, op := Op.entryStore 80 (Operand.tmp 25) (Operand.tmp 30) (Operand.tmp 28), type := 0, pos := "tree.go:35", after := #[{ on := 0, ground := Ground.data }, { on := 5, ground := Ground.data }, { on := 3, ground := Ground.data }, { on := 4, ground := Ground.chain }, { on := 0, ground := Ground.phase }, { on := 1, ground := Ground.phase }, { on := 2, ground := Ground.phase }, { on := 3, ground := Ground.phase }, { on := 4, ground := Ground.phase }, { on := 5, ground := Ground.phase }], guard := none }) rfl (fun _ _ => ?op6n48) (AllReadyIn.nil)
              case op6n48 =>
                rw [if_pos (show Region.wanted _ _ = true from rfl)]
                gi_wp2
                show wpAnyIn (Fence.wide.inRound l) m Tryd.prog .any incOps Q 0 #[true, true, true, true, true, true, true] _ _
                exact wpAnyIn_done (by kernel_rfl) hQ _
        case op5n42 =>
          rw [if_pos (show Region.wanted _ _ = true from rfl)]
          gi_wp2
          show wpAnyIn (Fence.wide.inRound l) m Tryd.prog .any incOps Q 3 #[true, true, false, false, true, true, false] _ _
          refine wpAnyIn_ready (rs := [2]) (by kernel_rfl) (by simp) ?_
          refine AllReadyIn.cons (o := { dst := some 27, op := Op.lookup 80 (Operand.tmp 25) (Operand.tmp 26) false, type := 3, pos := "tree.go:35", after := #[{ on := 0, ground := Ground.data }, { on := 1, ground := Ground.data }], guard := none }) rfl (fun _ _ => ?op2n50) (AllReadyIn.nil)
          case op2n50 =>
            rw [if_pos (show Region.wanted _ _ = true from rfl)]
            gi_wp2
            show wpAnyIn (Fence.wide.inRound l) m Tryd.prog .any incOps Q 2 #[true, true, true, false, true, true, false] _ _
            refine wpAnyIn_ready (rs := [3]) (by kernel_rfl) (by simp) ?_
            refine AllReadyIn.cons (o := { dst := some 28, op := Op.binOp BinOp.add 3 (Operand.tmp 27) (Operand.const (Value.int IntKind.i64 1)) 3, type := 3, pos := "tree.go:35", after := #[{ on := 2, ground := Ground.data }], guard := none }) rfl (fun _ _ => ?op3n51) (AllReadyIn.nil)
            case op3n51 =>
              rw [if_pos (show Region.wanted _ _ = true from rfl)]
              gi_wp2
              show wpAnyIn (Fence.wide.inRound l) m Tryd.prog .any incOps Q 1 #[true, true, true, true, true, true, false] _ _
              refine wpAnyIn_ready (rs := [6]) (by kernel_rfl) (by simp) ?_
              refine AllReadyIn.cons (o := { dst := none, op := Op.entryStore 80 (Operand.tmp 25) (Operand.tmp 30) (Operand.tmp 28), type := 0, pos := "tree.go:35", after := #[{ on := 0, ground := Ground.data }, { on := 5, ground := Ground.data }, { on := 3, ground := Ground.data }, { on := 4, ground := Ground.chain }, { on := 0, ground := Ground.phase }, { on := 1, ground := Ground.phase }, { on := 2, ground := Ground.phase }, { on := 3, ground := Ground.phase }, { on := 4, ground := Ground.phase }, { on := 5, ground := Ground.phase }], guard := none }) rfl (fun _ _ => ?op6n52) (AllReadyIn.nil)
              case op6n52 =>
                rw [if_pos (show Region.wanted _ _ = true from rfl)]
                gi_wp2
                show wpAnyIn (Fence.wide.inRound l) m Tryd.prog .any incOps Q 0 #[true, true, true, true, true, true, true] _ _
                exact wpAnyIn_done (by kernel_rfl) hQ _
end Go.Proofs.YtopiceoofdlkbaaDoor
