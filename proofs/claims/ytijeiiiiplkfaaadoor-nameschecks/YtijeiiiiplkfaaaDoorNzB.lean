/-
  The document's Is: whether a program has the shape of one.
-/
import Derived.Test.YtijeiiiiplkfaaaDoorNzA
import Derived.Test.YtijeiiiiplkfaaaDoorSzA
import Derived.Deep.RegionHeld3
import Derived.Deep.Cut
namespace Go.Proofs.YtijeiiiiplkfaaaDoor
open Go.RowKit
theorem lt_of_cell {w : World} {b o : Nat} {v : Value} (h : w.cell? ⟨b, o, none⟩ = some v) : b < w.heap.size := by
  rcases Nat.lt_or_ge b w.heap.size with h1 | h1
  · exact h1
  · exfalso
    have h2 : w.heap[b]? = none := by rw [Array.getElem?_eq_none_iff]; exact h1
    simp [World.cell?, h2] at h
def rq0 : Oper := { dst := some 28, op := Op.move (Operand.tmp 8), type := 4, pos := "ref.go:79", after := #[], guard := none }
theorem rq0d : rq0.dst = some 28 := rfl
def rq1 : Oper := { dst := some 29, op := Op.unOp UnOp.not 4 (Operand.tmp 28), type := 4, pos := "ref.go:79", after := #[{ on := 0, ground := Ground.data }], guard := none }
theorem rq1d : rq1.dst = some 29 := rfl
def rq2 : Oper := { dst := some 30, op := Op.move (Operand.tmp 29), type := 4, pos := "ref.go:79", after := #[{ on := 1, ground := Ground.data }], guard := none }
theorem rq2d : rq2.dst = some 30 := rfl
def rq3 : Oper := { dst := some 31, op := Op.fieldAddr 56 (Operand.tmp 4) 5, type := 0, pos := "ref.go:79", after := #[{ on := 2, ground := Ground.guard }], guard := some (2, false) }
theorem rq3d : rq3.dst = some 31 := rfl
def rq4 : Oper := { dst := some 32, op := Op.load 54 (Operand.tmp 31), type := 54, pos := "ref.go:79", after := #[{ on := 3, ground := Ground.data }, { on := 2, ground := Ground.guard }], guard := some (2, false) }
theorem rq4d : rq4.dst = some 32 := rfl
def rq5 : Oper := { dst := some 33, op := Op.call { callee := Callee.builtin Builtin.len, args := #[Operand.tmp 32], argTypes := #[54] }, type := 3, pos := "ref.go:79", after := #[{ on := 4, ground := Ground.data }, { on := 2, ground := Ground.guard }], guard := some (2, false) }
theorem rq5d : rq5.dst = some 33 := rfl
def rq6 : Oper := { dst := some 34, op := Op.move (Operand.tmp 6), type := 3, pos := "ref.go:79", after := #[{ on := 2, ground := Ground.guard }], guard := some (2, false) }
theorem rq6d : rq6.dst = some 34 := rfl
def rq7 : Oper := { dst := some 35, op := Op.binOp BinOp.lss 3 (Operand.tmp 33) (Operand.tmp 34) 3, type := 4, pos := "ref.go:79", after := #[{ on := 5, ground := Ground.data }, { on := 6, ground := Ground.data }, { on := 2, ground := Ground.guard }], guard := some (2, false) }
theorem rq7d : rq7.dst = some 35 := rfl
def rq8 : Oper := { dst := some 36, op := Op.pick (Operand.tmp 30) (Operand.const (Value.bool true)) (Operand.tmp 35), type := 4, pos := "ref.go:79", after := #[{ on := 2, ground := Ground.data }, { on := 7, ground := Ground.data }], guard := none }
theorem rq8d : rq8.dst = some 36 := rfl
def rq9 : Oper := { dst := some 37, op := Op.move (Operand.tmp 36), type := 4, pos := "ref.go:79", after := #[{ on := 8, ground := Ground.data }, { on := 2, ground := Ground.chain }], guard := none }
theorem rq9d : rq9.dst = some 37 := rfl
def rq10 : Oper := { dst := some 38, op := Op.fieldAddr 56 (Operand.tmp 4) 5, type := 0, pos := "ref.go:79", after := #[{ on := 9, ground := Ground.guard }], guard := some (9, false) }
theorem rq10d : rq10.dst = some 38 := rfl
def rq11 : Oper := { dst := some 39, op := Op.load 54 (Operand.tmp 38), type := 54, pos := "ref.go:79", after := #[{ on := 10, ground := Ground.data }, { on := 9, ground := Ground.guard }], guard := some (9, false) }
theorem rq11d : rq11.dst = some 39 := rfl
def rq12 : Oper := { dst := some 40, op := Op.call { callee := Callee.builtin Builtin.len, args := #[Operand.tmp 39], argTypes := #[54] }, type := 3, pos := "ref.go:79", after := #[{ on := 11, ground := Ground.data }, { on := 9, ground := Ground.guard }], guard := some (9, false) }
theorem rq12d : rq12.dst = some 40 := rfl
def rq13 : Oper := { dst := some 41, op := Op.move (Operand.tmp 7), type := 3, pos := "ref.go:79", after := #[{ on := 9, ground := Ground.guard }], guard := some (9, false) }
theorem rq13d : rq13.dst = some 41 := rfl
def rq14 : Oper := { dst := some 42, op := Op.binOp BinOp.gtr 3 (Operand.tmp 40) (Operand.tmp 41) 3, type := 4, pos := "ref.go:79", after := #[{ on := 12, ground := Ground.data }, { on := 13, ground := Ground.data }, { on := 9, ground := Ground.guard }], guard := some (9, false) }
theorem rq14d : rq14.dst = some 42 := rfl
def rq15 : Oper := { dst := some 43, op := Op.pick (Operand.tmp 37) (Operand.const (Value.bool true)) (Operand.tmp 42), type := 4, pos := "ref.go:79", after := #[{ on := 9, ground := Ground.data }, { on := 14, ground := Ground.data }], guard := none }
theorem rq15d : rq15.dst = some 43 := rfl
def rq16 : Oper := { dst := some 44, op := Op.move (Operand.tmp 43), type := 4, pos := "ref.go:79", after := #[{ on := 15, ground := Ground.data }, { on := 9, ground := Ground.chain }], guard := none }
theorem rq16d : rq16.dst = some 44 := rfl
def rq17 : Oper := { dst := some 45, op := Op.move (Operand.tmp 5), type := 120, pos := "ref.go:79", after := #[{ on := 16, ground := Ground.guard }], guard := some (16, false) }
theorem rq17d : rq17.dst = some 45 := rfl
def rq18 : Oper := { dst := some 46, op := Op.indexAddr 120 (Operand.tmp 45) (Operand.const (Value.int IntKind.i64 0)), type := 0, pos := "ref.go:79", after := #[{ on := 17, ground := Ground.data }, { on := 16, ground := Ground.guard }], guard := some (16, false) }
theorem rq18d : rq18.dst = some 46 := rfl
def rq19 : Oper := { dst := some 47, op := Op.load 4 (Operand.tmp 46), type := 4, pos := "ref.go:79", after := #[{ on := 18, ground := Ground.data }, { on := 16, ground := Ground.guard }], guard := some (16, false) }
theorem rq19d : rq19.dst = some 47 := rfl
def rq20 : Oper := { dst := some 48, op := Op.fieldAddr 56 (Operand.tmp 4) 1, type := 0, pos := "ref.go:79", after := #[{ on := 16, ground := Ground.guard }], guard := some (16, false) }
theorem rq20d : rq20.dst = some 48 := rfl
def rq21 : Oper := { dst := some 49, op := Op.load 9 (Operand.tmp 48), type := 9, pos := "ref.go:79", after := #[{ on := 20, ground := Ground.data }, { on := 16, ground := Ground.guard }], guard := some (16, false) }
theorem rq21d : rq21.dst = some 49 := rfl
def rq22 : Oper := { dst := some 50, op := Op.binOp BinOp.neq 9 (Operand.tmp 49) (Operand.const (Value.string { data := #[] })) 9, type := 4, pos := "ref.go:79", after := #[{ on := 21, ground := Ground.data }, { on := 16, ground := Ground.guard }], guard := some (16, false) }
theorem rq22d : rq22.dst = some 50 := rfl
def rq23 : Oper := { dst := some 51, op := Op.binOp BinOp.neq 4 (Operand.tmp 47) (Operand.tmp 50) 4, type := 4, pos := "ref.go:79", after := #[{ on := 19, ground := Ground.data }, { on := 22, ground := Ground.data }, { on := 16, ground := Ground.guard }], guard := some (16, false) }
theorem rq23d : rq23.dst = some 51 := rfl
def rq24 : Oper := { dst := some 52, op := Op.pick (Operand.tmp 44) (Operand.const (Value.bool true)) (Operand.tmp 51), type := 4, pos := "ref.go:79", after := #[{ on := 16, ground := Ground.data }, { on := 23, ground := Ground.data }], guard := none }
theorem rq24d : rq24.dst = some 52 := rfl
def rq25 : Oper := { dst := some 53, op := Op.move (Operand.tmp 52), type := 4, pos := "ref.go:79", after := #[{ on := 24, ground := Ground.data }, { on := 16, ground := Ground.chain }], guard := none }
theorem rq25d : rq25.dst = some 53 := rfl
def rq26 : Oper := { dst := some 54, op := Op.move (Operand.tmp 5), type := 120, pos := "ref.go:79", after := #[{ on := 25, ground := Ground.guard }], guard := some (25, false) }
theorem rq26d : rq26.dst = some 54 := rfl
def rq27 : Oper := { dst := some 55, op := Op.indexAddr 120 (Operand.tmp 54) (Operand.const (Value.int IntKind.i64 1)), type := 0, pos := "ref.go:79", after := #[{ on := 26, ground := Ground.data }, { on := 25, ground := Ground.guard }], guard := some (25, false) }
theorem rq27d : rq27.dst = some 55 := rfl
def rq28 : Oper := { dst := some 56, op := Op.load 4 (Operand.tmp 55), type := 4, pos := "ref.go:79", after := #[{ on := 27, ground := Ground.data }, { on := 25, ground := Ground.guard }], guard := some (25, false) }
theorem rq28d : rq28.dst = some 56 := rfl
def rq29 : Oper := { dst := some 57, op := Op.fieldAddr 56 (Operand.tmp 4) 2, type := 0, pos := "ref.go:79", after := #[{ on := 25, ground := Ground.guard }], guard := some (25, false) }
theorem rq29d : rq29.dst = some 57 := rfl
def rq30 : Oper := { dst := some 58, op := Op.load 9 (Operand.tmp 57), type := 9, pos := "ref.go:79", after := #[{ on := 29, ground := Ground.data }, { on := 25, ground := Ground.guard }], guard := some (25, false) }
theorem rq30d : rq30.dst = some 58 := rfl
def rq31 : Oper := { dst := some 59, op := Op.binOp BinOp.neq 9 (Operand.tmp 58) (Operand.const (Value.string { data := #[] })) 9, type := 4, pos := "ref.go:79", after := #[{ on := 30, ground := Ground.data }, { on := 25, ground := Ground.guard }], guard := some (25, false) }
theorem rq31d : rq31.dst = some 59 := rfl
def rq32 : Oper := { dst := some 60, op := Op.binOp BinOp.neq 4 (Operand.tmp 56) (Operand.tmp 59) 4, type := 4, pos := "ref.go:79", after := #[{ on := 28, ground := Ground.data }, { on := 31, ground := Ground.data }, { on := 25, ground := Ground.guard }], guard := some (25, false) }
theorem rq32d : rq32.dst = some 60 := rfl
def rq33 : Oper := { dst := some 61, op := Op.pick (Operand.tmp 53) (Operand.const (Value.bool true)) (Operand.tmp 60), type := 4, pos := "ref.go:79", after := #[{ on := 25, ground := Ground.data }, { on := 32, ground := Ground.data }], guard := none }
theorem rq33d : rq33.dst = some 61 := rfl
def rq34 : Oper := { dst := some 62, op := Op.move (Operand.tmp 61), type := 4, pos := "ref.go:79", after := #[{ on := 33, ground := Ground.data }, { on := 25, ground := Ground.chain }], guard := none }
theorem rq34d : rq34.dst = some 62 := rfl
def rq35 : Oper := { dst := some 63, op := Op.move (Operand.tmp 5), type := 120, pos := "ref.go:79", after := #[{ on := 34, ground := Ground.guard }], guard := some (34, false) }
theorem rq35d : rq35.dst = some 63 := rfl
def rq36 : Oper := { dst := some 64, op := Op.indexAddr 120 (Operand.tmp 63) (Operand.const (Value.int IntKind.i64 0)), type := 0, pos := "ref.go:79", after := #[{ on := 35, ground := Ground.data }, { on := 34, ground := Ground.guard }], guard := some (34, false) }
theorem rq36d : rq36.dst = some 64 := rfl
def rq37 : Oper := { dst := some 65, op := Op.load 4 (Operand.tmp 64), type := 4, pos := "ref.go:79", after := #[{ on := 36, ground := Ground.data }, { on := 34, ground := Ground.guard }], guard := some (34, false) }
theorem rq37d : rq37.dst = some 65 := rfl
def rq38 : Oper := { dst := some 66, op := Op.move (Operand.tmp 65), type := 4, pos := "ref.go:79", after := #[{ on := 37, ground := Ground.data }, { on := 34, ground := Ground.chain }, { on := 34, ground := Ground.guard }], guard := some (34, false) }
theorem rq38d : rq38.dst = some 66 := rfl
def rq39 : Oper := { dst := some 67, op := Op.fieldAddr 56 (Operand.tmp 4) 1, type := 0, pos := "ref.go:79", after := #[{ on := 38, ground := Ground.guard }], guard := some (38, true) }
theorem rq39d : rq39.dst = some 67 := rfl
def rq40 : Oper := { dst := some 68, op := Op.load 9 (Operand.tmp 67), type := 9, pos := "ref.go:79", after := #[{ on := 39, ground := Ground.data }, { on := 38, ground := Ground.guard }], guard := some (38, true) }
theorem rq40d : rq40.dst = some 68 := rfl
def rq41 : Oper := { dst := some 69, op := Op.call { callee := Callee.value (Operand.func 50), args := #[Operand.tmp 68], argTypes := #[9] }, type := 4, pos := "ref.go:79", after := #[{ on := 40, ground := Ground.data }, { on := 38, ground := Ground.chain }, { on := 38, ground := Ground.guard }], guard := some (38, true) }
theorem rq41d : rq41.dst = some 69 := rfl
def rq42 : Oper := { dst := some 70, op := Op.unOp UnOp.not 4 (Operand.tmp 69), type := 4, pos := "ref.go:79", after := #[{ on := 41, ground := Ground.data }, { on := 38, ground := Ground.guard }], guard := some (38, true) }
theorem rq42d : rq42.dst = some 70 := rfl
def rq43 : Oper := { dst := some 71, op := Op.pick (Operand.tmp 66) (Operand.tmp 70) (Operand.const (Value.bool false)), type := 4, pos := "ref.go:79", after := #[{ on := 38, ground := Ground.data }, { on := 42, ground := Ground.data }, { on := 34, ground := Ground.guard }], guard := some (34, false) }
theorem rq43d : rq43.dst = some 71 := rfl
def rq44 : Oper := { dst := some 72, op := Op.pick (Operand.tmp 62) (Operand.const (Value.bool true)) (Operand.tmp 71), type := 4, pos := "ref.go:79", after := #[{ on := 34, ground := Ground.data }, { on := 43, ground := Ground.data }], guard := none }
theorem rq44d : rq44.dst = some 72 := rfl
def rq45 : Oper := { dst := some 73, op := Op.move (Operand.tmp 72), type := 4, pos := "ref.go:79", after := #[{ on := 44, ground := Ground.data }, { on := 41, ground := Ground.chain }], guard := none }
theorem rq45d : rq45.dst = some 73 := rfl
def rq46 : Oper := { dst := some 74, op := Op.move (Operand.tmp 5), type := 120, pos := "ref.go:79", after := #[{ on := 45, ground := Ground.guard }], guard := some (45, false) }
theorem rq46d : rq46.dst = some 74 := rfl
def rq47 : Oper := { dst := some 75, op := Op.indexAddr 120 (Operand.tmp 74) (Operand.const (Value.int IntKind.i64 1)), type := 0, pos := "ref.go:79", after := #[{ on := 46, ground := Ground.data }, { on := 45, ground := Ground.guard }], guard := some (45, false) }
theorem rq47d : rq47.dst = some 75 := rfl
def rq48 : Oper := { dst := some 76, op := Op.load 4 (Operand.tmp 75), type := 4, pos := "ref.go:79", after := #[{ on := 47, ground := Ground.data }, { on := 45, ground := Ground.guard }], guard := some (45, false) }
theorem rq48d : rq48.dst = some 76 := rfl
def rq49 : Oper := { dst := some 77, op := Op.move (Operand.tmp 76), type := 4, pos := "ref.go:79", after := #[{ on := 48, ground := Ground.data }, { on := 45, ground := Ground.chain }, { on := 45, ground := Ground.guard }], guard := some (45, false) }
theorem rq49d : rq49.dst = some 77 := rfl
def rq50 : Oper := { dst := some 78, op := Op.fieldAddr 56 (Operand.tmp 4) 2, type := 0, pos := "ref.go:79", after := #[{ on := 49, ground := Ground.guard }], guard := some (49, true) }
theorem rq50d : rq50.dst = some 78 := rfl
def rq51 : Oper := { dst := some 79, op := Op.load 9 (Operand.tmp 78), type := 9, pos := "ref.go:79", after := #[{ on := 50, ground := Ground.data }, { on := 49, ground := Ground.guard }], guard := some (49, true) }
theorem rq51d : rq51.dst = some 79 := rfl
def rq52 : Oper := { dst := some 80, op := Op.call { callee := Callee.value (Operand.func 50), args := #[Operand.tmp 79], argTypes := #[9] }, type := 4, pos := "ref.go:79", after := #[{ on := 51, ground := Ground.data }, { on := 49, ground := Ground.chain }, { on := 49, ground := Ground.guard }], guard := some (49, true) }
theorem rq52d : rq52.dst = some 80 := rfl
def rq53 : Oper := { dst := some 81, op := Op.unOp UnOp.not 4 (Operand.tmp 80), type := 4, pos := "ref.go:79", after := #[{ on := 52, ground := Ground.data }, { on := 49, ground := Ground.guard }], guard := some (49, true) }
theorem rq53d : rq53.dst = some 81 := rfl
def rq54 : Oper := { dst := some 82, op := Op.pick (Operand.tmp 77) (Operand.tmp 81) (Operand.const (Value.bool false)), type := 4, pos := "ref.go:79", after := #[{ on := 49, ground := Ground.data }, { on := 53, ground := Ground.data }, { on := 45, ground := Ground.guard }], guard := some (45, false) }
theorem rq54d : rq54.dst = some 82 := rfl
def rq55 : Oper := { dst := some 83, op := Op.pick (Operand.tmp 73) (Operand.const (Value.bool true)) (Operand.tmp 82), type := 4, pos := "ref.go:79", after := #[{ on := 45, ground := Ground.data }, { on := 54, ground := Ground.data }], guard := none }
theorem rq55d : rq55.dst = some 83 := rfl
def rq56 : Oper := { dst := some 84, op := Op.move (Operand.tmp 83), type := 4, pos := "ref.go:79", after := #[{ on := 55, ground := Ground.data }, { on := 52, ground := Ground.chain }], guard := none }
theorem rq56d : rq56.dst = some 84 := rfl
def rq57 : Oper := { dst := some 85, op := Op.fieldAddr 56 (Operand.tmp 4) 3, type := 0, pos := "ref.go:79", after := #[{ on := 56, ground := Ground.guard }], guard := some (56, false) }
theorem rq57d : rq57.dst = some 85 := rfl
def rq58 : Oper := { dst := some 86, op := Op.load 2 (Operand.tmp 85), type := 2, pos := "ref.go:79", after := #[{ on := 57, ground := Ground.data }, { on := 56, ground := Ground.guard }], guard := some (56, false) }
theorem rq58d : rq58.dst = some 86 := rfl
def rq59 : Oper := { dst := some 87, op := Op.binOp BinOp.lss 2 (Operand.tmp 86) (Operand.const (Value.int IntKind.i64 0)) 2, type := 4, pos := "ref.go:79", after := #[{ on := 58, ground := Ground.data }, { on := 56, ground := Ground.guard }], guard := some (56, false) }
theorem rq59d : rq59.dst = some 87 := rfl
def rq60 : Oper := { dst := some 88, op := Op.pick (Operand.tmp 84) (Operand.const (Value.bool true)) (Operand.tmp 87), type := 4, pos := "ref.go:79", after := #[{ on := 56, ground := Ground.data }, { on := 59, ground := Ground.data }], guard := none }
theorem rq60d : rq60.dst = some 88 := rfl
def rq61 : Oper := { dst := some 89, op := Op.move (Operand.tmp 88), type := 4, pos := "ref.go:79", after := #[{ on := 60, ground := Ground.data }, { on := 56, ground := Ground.chain }], guard := none }
theorem rq61d : rq61.dst = some 89 := rfl
def rq62 : Oper := { dst := some 90, op := Op.move (Operand.tmp 5), type := 120, pos := "ref.go:79", after := #[{ on := 61, ground := Ground.guard }], guard := some (61, false) }
theorem rq62d : rq62.dst = some 90 := rfl
def rq63 : Oper := { dst := some 91, op := Op.indexAddr 120 (Operand.tmp 90) (Operand.const (Value.int IntKind.i64 2)), type := 0, pos := "ref.go:79", after := #[{ on := 62, ground := Ground.data }, { on := 61, ground := Ground.guard }], guard := some (61, false) }
theorem rq63d : rq63.dst = some 91 := rfl
def rq64 : Oper := { dst := some 92, op := Op.load 4 (Operand.tmp 91), type := 4, pos := "ref.go:79", after := #[{ on := 63, ground := Ground.data }, { on := 61, ground := Ground.guard }], guard := some (61, false) }
theorem rq64d : rq64.dst = some 92 := rfl
def rq65 : Oper := { dst := some 93, op := Op.unOp UnOp.not 4 (Operand.tmp 92), type := 4, pos := "ref.go:79", after := #[{ on := 64, ground := Ground.data }, { on := 61, ground := Ground.guard }], guard := some (61, false) }
theorem rq65d : rq65.dst = some 93 := rfl
def rq66 : Oper := { dst := some 94, op := Op.move (Operand.tmp 93), type := 4, pos := "ref.go:79", after := #[{ on := 65, ground := Ground.data }, { on := 61, ground := Ground.chain }, { on := 61, ground := Ground.guard }], guard := some (61, false) }
theorem rq66d : rq66.dst = some 94 := rfl
def rq67 : Oper := { dst := some 95, op := Op.fieldAddr 56 (Operand.tmp 4) 3, type := 0, pos := "ref.go:79", after := #[{ on := 66, ground := Ground.guard }], guard := some (66, true) }
theorem rq67d : rq67.dst = some 95 := rfl
def rq68 : Oper := { dst := some 96, op := Op.load 2 (Operand.tmp 95), type := 2, pos := "ref.go:79", after := #[{ on := 67, ground := Ground.data }, { on := 66, ground := Ground.guard }], guard := some (66, true) }
theorem rq68d : rq68.dst = some 96 := rfl
def rq69 : Oper := { dst := some 97, op := Op.binOp BinOp.neq 2 (Operand.tmp 96) (Operand.const (Value.int IntKind.i64 0)) 2, type := 4, pos := "ref.go:79", after := #[{ on := 68, ground := Ground.data }, { on := 66, ground := Ground.guard }], guard := some (66, true) }
theorem rq69d : rq69.dst = some 97 := rfl
def rq70 : Oper := { dst := some 98, op := Op.pick (Operand.tmp 94) (Operand.tmp 97) (Operand.const (Value.bool false)), type := 4, pos := "ref.go:79", after := #[{ on := 66, ground := Ground.data }, { on := 69, ground := Ground.data }, { on := 61, ground := Ground.guard }], guard := some (61, false) }
theorem rq70d : rq70.dst = some 98 := rfl
def rq71 : Oper := { dst := some 99, op := Op.pick (Operand.tmp 89) (Operand.const (Value.bool true)) (Operand.tmp 98), type := 4, pos := "ref.go:79", after := #[{ on := 61, ground := Ground.data }, { on := 70, ground := Ground.data }], guard := none }
theorem rq71d : rq71.dst = some 99 := rfl
def r6Ops : Array Oper := #[rq0, rq1, rq2, rq3, rq4, rq5, rq6, rq7, rq8, rq9, rq10, rq11, rq12, rq13, rq14, rq15, rq16, rq17, rq18, rq19, rq20, rq21, rq22, rq23, rq24, rq25, rq26, rq27, rq28, rq29, rq30, rq31, rq32, rq33, rq34, rq35, rq36, rq37, rq38, rq39, rq40, rq41, rq42, rq43, rq44, rq45, rq46, rq47, rq48, rq49, rq50, rq51, rq52, rq53, rq54, rq55, rq56, rq57, rq58, rq59, rq60, rq61, rq62, rq63, rq64, rq65, rq66, rq67, rq68, rq69, rq70, rq71]
theorem mixedQ : Tryd.prog.follows .mixedOrders = true := by kernel_rfl
theorem below_drew6 (W : World) : Below W.heap.size W W.drew := ⟨rfl, rfl, rfl, Nat.le_refl _, fun _ _ => rfl⟩
set_option maxRecDepth 100000 in
set_option maxHeartbeats 64000000 in
theorem reg6 {Q : Exit → Act → World → Prop} (t0 t1 t2 t3 t9 t10 t11 t12 t13 t14 t15 t16 t17 t18 t19 t20 t21 t22 t23 t24 t25 t26 t27 t28 t29 t30 t31 t32 t33 t34 t35 t36 t37 t38 t39 t40 t41 t42 t43 t44 t45 t46 t47 t48 t49 t50 t51 t52 t53 t54 t55 t56 t57 t58 t59 t60 t61 t62 t63 t64 t65 t66 t67 t68 t69 t70 t71 t72 t73 t74 t75 t76 t77 t78 t79 t80 t81 t82 t83 t84 t85 t86 t87 t88 t89 t90 t91 t92 t93 t94 t95 t96 t97 t98 t99 t100 t101 t102 t103 t104 t105 t106 t107 t108 t109 t110 t111 t112 t113 t114 t115 t116 t117 t118 t119 t120 t121 t122 t123 t124 t125 t126 t127 t128 t129 t130 t131 t132 t133 t134 : Value) (p g ll mm blocks cap : Nat) (ad : Option Addr) (mon name : ByteArray) (n : Int) (fm fn fu : Bool) (W : World)
    (hsm : mon.size ≤ 140737488351232) (hsn : name.size ≤ 140737488351232) 
    (hc : W.cell? ⟨p, 1, none⟩ = some (.string mon) ∧ W.cell? ⟨p, 2, none⟩ = some (.string name) ∧ W.cell? ⟨p, 3, none⟩ = some (.int .i64 n) ∧ W.cell? ⟨p, 10, none⟩ = some (.slice ad blocks cap) ∧ W.cell? ⟨g, 0, none⟩ = some (.bool fm) ∧ W.cell? ⟨g, 1, none⟩ = some (.bool fn) ∧ W.cell? ⟨g, 2, none⟩ = some (.bool fu))
    (hQP : ∀ c a d v w, Q (.panic c) (Act.put a d v) w → Q (.panic c) a w)
    (hQ : ∀ u28 u29 u30 u31 u32 u33 u34 u35 u36 u37 u38 u39 u40 u41 u42 u43 u44 u45 u46 u47 u48 u49 u50 u51 u52 u53 u54 u55 u56 u57 u58 u59 u60 u61 u62 u63 u64 u65 u66 u67 u68 u69 u70 u71 u72 u73 u74 u75 u76 u77 u78 u79 u80 u81 u82 u83 u84 u85 u86 u87 u88 u89 u90 u91 u92 u93 u94 u95 u96 u97 u98 T w', (decide ((blocks : Int) < (ll : Int)) || decide ((mm : Int) < (blocks : Int)) || (fm != !mon.toList.isEmpty) || (fn != !name.toList.isEmpty) || (fm && !Lx.name mon) || (fn && !Lx.name name) || decide (n < 0) || (!fu && (n != 0))) = T → Below W.heap.size W w' → Q .normal { tmps := #[t0, t1, t2, t3, .pointer (some ⟨p, 0, none⟩), .slice (some ⟨g, 0, none⟩) 4 4, .int .i64 (ll : Int), .int .i64 (mm : Int), .bool true, t9, t10, t11, t12, t13, t14, t15, t16, t17, t18, t19, t20, t21, t22, t23, t24, t25, t26, t27, u28, u29, u30, u31, u32, u33, u34, u35, u36, u37, u38, u39, u40, u41, u42, u43, u44, u45, u46, u47, u48, u49, u50, u51, u52, u53, u54, u55, u56, u57, u58, u59, u60, u61, u62, u63, u64, u65, u66, u67, u68, u69, u70, u71, u72, u73, u74, u75, u76, u77, u78, u79, u80, u81, u82, u83, u84, u85, u86, u87, u88, u89, u90, u91, u92, u93, u94, u95, u96, u97, u98, .bool T, t100, t101, t102, t103, t104, t105, t106, t107, t108, t109, t110, t111, t112, t113, t114, t115, t116, t117, t118, t119, t120, t121, t122, t123, t124, t125, t126, t127, t128, t129, t130, t131, t132, t133, t134], defers := [] } w') :
    (Code.region 6 r6Ops true).wp Tryd.prog Q { tmps := #[t0, t1, t2, t3, .pointer (some ⟨p, 0, none⟩), .slice (some ⟨g, 0, none⟩) 4 4, .int .i64 (ll : Int), .int .i64 (mm : Int), .bool true, t9, t10, t11, t12, t13, t14, t15, t16, t17, t18, t19, t20, t21, t22, t23, t24, t25, t26, t27, t28, t29, t30, t31, t32, t33, t34, t35, t36, t37, t38, t39, t40, t41, t42, t43, t44, t45, t46, t47, t48, t49, t50, t51, t52, t53, t54, t55, t56, t57, t58, t59, t60, t61, t62, t63, t64, t65, t66, t67, t68, t69, t70, t71, t72, t73, t74, t75, t76, t77, t78, t79, t80, t81, t82, t83, t84, t85, t86, t87, t88, t89, t90, t91, t92, t93, t94, t95, t96, t97, t98, t99, t100, t101, t102, t103, t104, t105, t106, t107, t108, t109, t110, t111, t112, t113, t114, t115, t116, t117, t118, t119, t120, t121, t122, t123, t124, t125, t126, t127, t128, t129, t130, t131, t132, t133, t134], defers := [] } W := by
  dsimp only at hQ ⊢
  have hkeep : ∀ W', Below W.heap.size W W' → (W'.cell? ⟨p, 1, none⟩ = some (.string mon) ∧ W'.cell? ⟨p, 2, none⟩ = some (.string name) ∧ W'.cell? ⟨p, 3, none⟩ = some (.int .i64 n) ∧ W'.cell? ⟨p, 10, none⟩ = some (.slice ad blocks cap) ∧ W'.cell? ⟨g, 0, none⟩ = some (.bool fm) ∧ W'.cell? ⟨g, 1, none⟩ = some (.bool fn) ∧ W'.cell? ⟨g, 2, none⟩ = some (.bool fu)) := fun W' hb => by
    obtain ⟨z1, z2, z3, z4, z5, z6, z7⟩ := hc
    have hp := lt_of_cell z1
    have hg := lt_of_cell z5
    exact ⟨(hb.cell (p := ⟨p, 1, none⟩) hp).trans z1, (hb.cell (p := ⟨p, 2, none⟩) hp).trans z2, (hb.cell (p := ⟨p, 3, none⟩) hp).trans z3, (hb.cell (p := ⟨p, 10, none⟩) hp).trans z4, (hb.cell (p := ⟨g, 0, none⟩) hg).trans z5, (hb.cell (p := ⟨g, 1, none⟩) hg).trans z6, (hb.cell (p := ⟨g, 2, none⟩) hg).trans z7⟩
  have B := below_drew6 W
  refine wp_region_held_drew (S := fun W' => W'.cell? ⟨p, 1, none⟩ = some (.string mon) ∧ W'.cell? ⟨p, 2, none⟩ = some (.string name) ∧ W'.cell? ⟨p, 3, none⟩ = some (.int .i64 n) ∧ W'.cell? ⟨p, 10, none⟩ = some (.slice ad blocks cap) ∧ W'.cell? ⟨g, 0, none⟩ = some (.bool fm) ∧ W'.cell? ⟨g, 1, none⟩ = some (.bool fn) ∧ W'.cell? ⟨g, 2, none⟩ = some (.bool fu)) mixedQ (hkeep _ B) (fun hS => ?_)
  show wpAnyH Tryd.prog .any r6Ops Q _ 72 #[false, false, false, false, false, false, false, false, false, false, false, false, false, false, false, false, false, false, false, false, false, false, false, false, false, false, false, false, false, false, false, false, false, false, false, false, false, false, false, false, false, false, false, false, false, false, false, false, false, false, false, false, false, false, false, false, false, false, false, false, false, false, false, false, false, false, false, false, false, false, false, false] _ _
  refine wpAnyH_take (i := 0) (oi := rq0) (v := .bool true) rfl (by kernel_rfl) (by kernel_rfl) (by kernel_rfl) (fun c _ w h => hQP c _ _ _ w h) (Or.inl ⟨by rfl, ?_⟩) hS ?_
  · rintro w ⟨z1, z2, z3, z4, z5, z6, z7⟩
    unfold rq0
    go_simp
  simp only [rq0d, Act.put, List.setIfInBounds_toArray, List.set_cons_zero, List.set_cons_succ]
  refine wpAnyH_take (i := 1) (oi := rq1) (v := .bool false) rfl (by kernel_rfl) (by kernel_rfl) (by kernel_rfl) (fun c _ w h => hQP c _ _ _ w h) (Or.inl ⟨by rfl, ?_⟩) hS ?_
  · rintro w ⟨z1, z2, z3, z4, z5, z6, z7⟩
    unfold rq1
    go_simp
  simp only [rq1d, Act.put, List.setIfInBounds_toArray, List.set_cons_zero, List.set_cons_succ]
  refine wpAnyH_take (i := 2) (oi := rq2) (v := .bool false) rfl (by kernel_rfl) (by kernel_rfl) (by kernel_rfl) (fun c _ w h => hQP c _ _ _ w h) (Or.inl ⟨by rfl, ?_⟩) hS ?_
  · rintro w ⟨z1, z2, z3, z4, z5, z6, z7⟩
    unfold rq2
    go_simp
  simp only [rq2d, Act.put, List.setIfInBounds_toArray, List.set_cons_zero, List.set_cons_succ]
  refine wpAnyH_take (i := 3) (oi := rq3) (v := .pointer (some ⟨p, 10, none⟩)) rfl (by kernel_rfl) (by kernel_rfl) (by kernel_rfl) (fun c _ w h => hQP c _ _ _ w h) (Or.inl ⟨by rfl, ?_⟩) hS ?_
  · rintro w ⟨z1, z2, z3, z4, z5, z6, z7⟩
    unfold rq3
    go_simp
  simp only [rq3d, Act.put, List.setIfInBounds_toArray, List.set_cons_zero, List.set_cons_succ]
  refine wpAnyH_take (i := 4) (oi := rq4) (v := .slice ad blocks cap) rfl (by kernel_rfl) (by kernel_rfl) (by kernel_rfl) (fun c _ w h => hQP c _ _ _ w h) (Or.inl ⟨by rfl, ?_⟩) hS ?_
  · rintro w ⟨z1, z2, z3, z4, z5, z6, z7⟩
    unfold rq4
    go_simp
  simp only [rq4d, Act.put, List.setIfInBounds_toArray, List.set_cons_zero, List.set_cons_succ]
  refine wpAnyH_take (i := 5) (oi := rq5) (v := .int .i64 (blocks : Int)) rfl (by kernel_rfl) (by kernel_rfl) (by kernel_rfl) (fun c _ w h => hQP c _ _ _ w h) (Or.inl ⟨by rfl, ?_⟩) hS ?_
  · rintro w ⟨z1, z2, z3, z4, z5, z6, z7⟩
    unfold rq5
    go_simp
  simp only [rq5d, Act.put, List.setIfInBounds_toArray, List.set_cons_zero, List.set_cons_succ]
  refine wpAnyH_take (i := 6) (oi := rq6) (v := .int .i64 (ll : Int)) rfl (by kernel_rfl) (by kernel_rfl) (by kernel_rfl) (fun c _ w h => hQP c _ _ _ w h) (Or.inl ⟨by rfl, ?_⟩) hS ?_
  · rintro w ⟨z1, z2, z3, z4, z5, z6, z7⟩
    unfold rq6
    go_simp
  simp only [rq6d, Act.put, List.setIfInBounds_toArray, List.set_cons_zero, List.set_cons_succ]
  cases q1 : decide ((blocks : Int) < (ll : Int))
  · refine wpAnyH_take (i := 7) (oi := rq7) (v := .bool false) rfl (by kernel_rfl) (by kernel_rfl) (by kernel_rfl) (fun c _ w h => hQP c _ _ _ w h) (Or.inl ⟨by rfl, ?_⟩) hS ?_
    · rintro w ⟨z1, z2, z3, z4, z5, z6, z7⟩
      unfold rq7
      go_simp
      all_goals (have hq := q1; simp at hq ⊢; first | omega | assumption | exact hq | grind)
    simp only [rq7d, Act.put, List.setIfInBounds_toArray, List.set_cons_zero, List.set_cons_succ]
    refine wpAnyH_take (i := 8) (oi := rq8) (v := .bool false) rfl (by kernel_rfl) (by kernel_rfl) (by kernel_rfl) (fun c _ w h => hQP c _ _ _ w h) (Or.inl ⟨by rfl, ?_⟩) hS ?_
    · rintro w ⟨z1, z2, z3, z4, z5, z6, z7⟩
      unfold rq8
      go_simp
    simp only [rq8d, Act.put, List.setIfInBounds_toArray, List.set_cons_zero, List.set_cons_succ]
    refine wpAnyH_take (i := 9) (oi := rq9) (v := .bool false) rfl (by kernel_rfl) (by kernel_rfl) (by kernel_rfl) (fun c _ w h => hQP c _ _ _ w h) (Or.inl ⟨by rfl, ?_⟩) hS ?_
    · rintro w ⟨z1, z2, z3, z4, z5, z6, z7⟩
      unfold rq9
      go_simp
    simp only [rq9d, Act.put, List.setIfInBounds_toArray, List.set_cons_zero, List.set_cons_succ]
    refine wpAnyH_take (i := 10) (oi := rq10) (v := .pointer (some ⟨p, 10, none⟩)) rfl (by kernel_rfl) (by kernel_rfl) (by kernel_rfl) (fun c _ w h => hQP c _ _ _ w h) (Or.inl ⟨by rfl, ?_⟩) hS ?_
    · rintro w ⟨z1, z2, z3, z4, z5, z6, z7⟩
      unfold rq10
      go_simp
    simp only [rq10d, Act.put, List.setIfInBounds_toArray, List.set_cons_zero, List.set_cons_succ]
    refine wpAnyH_take (i := 11) (oi := rq11) (v := .slice ad blocks cap) rfl (by kernel_rfl) (by kernel_rfl) (by kernel_rfl) (fun c _ w h => hQP c _ _ _ w h) (Or.inl ⟨by rfl, ?_⟩) hS ?_
    · rintro w ⟨z1, z2, z3, z4, z5, z6, z7⟩
      unfold rq11
      go_simp
    simp only [rq11d, Act.put, List.setIfInBounds_toArray, List.set_cons_zero, List.set_cons_succ]
    refine wpAnyH_take (i := 12) (oi := rq12) (v := .int .i64 (blocks : Int)) rfl (by kernel_rfl) (by kernel_rfl) (by kernel_rfl) (fun c _ w h => hQP c _ _ _ w h) (Or.inl ⟨by rfl, ?_⟩) hS ?_
    · rintro w ⟨z1, z2, z3, z4, z5, z6, z7⟩
      unfold rq12
      go_simp
    simp only [rq12d, Act.put, List.setIfInBounds_toArray, List.set_cons_zero, List.set_cons_succ]
    refine wpAnyH_take (i := 13) (oi := rq13) (v := .int .i64 (mm : Int)) rfl (by kernel_rfl) (by kernel_rfl) (by kernel_rfl) (fun c _ w h => hQP c _ _ _ w h) (Or.inl ⟨by rfl, ?_⟩) hS ?_
    · rintro w ⟨z1, z2, z3, z4, z5, z6, z7⟩
      unfold rq13
      go_simp
    simp only [rq13d, Act.put, List.setIfInBounds_toArray, List.set_cons_zero, List.set_cons_succ]
    cases q2 : decide ((mm : Int) < (blocks : Int))
    · refine wpAnyH_take (i := 14) (oi := rq14) (v := .bool false) rfl (by kernel_rfl) (by kernel_rfl) (by kernel_rfl) (fun c _ w h => hQP c _ _ _ w h) (Or.inl ⟨by rfl, ?_⟩) hS ?_
      · rintro w ⟨z1, z2, z3, z4, z5, z6, z7⟩
        unfold rq14
        go_simp
        all_goals (have hq := q2; simp at hq ⊢; first | omega | assumption | exact hq | grind)
      simp only [rq14d, Act.put, List.setIfInBounds_toArray, List.set_cons_zero, List.set_cons_succ]
      refine wpAnyH_take (i := 15) (oi := rq15) (v := .bool false) rfl (by kernel_rfl) (by kernel_rfl) (by kernel_rfl) (fun c _ w h => hQP c _ _ _ w h) (Or.inl ⟨by rfl, ?_⟩) hS ?_
      · rintro w ⟨z1, z2, z3, z4, z5, z6, z7⟩
        unfold rq15
        go_simp
      simp only [rq15d, Act.put, List.setIfInBounds_toArray, List.set_cons_zero, List.set_cons_succ]
      refine wpAnyH_take (i := 16) (oi := rq16) (v := .bool false) rfl (by kernel_rfl) (by kernel_rfl) (by kernel_rfl) (fun c _ w h => hQP c _ _ _ w h) (Or.inl ⟨by rfl, ?_⟩) hS ?_
      · rintro w ⟨z1, z2, z3, z4, z5, z6, z7⟩
        unfold rq16
        go_simp
      simp only [rq16d, Act.put, List.setIfInBounds_toArray, List.set_cons_zero, List.set_cons_succ]
      refine wpAnyH_take (i := 17) (oi := rq17) (v := .slice (some ⟨g, 0, none⟩) 4 4) rfl (by kernel_rfl) (by kernel_rfl) (by kernel_rfl) (fun c _ w h => hQP c _ _ _ w h) (Or.inl ⟨by rfl, ?_⟩) hS ?_
      · rintro w ⟨z1, z2, z3, z4, z5, z6, z7⟩
        unfold rq17
        go_simp
      simp only [rq17d, Act.put, List.setIfInBounds_toArray, List.set_cons_zero, List.set_cons_succ]
      refine wpAnyH_take (i := 18) (oi := rq18) (v := .pointer (some ⟨g, 0, none⟩)) rfl (by kernel_rfl) (by kernel_rfl) (by kernel_rfl) (fun c _ w h => hQP c _ _ _ w h) (Or.inl ⟨by rfl, ?_⟩) hS ?_
      · rintro w ⟨z1, z2, z3, z4, z5, z6, z7⟩
        unfold rq18
        go_simp
      simp only [rq18d, Act.put, List.setIfInBounds_toArray, List.set_cons_zero, List.set_cons_succ]
      refine wpAnyH_take (i := 19) (oi := rq19) (v := .bool fm) rfl (by kernel_rfl) (by kernel_rfl) (by kernel_rfl) (fun c _ w h => hQP c _ _ _ w h) (Or.inl ⟨by rfl, ?_⟩) hS ?_
      · rintro w ⟨z1, z2, z3, z4, z5, z6, z7⟩
        unfold rq19
        go_simp
      simp only [rq19d, Act.put, List.setIfInBounds_toArray, List.set_cons_zero, List.set_cons_succ]
      refine wpAnyH_take (i := 20) (oi := rq20) (v := .pointer (some ⟨p, 1, none⟩)) rfl (by kernel_rfl) (by kernel_rfl) (by kernel_rfl) (fun c _ w h => hQP c _ _ _ w h) (Or.inl ⟨by rfl, ?_⟩) hS ?_
      · rintro w ⟨z1, z2, z3, z4, z5, z6, z7⟩
        unfold rq20
        go_simp
      simp only [rq20d, Act.put, List.setIfInBounds_toArray, List.set_cons_zero, List.set_cons_succ]
      refine wpAnyH_take (i := 21) (oi := rq21) (v := .string mon) rfl (by kernel_rfl) (by kernel_rfl) (by kernel_rfl) (fun c _ w h => hQP c _ _ _ w h) (Or.inl ⟨by rfl, ?_⟩) hS ?_
      · rintro w ⟨z1, z2, z3, z4, z5, z6, z7⟩
        unfold rq21
        go_simp
      simp only [rq21d, Act.put, List.setIfInBounds_toArray, List.set_cons_zero, List.set_cons_succ]
      refine wpAnyH_take (i := 22) (oi := rq22) (v := .bool (!mon.toList.isEmpty)) rfl (by kernel_rfl) (by kernel_rfl) (by kernel_rfl) (fun c _ w h => hQP c _ _ _ w h) (Or.inl ⟨by rfl, ?_⟩) hS ?_
      · rintro w ⟨z1, z2, z3, z4, z5, z6, z7⟩
        unfold rq22
        go_simp
      simp only [rq22d, Act.put, List.setIfInBounds_toArray, List.set_cons_zero, List.set_cons_succ]
      cases q3 : (fm != !mon.toList.isEmpty)
      · refine wpAnyH_take (i := 23) (oi := rq23) (v := .bool false) rfl (by kernel_rfl) (by kernel_rfl) (by kernel_rfl) (fun c _ w h => hQP c _ _ _ w h) (Or.inl ⟨by rfl, ?_⟩) hS ?_
        · rintro w ⟨z1, z2, z3, z4, z5, z6, z7⟩
          unfold rq23
          go_simp
          all_goals (have hq := q3; simp at hq ⊢; first | omega | assumption | exact hq | grind)
        simp only [rq23d, Act.put, List.setIfInBounds_toArray, List.set_cons_zero, List.set_cons_succ]
        refine wpAnyH_take (i := 24) (oi := rq24) (v := .bool false) rfl (by kernel_rfl) (by kernel_rfl) (by kernel_rfl) (fun c _ w h => hQP c _ _ _ w h) (Or.inl ⟨by rfl, ?_⟩) hS ?_
        · rintro w ⟨z1, z2, z3, z4, z5, z6, z7⟩
          unfold rq24
          go_simp
        simp only [rq24d, Act.put, List.setIfInBounds_toArray, List.set_cons_zero, List.set_cons_succ]
        refine wpAnyH_take (i := 25) (oi := rq25) (v := .bool false) rfl (by kernel_rfl) (by kernel_rfl) (by kernel_rfl) (fun c _ w h => hQP c _ _ _ w h) (Or.inl ⟨by rfl, ?_⟩) hS ?_
        · rintro w ⟨z1, z2, z3, z4, z5, z6, z7⟩
          unfold rq25
          go_simp
        simp only [rq25d, Act.put, List.setIfInBounds_toArray, List.set_cons_zero, List.set_cons_succ]
        refine wpAnyH_take (i := 26) (oi := rq26) (v := .slice (some ⟨g, 0, none⟩) 4 4) rfl (by kernel_rfl) (by kernel_rfl) (by kernel_rfl) (fun c _ w h => hQP c _ _ _ w h) (Or.inl ⟨by rfl, ?_⟩) hS ?_
        · rintro w ⟨z1, z2, z3, z4, z5, z6, z7⟩
          unfold rq26
          go_simp
        simp only [rq26d, Act.put, List.setIfInBounds_toArray, List.set_cons_zero, List.set_cons_succ]
        refine wpAnyH_take (i := 27) (oi := rq27) (v := .pointer (some ⟨g, 1, none⟩)) rfl (by kernel_rfl) (by kernel_rfl) (by kernel_rfl) (fun c _ w h => hQP c _ _ _ w h) (Or.inl ⟨by rfl, ?_⟩) hS ?_
        · rintro w ⟨z1, z2, z3, z4, z5, z6, z7⟩
          unfold rq27
          go_simp
        simp only [rq27d, Act.put, List.setIfInBounds_toArray, List.set_cons_zero, List.set_cons_succ]
        refine wpAnyH_take (i := 28) (oi := rq28) (v := .bool fn) rfl (by kernel_rfl) (by kernel_rfl) (by kernel_rfl) (fun c _ w h => hQP c _ _ _ w h) (Or.inl ⟨by rfl, ?_⟩) hS ?_
        · rintro w ⟨z1, z2, z3, z4, z5, z6, z7⟩
          unfold rq28
          go_simp
        simp only [rq28d, Act.put, List.setIfInBounds_toArray, List.set_cons_zero, List.set_cons_succ]
        refine wpAnyH_take (i := 29) (oi := rq29) (v := .pointer (some ⟨p, 2, none⟩)) rfl (by kernel_rfl) (by kernel_rfl) (by kernel_rfl) (fun c _ w h => hQP c _ _ _ w h) (Or.inl ⟨by rfl, ?_⟩) hS ?_
        · rintro w ⟨z1, z2, z3, z4, z5, z6, z7⟩
          unfold rq29
          go_simp
        simp only [rq29d, Act.put, List.setIfInBounds_toArray, List.set_cons_zero, List.set_cons_succ]
        refine wpAnyH_take (i := 30) (oi := rq30) (v := .string name) rfl (by kernel_rfl) (by kernel_rfl) (by kernel_rfl) (fun c _ w h => hQP c _ _ _ w h) (Or.inl ⟨by rfl, ?_⟩) hS ?_
        · rintro w ⟨z1, z2, z3, z4, z5, z6, z7⟩
          unfold rq30
          go_simp
        simp only [rq30d, Act.put, List.setIfInBounds_toArray, List.set_cons_zero, List.set_cons_succ]
        refine wpAnyH_take (i := 31) (oi := rq31) (v := .bool (!name.toList.isEmpty)) rfl (by kernel_rfl) (by kernel_rfl) (by kernel_rfl) (fun c _ w h => hQP c _ _ _ w h) (Or.inl ⟨by rfl, ?_⟩) hS ?_
        · rintro w ⟨z1, z2, z3, z4, z5, z6, z7⟩
          unfold rq31
          go_simp
        simp only [rq31d, Act.put, List.setIfInBounds_toArray, List.set_cons_zero, List.set_cons_succ]
        cases q4 : (fn != !name.toList.isEmpty)
        · refine wpAnyH_take (i := 32) (oi := rq32) (v := .bool false) rfl (by kernel_rfl) (by kernel_rfl) (by kernel_rfl) (fun c _ w h => hQP c _ _ _ w h) (Or.inl ⟨by rfl, ?_⟩) hS ?_
          · rintro w ⟨z1, z2, z3, z4, z5, z6, z7⟩
            unfold rq32
            go_simp
            all_goals (have hq := q4; simp at hq ⊢; first | omega | assumption | exact hq | grind)
          simp only [rq32d, Act.put, List.setIfInBounds_toArray, List.set_cons_zero, List.set_cons_succ]
          refine wpAnyH_take (i := 33) (oi := rq33) (v := .bool false) rfl (by kernel_rfl) (by kernel_rfl) (by kernel_rfl) (fun c _ w h => hQP c _ _ _ w h) (Or.inl ⟨by rfl, ?_⟩) hS ?_
          · rintro w ⟨z1, z2, z3, z4, z5, z6, z7⟩
            unfold rq33
            go_simp
          simp only [rq33d, Act.put, List.setIfInBounds_toArray, List.set_cons_zero, List.set_cons_succ]
          refine wpAnyH_take (i := 34) (oi := rq34) (v := .bool false) rfl (by kernel_rfl) (by kernel_rfl) (by kernel_rfl) (fun c _ w h => hQP c _ _ _ w h) (Or.inl ⟨by rfl, ?_⟩) hS ?_
          · rintro w ⟨z1, z2, z3, z4, z5, z6, z7⟩
            unfold rq34
            go_simp
          simp only [rq34d, Act.put, List.setIfInBounds_toArray, List.set_cons_zero, List.set_cons_succ]
          refine wpAnyH_take (i := 35) (oi := rq35) (v := .slice (some ⟨g, 0, none⟩) 4 4) rfl (by kernel_rfl) (by kernel_rfl) (by kernel_rfl) (fun c _ w h => hQP c _ _ _ w h) (Or.inl ⟨by rfl, ?_⟩) hS ?_
          · rintro w ⟨z1, z2, z3, z4, z5, z6, z7⟩
            unfold rq35
            go_simp
          simp only [rq35d, Act.put, List.setIfInBounds_toArray, List.set_cons_zero, List.set_cons_succ]
          refine wpAnyH_take (i := 36) (oi := rq36) (v := .pointer (some ⟨g, 0, none⟩)) rfl (by kernel_rfl) (by kernel_rfl) (by kernel_rfl) (fun c _ w h => hQP c _ _ _ w h) (Or.inl ⟨by rfl, ?_⟩) hS ?_
          · rintro w ⟨z1, z2, z3, z4, z5, z6, z7⟩
            unfold rq36
            go_simp
          simp only [rq36d, Act.put, List.setIfInBounds_toArray, List.set_cons_zero, List.set_cons_succ]
          cases fm
          · refine wpAnyH_take (i := 37) (oi := rq37) (v := .bool false) rfl (by kernel_rfl) (by kernel_rfl) (by kernel_rfl) (fun c _ w h => hQP c _ _ _ w h) (Or.inl ⟨by rfl, ?_⟩) hS ?_
            · rintro w ⟨z1, z2, z3, z4, z5, z6, z7⟩
              unfold rq37
              go_simp
            simp only [rq37d, Act.put, List.setIfInBounds_toArray, List.set_cons_zero, List.set_cons_succ]
            refine wpAnyH_take (i := 38) (oi := rq38) (v := .bool false) rfl (by kernel_rfl) (by kernel_rfl) (by kernel_rfl) (fun c _ w h => hQP c _ _ _ w h) (Or.inl ⟨by rfl, ?_⟩) hS ?_
            · rintro w ⟨z1, z2, z3, z4, z5, z6, z7⟩
              unfold rq38
              go_simp
            simp only [rq38d, Act.put, List.setIfInBounds_toArray, List.set_cons_zero, List.set_cons_succ]
            refine wpAnyH_take (i := 39) (oi := rq39) (v := undef) rfl (by kernel_rfl) (by kernel_rfl) (by kernel_rfl) (fun c _ w h => hQP c _ _ _ w h) (Or.inr ⟨by rfl, rfl⟩) hS ?_
            simp only [rq39d, Act.put, List.setIfInBounds_toArray, List.set_cons_zero, List.set_cons_succ]
            refine wpAnyH_take (i := 40) (oi := rq40) (v := undef) rfl (by kernel_rfl) (by kernel_rfl) (by kernel_rfl) (fun c _ w h => hQP c _ _ _ w h) (Or.inr ⟨by rfl, rfl⟩) hS ?_
            simp only [rq40d, Act.put, List.setIfInBounds_toArray, List.set_cons_zero, List.set_cons_succ]
            refine wpAnyH_take (i := 41) (oi := rq41) (v := undef) rfl (by kernel_rfl) (by kernel_rfl) (by kernel_rfl) (fun c _ w h => hQP c _ _ _ w h) (Or.inr ⟨by rfl, rfl⟩) hS ?_
            simp only [rq41d, Act.put, List.setIfInBounds_toArray, List.set_cons_zero, List.set_cons_succ]
            refine wpAnyH_take (i := 42) (oi := rq42) (v := undef) rfl (by kernel_rfl) (by kernel_rfl) (by kernel_rfl) (fun c _ w h => hQP c _ _ _ w h) (Or.inr ⟨by rfl, rfl⟩) hS ?_
            simp only [rq42d, Act.put, List.setIfInBounds_toArray, List.set_cons_zero, List.set_cons_succ]
            refine wpAnyH_take (i := 43) (oi := rq43) (v := .bool false) rfl (by kernel_rfl) (by kernel_rfl) (by kernel_rfl) (fun c _ w h => hQP c _ _ _ w h) (Or.inl ⟨by rfl, ?_⟩) hS ?_
            · rintro w ⟨z1, z2, z3, z4, z5, z6, z7⟩
              unfold rq43
              go_simp
            simp only [rq43d, Act.put, List.setIfInBounds_toArray, List.set_cons_zero, List.set_cons_succ]
            refine wpAnyH_take (i := 44) (oi := rq44) (v := .bool false) rfl (by kernel_rfl) (by kernel_rfl) (by kernel_rfl) (fun c _ w h => hQP c _ _ _ w h) (Or.inl ⟨by rfl, ?_⟩) hS ?_
            · rintro w ⟨z1, z2, z3, z4, z5, z6, z7⟩
              unfold rq44
              go_simp
            simp only [rq44d, Act.put, List.setIfInBounds_toArray, List.set_cons_zero, List.set_cons_succ]
            refine wpAnyH_take (i := 45) (oi := rq45) (v := .bool false) rfl (by kernel_rfl) (by kernel_rfl) (by kernel_rfl) (fun c _ w h => hQP c _ _ _ w h) (Or.inl ⟨by rfl, ?_⟩) hS ?_
            · rintro w ⟨z1, z2, z3, z4, z5, z6, z7⟩
              unfold rq45
              go_simp
            simp only [rq45d, Act.put, List.setIfInBounds_toArray, List.set_cons_zero, List.set_cons_succ]
            refine wpAnyH_take (i := 46) (oi := rq46) (v := .slice (some ⟨g, 0, none⟩) 4 4) rfl (by kernel_rfl) (by kernel_rfl) (by kernel_rfl) (fun c _ w h => hQP c _ _ _ w h) (Or.inl ⟨by rfl, ?_⟩) hS ?_
            · rintro w ⟨z1, z2, z3, z4, z5, z6, z7⟩
              unfold rq46
              go_simp
            simp only [rq46d, Act.put, List.setIfInBounds_toArray, List.set_cons_zero, List.set_cons_succ]
            refine wpAnyH_take (i := 47) (oi := rq47) (v := .pointer (some ⟨g, 1, none⟩)) rfl (by kernel_rfl) (by kernel_rfl) (by kernel_rfl) (fun c _ w h => hQP c _ _ _ w h) (Or.inl ⟨by rfl, ?_⟩) hS ?_
            · rintro w ⟨z1, z2, z3, z4, z5, z6, z7⟩
              unfold rq47
              go_simp
            simp only [rq47d, Act.put, List.setIfInBounds_toArray, List.set_cons_zero, List.set_cons_succ]
            cases fn
            · refine wpAnyH_take (i := 48) (oi := rq48) (v := .bool false) rfl (by kernel_rfl) (by kernel_rfl) (by kernel_rfl) (fun c _ w h => hQP c _ _ _ w h) (Or.inl ⟨by rfl, ?_⟩) hS ?_
              · rintro w ⟨z1, z2, z3, z4, z5, z6, z7⟩
                unfold rq48
                go_simp
              simp only [rq48d, Act.put, List.setIfInBounds_toArray, List.set_cons_zero, List.set_cons_succ]
              refine wpAnyH_take (i := 49) (oi := rq49) (v := .bool false) rfl (by kernel_rfl) (by kernel_rfl) (by kernel_rfl) (fun c _ w h => hQP c _ _ _ w h) (Or.inl ⟨by rfl, ?_⟩) hS ?_
              · rintro w ⟨z1, z2, z3, z4, z5, z6, z7⟩
                unfold rq49
                go_simp
              simp only [rq49d, Act.put, List.setIfInBounds_toArray, List.set_cons_zero, List.set_cons_succ]
              refine wpAnyH_take (i := 50) (oi := rq50) (v := undef) rfl (by kernel_rfl) (by kernel_rfl) (by kernel_rfl) (fun c _ w h => hQP c _ _ _ w h) (Or.inr ⟨by rfl, rfl⟩) hS ?_
              simp only [rq50d, Act.put, List.setIfInBounds_toArray, List.set_cons_zero, List.set_cons_succ]
              refine wpAnyH_take (i := 51) (oi := rq51) (v := undef) rfl (by kernel_rfl) (by kernel_rfl) (by kernel_rfl) (fun c _ w h => hQP c _ _ _ w h) (Or.inr ⟨by rfl, rfl⟩) hS ?_
              simp only [rq51d, Act.put, List.setIfInBounds_toArray, List.set_cons_zero, List.set_cons_succ]
              refine wpAnyH_take (i := 52) (oi := rq52) (v := undef) rfl (by kernel_rfl) (by kernel_rfl) (by kernel_rfl) (fun c _ w h => hQP c _ _ _ w h) (Or.inr ⟨by rfl, rfl⟩) hS ?_
              simp only [rq52d, Act.put, List.setIfInBounds_toArray, List.set_cons_zero, List.set_cons_succ]
              refine wpAnyH_take (i := 53) (oi := rq53) (v := undef) rfl (by kernel_rfl) (by kernel_rfl) (by kernel_rfl) (fun c _ w h => hQP c _ _ _ w h) (Or.inr ⟨by rfl, rfl⟩) hS ?_
              simp only [rq53d, Act.put, List.setIfInBounds_toArray, List.set_cons_zero, List.set_cons_succ]
              refine wpAnyH_take (i := 54) (oi := rq54) (v := .bool false) rfl (by kernel_rfl) (by kernel_rfl) (by kernel_rfl) (fun c _ w h => hQP c _ _ _ w h) (Or.inl ⟨by rfl, ?_⟩) hS ?_
              · rintro w ⟨z1, z2, z3, z4, z5, z6, z7⟩
                unfold rq54
                go_simp
              simp only [rq54d, Act.put, List.setIfInBounds_toArray, List.set_cons_zero, List.set_cons_succ]
              refine wpAnyH_take (i := 55) (oi := rq55) (v := .bool false) rfl (by kernel_rfl) (by kernel_rfl) (by kernel_rfl) (fun c _ w h => hQP c _ _ _ w h) (Or.inl ⟨by rfl, ?_⟩) hS ?_
              · rintro w ⟨z1, z2, z3, z4, z5, z6, z7⟩
                unfold rq55
                go_simp
              simp only [rq55d, Act.put, List.setIfInBounds_toArray, List.set_cons_zero, List.set_cons_succ]
              refine wpAnyH_take (i := 56) (oi := rq56) (v := .bool false) rfl (by kernel_rfl) (by kernel_rfl) (by kernel_rfl) (fun c _ w h => hQP c _ _ _ w h) (Or.inl ⟨by rfl, ?_⟩) hS ?_
              · rintro w ⟨z1, z2, z3, z4, z5, z6, z7⟩
                unfold rq56
                go_simp
              simp only [rq56d, Act.put, List.setIfInBounds_toArray, List.set_cons_zero, List.set_cons_succ]
              refine wpAnyH_take (i := 57) (oi := rq57) (v := .pointer (some ⟨p, 3, none⟩)) rfl (by kernel_rfl) (by kernel_rfl) (by kernel_rfl) (fun c _ w h => hQP c _ _ _ w h) (Or.inl ⟨by rfl, ?_⟩) hS ?_
              · rintro w ⟨z1, z2, z3, z4, z5, z6, z7⟩
                unfold rq57
                go_simp
              simp only [rq57d, Act.put, List.setIfInBounds_toArray, List.set_cons_zero, List.set_cons_succ]
              refine wpAnyH_take (i := 58) (oi := rq58) (v := .int .i64 n) rfl (by kernel_rfl) (by kernel_rfl) (by kernel_rfl) (fun c _ w h => hQP c _ _ _ w h) (Or.inl ⟨by rfl, ?_⟩) hS ?_
              · rintro w ⟨z1, z2, z3, z4, z5, z6, z7⟩
                unfold rq58
                go_simp
              simp only [rq58d, Act.put, List.setIfInBounds_toArray, List.set_cons_zero, List.set_cons_succ]
              cases q7 : decide (n < 0)
              · refine wpAnyH_take (i := 59) (oi := rq59) (v := .bool false) rfl (by kernel_rfl) (by kernel_rfl) (by kernel_rfl) (fun c _ w h => hQP c _ _ _ w h) (Or.inl ⟨by rfl, ?_⟩) hS ?_
                · rintro w ⟨z1, z2, z3, z4, z5, z6, z7⟩
                  unfold rq59
                  go_simp
                  all_goals (have hq := q7; simp at hq ⊢; first | omega | assumption | exact hq | grind)
                simp only [rq59d, Act.put, List.setIfInBounds_toArray, List.set_cons_zero, List.set_cons_succ]
                refine wpAnyH_take (i := 60) (oi := rq60) (v := .bool false) rfl (by kernel_rfl) (by kernel_rfl) (by kernel_rfl) (fun c _ w h => hQP c _ _ _ w h) (Or.inl ⟨by rfl, ?_⟩) hS ?_
                · rintro w ⟨z1, z2, z3, z4, z5, z6, z7⟩
                  unfold rq60
                  go_simp
                simp only [rq60d, Act.put, List.setIfInBounds_toArray, List.set_cons_zero, List.set_cons_succ]
                refine wpAnyH_take (i := 61) (oi := rq61) (v := .bool false) rfl (by kernel_rfl) (by kernel_rfl) (by kernel_rfl) (fun c _ w h => hQP c _ _ _ w h) (Or.inl ⟨by rfl, ?_⟩) hS ?_
                · rintro w ⟨z1, z2, z3, z4, z5, z6, z7⟩
                  unfold rq61
                  go_simp
                simp only [rq61d, Act.put, List.setIfInBounds_toArray, List.set_cons_zero, List.set_cons_succ]
                refine wpAnyH_take (i := 62) (oi := rq62) (v := .slice (some ⟨g, 0, none⟩) 4 4) rfl (by kernel_rfl) (by kernel_rfl) (by kernel_rfl) (fun c _ w h => hQP c _ _ _ w h) (Or.inl ⟨by rfl, ?_⟩) hS ?_
                · rintro w ⟨z1, z2, z3, z4, z5, z6, z7⟩
                  unfold rq62
                  go_simp
                simp only [rq62d, Act.put, List.setIfInBounds_toArray, List.set_cons_zero, List.set_cons_succ]
                refine wpAnyH_take (i := 63) (oi := rq63) (v := .pointer (some ⟨g, 2, none⟩)) rfl (by kernel_rfl) (by kernel_rfl) (by kernel_rfl) (fun c _ w h => hQP c _ _ _ w h) (Or.inl ⟨by rfl, ?_⟩) hS ?_
                · rintro w ⟨z1, z2, z3, z4, z5, z6, z7⟩
                  unfold rq63
                  go_simp
                simp only [rq63d, Act.put, List.setIfInBounds_toArray, List.set_cons_zero, List.set_cons_succ]
                cases fu
                · refine wpAnyH_take (i := 64) (oi := rq64) (v := .bool false) rfl (by kernel_rfl) (by kernel_rfl) (by kernel_rfl) (fun c _ w h => hQP c _ _ _ w h) (Or.inl ⟨by rfl, ?_⟩) hS ?_
                  · rintro w ⟨z1, z2, z3, z4, z5, z6, z7⟩
                    unfold rq64
                    go_simp
                  simp only [rq64d, Act.put, List.setIfInBounds_toArray, List.set_cons_zero, List.set_cons_succ]
                  refine wpAnyH_take (i := 65) (oi := rq65) (v := .bool true) rfl (by kernel_rfl) (by kernel_rfl) (by kernel_rfl) (fun c _ w h => hQP c _ _ _ w h) (Or.inl ⟨by rfl, ?_⟩) hS ?_
                  · rintro w ⟨z1, z2, z3, z4, z5, z6, z7⟩
                    unfold rq65
                    go_simp
                  simp only [rq65d, Act.put, List.setIfInBounds_toArray, List.set_cons_zero, List.set_cons_succ]
                  refine wpAnyH_take (i := 66) (oi := rq66) (v := .bool true) rfl (by kernel_rfl) (by kernel_rfl) (by kernel_rfl) (fun c _ w h => hQP c _ _ _ w h) (Or.inl ⟨by rfl, ?_⟩) hS ?_
                  · rintro w ⟨z1, z2, z3, z4, z5, z6, z7⟩
                    unfold rq66
                    go_simp
                  simp only [rq66d, Act.put, List.setIfInBounds_toArray, List.set_cons_zero, List.set_cons_succ]
                  refine wpAnyH_take (i := 67) (oi := rq67) (v := .pointer (some ⟨p, 3, none⟩)) rfl (by kernel_rfl) (by kernel_rfl) (by kernel_rfl) (fun c _ w h => hQP c _ _ _ w h) (Or.inl ⟨by rfl, ?_⟩) hS ?_
                  · rintro w ⟨z1, z2, z3, z4, z5, z6, z7⟩
                    unfold rq67
                    go_simp
                  simp only [rq67d, Act.put, List.setIfInBounds_toArray, List.set_cons_zero, List.set_cons_succ]
                  refine wpAnyH_take (i := 68) (oi := rq68) (v := .int .i64 n) rfl (by kernel_rfl) (by kernel_rfl) (by kernel_rfl) (fun c _ w h => hQP c _ _ _ w h) (Or.inl ⟨by rfl, ?_⟩) hS ?_
                  · rintro w ⟨z1, z2, z3, z4, z5, z6, z7⟩
                    unfold rq68
                    go_simp
                  simp only [rq68d, Act.put, List.setIfInBounds_toArray, List.set_cons_zero, List.set_cons_succ]
                  cases q8 : (n != 0)
                  · refine wpAnyH_take (i := 69) (oi := rq69) (v := .bool false) rfl (by kernel_rfl) (by kernel_rfl) (by kernel_rfl) (fun c _ w h => hQP c _ _ _ w h) (Or.inl ⟨by rfl, ?_⟩) hS ?_
                    · rintro w ⟨z1, z2, z3, z4, z5, z6, z7⟩
                      unfold rq69
                      go_simp
                      all_goals (have hq := q8; simp at hq ⊢; first | omega | assumption | exact hq | grind)
                    simp only [rq69d, Act.put, List.setIfInBounds_toArray, List.set_cons_zero, List.set_cons_succ]
                    refine wpAnyH_take (i := 70) (oi := rq70) (v := .bool false) rfl (by kernel_rfl) (by kernel_rfl) (by kernel_rfl) (fun c _ w h => hQP c _ _ _ w h) (Or.inl ⟨by rfl, ?_⟩) hS ?_
                    · rintro w ⟨z1, z2, z3, z4, z5, z6, z7⟩
                      unfold rq70
                      go_simp
                    simp only [rq70d, Act.put, List.setIfInBounds_toArray, List.set_cons_zero, List.set_cons_succ]
                    refine wpAnyH_take (i := 71) (oi := rq71) (v := .bool false) rfl (by kernel_rfl) (by kernel_rfl) (by kernel_rfl) (fun c _ w h => hQP c _ _ _ w h) (Or.inl ⟨by rfl, ?_⟩) hS ?_
                    · rintro w ⟨z1, z2, z3, z4, z5, z6, z7⟩
                      unfold rq71
                      go_simp
                    simp only [rq71d, Act.put, List.setIfInBounds_toArray, List.set_cons_zero, List.set_cons_succ]
                    exact wpAnyH_done (by kernel_rfl) (hQ _ _ _ _ _ _ _ _ _ _ _ _ _ _ _ _ _ _ _ _ _ _ _ _ _ _ _ _ _ _ _ _ _ _ _ _ _ _ _ _ _ _ _ _ _ _ _ _ _ _ _ _ _ _ _ _ _ _ _ _ _ _ _ _ _ _ _ _ _ _ _ _ _ (by first | rfl | (simp only [q1, q2, q3, q4, q7, q8]; rfl) | simp [q1, q2, q3, q4, q7, q8]) B) _
                  · refine wpAnyH_take (i := 69) (oi := rq69) (v := .bool true) rfl (by kernel_rfl) (by kernel_rfl) (by kernel_rfl) (fun c _ w h => hQP c _ _ _ w h) (Or.inl ⟨by rfl, ?_⟩) hS ?_
                    · rintro w ⟨z1, z2, z3, z4, z5, z6, z7⟩
                      unfold rq69
                      go_simp
                      all_goals (have hq := q8; simp at hq ⊢; first | omega | assumption | exact hq | grind)
                    simp only [rq69d, Act.put, List.setIfInBounds_toArray, List.set_cons_zero, List.set_cons_succ]
                    refine wpAnyH_take (i := 70) (oi := rq70) (v := .bool true) rfl (by kernel_rfl) (by kernel_rfl) (by kernel_rfl) (fun c _ w h => hQP c _ _ _ w h) (Or.inl ⟨by rfl, ?_⟩) hS ?_
                    · rintro w ⟨z1, z2, z3, z4, z5, z6, z7⟩
                      unfold rq70
                      go_simp
                    simp only [rq70d, Act.put, List.setIfInBounds_toArray, List.set_cons_zero, List.set_cons_succ]
                    refine wpAnyH_take (i := 71) (oi := rq71) (v := .bool true) rfl (by kernel_rfl) (by kernel_rfl) (by kernel_rfl) (fun c _ w h => hQP c _ _ _ w h) (Or.inl ⟨by rfl, ?_⟩) hS ?_
                    · rintro w ⟨z1, z2, z3, z4, z5, z6, z7⟩
                      unfold rq71
                      go_simp
                    simp only [rq71d, Act.put, List.setIfInBounds_toArray, List.set_cons_zero, List.set_cons_succ]
                    exact wpAnyH_done (by kernel_rfl) (hQ _ _ _ _ _ _ _ _ _ _ _ _ _ _ _ _ _ _ _ _ _ _ _ _ _ _ _ _ _ _ _ _ _ _ _ _ _ _ _ _ _ _ _ _ _ _ _ _ _ _ _ _ _ _ _ _ _ _ _ _ _ _ _ _ _ _ _ _ _ _ _ _ _ (by first | rfl | (simp only [q1, q2, q3, q4, q7, q8]; rfl) | simp [q1, q2, q3, q4, q7, q8]) B) _
                · refine wpAnyH_take (i := 64) (oi := rq64) (v := .bool true) rfl (by kernel_rfl) (by kernel_rfl) (by kernel_rfl) (fun c _ w h => hQP c _ _ _ w h) (Or.inl ⟨by rfl, ?_⟩) hS ?_
                  · rintro w ⟨z1, z2, z3, z4, z5, z6, z7⟩
                    unfold rq64
                    go_simp
                  simp only [rq64d, Act.put, List.setIfInBounds_toArray, List.set_cons_zero, List.set_cons_succ]
                  refine wpAnyH_take (i := 65) (oi := rq65) (v := .bool false) rfl (by kernel_rfl) (by kernel_rfl) (by kernel_rfl) (fun c _ w h => hQP c _ _ _ w h) (Or.inl ⟨by rfl, ?_⟩) hS ?_
                  · rintro w ⟨z1, z2, z3, z4, z5, z6, z7⟩
                    unfold rq65
                    go_simp
                  simp only [rq65d, Act.put, List.setIfInBounds_toArray, List.set_cons_zero, List.set_cons_succ]
                  refine wpAnyH_take (i := 66) (oi := rq66) (v := .bool false) rfl (by kernel_rfl) (by kernel_rfl) (by kernel_rfl) (fun c _ w h => hQP c _ _ _ w h) (Or.inl ⟨by rfl, ?_⟩) hS ?_
                  · rintro w ⟨z1, z2, z3, z4, z5, z6, z7⟩
                    unfold rq66
                    go_simp
                  simp only [rq66d, Act.put, List.setIfInBounds_toArray, List.set_cons_zero, List.set_cons_succ]
                  refine wpAnyH_take (i := 67) (oi := rq67) (v := undef) rfl (by kernel_rfl) (by kernel_rfl) (by kernel_rfl) (fun c _ w h => hQP c _ _ _ w h) (Or.inr ⟨by rfl, rfl⟩) hS ?_
                  simp only [rq67d, Act.put, List.setIfInBounds_toArray, List.set_cons_zero, List.set_cons_succ]
                  refine wpAnyH_take (i := 68) (oi := rq68) (v := undef) rfl (by kernel_rfl) (by kernel_rfl) (by kernel_rfl) (fun c _ w h => hQP c _ _ _ w h) (Or.inr ⟨by rfl, rfl⟩) hS ?_
                  simp only [rq68d, Act.put, List.setIfInBounds_toArray, List.set_cons_zero, List.set_cons_succ]
                  refine wpAnyH_take (i := 69) (oi := rq69) (v := undef) rfl (by kernel_rfl) (by kernel_rfl) (by kernel_rfl) (fun c _ w h => hQP c _ _ _ w h) (Or.inr ⟨by rfl, rfl⟩) hS ?_
                  simp only [rq69d, Act.put, List.setIfInBounds_toArray, List.set_cons_zero, List.set_cons_succ]
                  refine wpAnyH_take (i := 70) (oi := rq70) (v := .bool false) rfl (by kernel_rfl) (by kernel_rfl) (by kernel_rfl) (fun c _ w h => hQP c _ _ _ w h) (Or.inl ⟨by rfl, ?_⟩) hS ?_
                  · rintro w ⟨z1, z2, z3, z4, z5, z6, z7⟩
                    unfold rq70
                    go_simp
                  simp only [rq70d, Act.put, List.setIfInBounds_toArray, List.set_cons_zero, List.set_cons_succ]
                  refine wpAnyH_take (i := 71) (oi := rq71) (v := .bool false) rfl (by kernel_rfl) (by kernel_rfl) (by kernel_rfl) (fun c _ w h => hQP c _ _ _ w h) (Or.inl ⟨by rfl, ?_⟩) hS ?_
                  · rintro w ⟨z1, z2, z3, z4, z5, z6, z7⟩
                    unfold rq71
                    go_simp
                  simp only [rq71d, Act.put, List.setIfInBounds_toArray, List.set_cons_zero, List.set_cons_succ]
                  exact wpAnyH_done (by kernel_rfl) (hQ _ _ _ _ _ _ _ _ _ _ _ _ _ _ _ _ _ _ _ _ _ _ _ _ _ _ _ _ _ _ _ _ _ _ _ _ _ _ _ _ _ _ _ _ _ _ _ _ _ _ _ _ _ _ _ _ _ _ _ _ _ _ _ _ _ _ _ _ _ _ _ _ _ (by first | rfl | (simp only [q1, q2, q3, q4, q7]; rfl) | simp [q1, q2, q3, q4, q7]) B) _
              · refine wpAnyH_take (i := 59) (oi := rq59) (v := .bool true) rfl (by kernel_rfl) (by kernel_rfl) (by kernel_rfl) (fun c _ w h => hQP c _ _ _ w h) (Or.inl ⟨by rfl, ?_⟩) hS ?_
                · rintro w ⟨z1, z2, z3, z4, z5, z6, z7⟩
                  unfold rq59
                  go_simp
                  all_goals (have hq := q7; simp at hq ⊢; first | omega | assumption | exact hq | grind)
                simp only [rq59d, Act.put, List.setIfInBounds_toArray, List.set_cons_zero, List.set_cons_succ]
                refine wpAnyH_take (i := 60) (oi := rq60) (v := .bool true) rfl (by kernel_rfl) (by kernel_rfl) (by kernel_rfl) (fun c _ w h => hQP c _ _ _ w h) (Or.inl ⟨by rfl, ?_⟩) hS ?_
                · rintro w ⟨z1, z2, z3, z4, z5, z6, z7⟩
                  unfold rq60
                  go_simp
                simp only [rq60d, Act.put, List.setIfInBounds_toArray, List.set_cons_zero, List.set_cons_succ]
                refine wpAnyH_take (i := 61) (oi := rq61) (v := .bool true) rfl (by kernel_rfl) (by kernel_rfl) (by kernel_rfl) (fun c _ w h => hQP c _ _ _ w h) (Or.inl ⟨by rfl, ?_⟩) hS ?_
                · rintro w ⟨z1, z2, z3, z4, z5, z6, z7⟩
                  unfold rq61
                  go_simp
                simp only [rq61d, Act.put, List.setIfInBounds_toArray, List.set_cons_zero, List.set_cons_succ]
                refine wpAnyH_take (i := 62) (oi := rq62) (v := undef) rfl (by kernel_rfl) (by kernel_rfl) (by kernel_rfl) (fun c _ w h => hQP c _ _ _ w h) (Or.inr ⟨by rfl, rfl⟩) hS ?_
                simp only [rq62d, Act.put, List.setIfInBounds_toArray, List.set_cons_zero, List.set_cons_succ]
                refine wpAnyH_take (i := 63) (oi := rq63) (v := undef) rfl (by kernel_rfl) (by kernel_rfl) (by kernel_rfl) (fun c _ w h => hQP c _ _ _ w h) (Or.inr ⟨by rfl, rfl⟩) hS ?_
                simp only [rq63d, Act.put, List.setIfInBounds_toArray, List.set_cons_zero, List.set_cons_succ]
                refine wpAnyH_take (i := 64) (oi := rq64) (v := undef) rfl (by kernel_rfl) (by kernel_rfl) (by kernel_rfl) (fun c _ w h => hQP c _ _ _ w h) (Or.inr ⟨by rfl, rfl⟩) hS ?_
                simp only [rq64d, Act.put, List.setIfInBounds_toArray, List.set_cons_zero, List.set_cons_succ]
                refine wpAnyH_take (i := 65) (oi := rq65) (v := undef) rfl (by kernel_rfl) (by kernel_rfl) (by kernel_rfl) (fun c _ w h => hQP c _ _ _ w h) (Or.inr ⟨by rfl, rfl⟩) hS ?_
                simp only [rq65d, Act.put, List.setIfInBounds_toArray, List.set_cons_zero, List.set_cons_succ]
                refine wpAnyH_take (i := 66) (oi := rq66) (v := undef) rfl (by kernel_rfl) (by kernel_rfl) (by kernel_rfl) (fun c _ w h => hQP c _ _ _ w h) (Or.inr ⟨by rfl, rfl⟩) hS ?_
                simp only [rq66d, Act.put, List.setIfInBounds_toArray, List.set_cons_zero, List.set_cons_succ]
                refine wpAnyH_take (i := 67) (oi := rq67) (v := undef) rfl (by kernel_rfl) (by kernel_rfl) (by kernel_rfl) (fun c _ w h => hQP c _ _ _ w h) (Or.inr ⟨by rfl, rfl⟩) hS ?_
                simp only [rq67d, Act.put, List.setIfInBounds_toArray, List.set_cons_zero, List.set_cons_succ]
                refine wpAnyH_take (i := 68) (oi := rq68) (v := undef) rfl (by kernel_rfl) (by kernel_rfl) (by kernel_rfl) (fun c _ w h => hQP c _ _ _ w h) (Or.inr ⟨by rfl, rfl⟩) hS ?_
                simp only [rq68d, Act.put, List.setIfInBounds_toArray, List.set_cons_zero, List.set_cons_succ]
                refine wpAnyH_take (i := 69) (oi := rq69) (v := undef) rfl (by kernel_rfl) (by kernel_rfl) (by kernel_rfl) (fun c _ w h => hQP c _ _ _ w h) (Or.inr ⟨by rfl, rfl⟩) hS ?_
                simp only [rq69d, Act.put, List.setIfInBounds_toArray, List.set_cons_zero, List.set_cons_succ]
                refine wpAnyH_take (i := 70) (oi := rq70) (v := undef) rfl (by kernel_rfl) (by kernel_rfl) (by kernel_rfl) (fun c _ w h => hQP c _ _ _ w h) (Or.inr ⟨by rfl, rfl⟩) hS ?_
                simp only [rq70d, Act.put, List.setIfInBounds_toArray, List.set_cons_zero, List.set_cons_succ]
                refine wpAnyH_take (i := 71) (oi := rq71) (v := .bool true) rfl (by kernel_rfl) (by kernel_rfl) (by kernel_rfl) (fun c _ w h => hQP c _ _ _ w h) (Or.inl ⟨by rfl, ?_⟩) hS ?_
                · rintro w ⟨z1, z2, z3, z4, z5, z6, z7⟩
                  unfold rq71
                  go_simp
                simp only [rq71d, Act.put, List.setIfInBounds_toArray, List.set_cons_zero, List.set_cons_succ]
                exact wpAnyH_done (by kernel_rfl) (hQ _ _ _ _ _ _ _ _ _ _ _ _ _ _ _ _ _ _ _ _ _ _ _ _ _ _ _ _ _ _ _ _ _ _ _ _ _ _ _ _ _ _ _ _ _ _ _ _ _ _ _ _ _ _ _ _ _ _ _ _ _ _ _ _ _ _ _ _ _ _ _ _ _ (by first | rfl | (simp only [q1, q2, q3, q4, q7]; rfl) | simp [q1, q2, q3, q4, q7]) B) _
            · refine wpAnyH_take (i := 48) (oi := rq48) (v := .bool true) rfl (by kernel_rfl) (by kernel_rfl) (by kernel_rfl) (fun c _ w h => hQP c _ _ _ w h) (Or.inl ⟨by rfl, ?_⟩) hS ?_
              · rintro w ⟨z1, z2, z3, z4, z5, z6, z7⟩
                unfold rq48
                go_simp
              simp only [rq48d, Act.put, List.setIfInBounds_toArray, List.set_cons_zero, List.set_cons_succ]
              refine wpAnyH_take (i := 49) (oi := rq49) (v := .bool true) rfl (by kernel_rfl) (by kernel_rfl) (by kernel_rfl) (fun c _ w h => hQP c _ _ _ w h) (Or.inl ⟨by rfl, ?_⟩) hS ?_
              · rintro w ⟨z1, z2, z3, z4, z5, z6, z7⟩
                unfold rq49
                go_simp
              simp only [rq49d, Act.put, List.setIfInBounds_toArray, List.set_cons_zero, List.set_cons_succ]
              refine wpAnyH_take (i := 50) (oi := rq50) (v := .pointer (some ⟨p, 2, none⟩)) rfl (by kernel_rfl) (by kernel_rfl) (by kernel_rfl) (fun c _ w h => hQP c _ _ _ w h) (Or.inl ⟨by rfl, ?_⟩) hS ?_
              · rintro w ⟨z1, z2, z3, z4, z5, z6, z7⟩
                unfold rq50
                go_simp
              simp only [rq50d, Act.put, List.setIfInBounds_toArray, List.set_cons_zero, List.set_cons_succ]
              refine wpAnyH_take (i := 51) (oi := rq51) (v := .string name) rfl (by kernel_rfl) (by kernel_rfl) (by kernel_rfl) (fun c _ w h => hQP c _ _ _ w h) (Or.inl ⟨by rfl, ?_⟩) hS ?_
              · rintro w ⟨z1, z2, z3, z4, z5, z6, z7⟩
                unfold rq51
                go_simp
              simp only [rq51d, Act.put, List.setIfInBounds_toArray, List.set_cons_zero, List.set_cons_succ]
              cases qn : Lx.name name
              · refine wpAnyH_ready (rs := [52]) (by kernel_rfl) (by simp) ?_
                refine AllReadyH.cons (o := rq52) rfl (fun K hK => ?_) AllReadyH.nil
                rw [if_pos (show Region.wanted _ _ = true from rfl)]
                obtain ⟨z1, z2, z3, z4, z5, z6, z7⟩ := hS
                unfold rq52
                go_wp2_with (go_at_call 50; refine (refName_any _ _ hsn).mono ?_; rintro r w1 ⟨rfl, bb⟩; have B := B.tr le_rfl' bb)
                refine hK.out _ _ (hkeep _ B) (fun hS => ?_)
                simp only [List.setIfInBounds_toArray, List.set_cons_zero, List.set_cons_succ]
                refine wpAnyH_take (i := 53) (oi := rq53) (v := .bool true) rfl (by kernel_rfl) (by kernel_rfl) (by kernel_rfl) (fun c _ w h => hQP c _ _ _ w h) (Or.inl ⟨by rfl, ?_⟩) hS ?_
                · rintro w ⟨z1, z2, z3, z4, z5, z6, z7⟩
                  unfold rq53
                  go_simp
                simp only [rq53d, Act.put, List.setIfInBounds_toArray, List.set_cons_zero, List.set_cons_succ]
                refine wpAnyH_take (i := 54) (oi := rq54) (v := .bool true) rfl (by kernel_rfl) (by kernel_rfl) (by kernel_rfl) (fun c _ w h => hQP c _ _ _ w h) (Or.inl ⟨by rfl, ?_⟩) hS ?_
                · rintro w ⟨z1, z2, z3, z4, z5, z6, z7⟩
                  unfold rq54
                  go_simp
                simp only [rq54d, Act.put, List.setIfInBounds_toArray, List.set_cons_zero, List.set_cons_succ]
                refine wpAnyH_take (i := 55) (oi := rq55) (v := .bool true) rfl (by kernel_rfl) (by kernel_rfl) (by kernel_rfl) (fun c _ w h => hQP c _ _ _ w h) (Or.inl ⟨by rfl, ?_⟩) hS ?_
                · rintro w ⟨z1, z2, z3, z4, z5, z6, z7⟩
                  unfold rq55
                  go_simp
                simp only [rq55d, Act.put, List.setIfInBounds_toArray, List.set_cons_zero, List.set_cons_succ]
                refine wpAnyH_take (i := 56) (oi := rq56) (v := .bool true) rfl (by kernel_rfl) (by kernel_rfl) (by kernel_rfl) (fun c _ w h => hQP c _ _ _ w h) (Or.inl ⟨by rfl, ?_⟩) hS ?_
                · rintro w ⟨z1, z2, z3, z4, z5, z6, z7⟩
                  unfold rq56
                  go_simp
                simp only [rq56d, Act.put, List.setIfInBounds_toArray, List.set_cons_zero, List.set_cons_succ]
                refine wpAnyH_take (i := 57) (oi := rq57) (v := undef) rfl (by kernel_rfl) (by kernel_rfl) (by kernel_rfl) (fun c _ w h => hQP c _ _ _ w h) (Or.inr ⟨by rfl, rfl⟩) hS ?_
                simp only [rq57d, Act.put, List.setIfInBounds_toArray, List.set_cons_zero, List.set_cons_succ]
                refine wpAnyH_take (i := 58) (oi := rq58) (v := undef) rfl (by kernel_rfl) (by kernel_rfl) (by kernel_rfl) (fun c _ w h => hQP c _ _ _ w h) (Or.inr ⟨by rfl, rfl⟩) hS ?_
                simp only [rq58d, Act.put, List.setIfInBounds_toArray, List.set_cons_zero, List.set_cons_succ]
                refine wpAnyH_take (i := 59) (oi := rq59) (v := undef) rfl (by kernel_rfl) (by kernel_rfl) (by kernel_rfl) (fun c _ w h => hQP c _ _ _ w h) (Or.inr ⟨by rfl, rfl⟩) hS ?_
                simp only [rq59d, Act.put, List.setIfInBounds_toArray, List.set_cons_zero, List.set_cons_succ]
                refine wpAnyH_take (i := 60) (oi := rq60) (v := .bool true) rfl (by kernel_rfl) (by kernel_rfl) (by kernel_rfl) (fun c _ w h => hQP c _ _ _ w h) (Or.inl ⟨by rfl, ?_⟩) hS ?_
                · rintro w ⟨z1, z2, z3, z4, z5, z6, z7⟩
                  unfold rq60
                  go_simp
                simp only [rq60d, Act.put, List.setIfInBounds_toArray, List.set_cons_zero, List.set_cons_succ]
                refine wpAnyH_take (i := 61) (oi := rq61) (v := .bool true) rfl (by kernel_rfl) (by kernel_rfl) (by kernel_rfl) (fun c _ w h => hQP c _ _ _ w h) (Or.inl ⟨by rfl, ?_⟩) hS ?_
                · rintro w ⟨z1, z2, z3, z4, z5, z6, z7⟩
                  unfold rq61
                  go_simp
                simp only [rq61d, Act.put, List.setIfInBounds_toArray, List.set_cons_zero, List.set_cons_succ]
                refine wpAnyH_take (i := 62) (oi := rq62) (v := undef) rfl (by kernel_rfl) (by kernel_rfl) (by kernel_rfl) (fun c _ w h => hQP c _ _ _ w h) (Or.inr ⟨by rfl, rfl⟩) hS ?_
                simp only [rq62d, Act.put, List.setIfInBounds_toArray, List.set_cons_zero, List.set_cons_succ]
                refine wpAnyH_take (i := 63) (oi := rq63) (v := undef) rfl (by kernel_rfl) (by kernel_rfl) (by kernel_rfl) (fun c _ w h => hQP c _ _ _ w h) (Or.inr ⟨by rfl, rfl⟩) hS ?_
                simp only [rq63d, Act.put, List.setIfInBounds_toArray, List.set_cons_zero, List.set_cons_succ]
                refine wpAnyH_take (i := 64) (oi := rq64) (v := undef) rfl (by kernel_rfl) (by kernel_rfl) (by kernel_rfl) (fun c _ w h => hQP c _ _ _ w h) (Or.inr ⟨by rfl, rfl⟩) hS ?_
                simp only [rq64d, Act.put, List.setIfInBounds_toArray, List.set_cons_zero, List.set_cons_succ]
                refine wpAnyH_take (i := 65) (oi := rq65) (v := undef) rfl (by kernel_rfl) (by kernel_rfl) (by kernel_rfl) (fun c _ w h => hQP c _ _ _ w h) (Or.inr ⟨by rfl, rfl⟩) hS ?_
                simp only [rq65d, Act.put, List.setIfInBounds_toArray, List.set_cons_zero, List.set_cons_succ]
                refine wpAnyH_take (i := 66) (oi := rq66) (v := undef) rfl (by kernel_rfl) (by kernel_rfl) (by kernel_rfl) (fun c _ w h => hQP c _ _ _ w h) (Or.inr ⟨by rfl, rfl⟩) hS ?_
                simp only [rq66d, Act.put, List.setIfInBounds_toArray, List.set_cons_zero, List.set_cons_succ]
                refine wpAnyH_take (i := 67) (oi := rq67) (v := undef) rfl (by kernel_rfl) (by kernel_rfl) (by kernel_rfl) (fun c _ w h => hQP c _ _ _ w h) (Or.inr ⟨by rfl, rfl⟩) hS ?_
                simp only [rq67d, Act.put, List.setIfInBounds_toArray, List.set_cons_zero, List.set_cons_succ]
                refine wpAnyH_take (i := 68) (oi := rq68) (v := undef) rfl (by kernel_rfl) (by kernel_rfl) (by kernel_rfl) (fun c _ w h => hQP c _ _ _ w h) (Or.inr ⟨by rfl, rfl⟩) hS ?_
                simp only [rq68d, Act.put, List.setIfInBounds_toArray, List.set_cons_zero, List.set_cons_succ]
                refine wpAnyH_take (i := 69) (oi := rq69) (v := undef) rfl (by kernel_rfl) (by kernel_rfl) (by kernel_rfl) (fun c _ w h => hQP c _ _ _ w h) (Or.inr ⟨by rfl, rfl⟩) hS ?_
                simp only [rq69d, Act.put, List.setIfInBounds_toArray, List.set_cons_zero, List.set_cons_succ]
                refine wpAnyH_take (i := 70) (oi := rq70) (v := undef) rfl (by kernel_rfl) (by kernel_rfl) (by kernel_rfl) (fun c _ w h => hQP c _ _ _ w h) (Or.inr ⟨by rfl, rfl⟩) hS ?_
                simp only [rq70d, Act.put, List.setIfInBounds_toArray, List.set_cons_zero, List.set_cons_succ]
                refine wpAnyH_take (i := 71) (oi := rq71) (v := .bool true) rfl (by kernel_rfl) (by kernel_rfl) (by kernel_rfl) (fun c _ w h => hQP c _ _ _ w h) (Or.inl ⟨by rfl, ?_⟩) hS ?_
                · rintro w ⟨z1, z2, z3, z4, z5, z6, z7⟩
                  unfold rq71
                  go_simp
                simp only [rq71d, Act.put, List.setIfInBounds_toArray, List.set_cons_zero, List.set_cons_succ]
                exact wpAnyH_done (by kernel_rfl) (hQ _ _ _ _ _ _ _ _ _ _ _ _ _ _ _ _ _ _ _ _ _ _ _ _ _ _ _ _ _ _ _ _ _ _ _ _ _ _ _ _ _ _ _ _ _ _ _ _ _ _ _ _ _ _ _ _ _ _ _ _ _ _ _ _ _ _ _ _ _ _ _ _ _ (by first | rfl | (simp only [q1, q2, q3, q4, qn]; rfl) | simp [q1, q2, q3, q4, qn]) B) _
              · refine wpAnyH_ready (rs := [52]) (by kernel_rfl) (by simp) ?_
                refine AllReadyH.cons (o := rq52) rfl (fun K hK => ?_) AllReadyH.nil
                rw [if_pos (show Region.wanted _ _ = true from rfl)]
                obtain ⟨z1, z2, z3, z4, z5, z6, z7⟩ := hS
                unfold rq52
                go_wp2_with (go_at_call 50; refine (refName_any _ _ hsn).mono ?_; rintro r w2 ⟨rfl, bb⟩; have B := B.tr le_rfl' bb)
                refine hK.out _ _ (hkeep _ B) (fun hS => ?_)
                simp only [List.setIfInBounds_toArray, List.set_cons_zero, List.set_cons_succ]
                refine wpAnyH_take (i := 53) (oi := rq53) (v := .bool false) rfl (by kernel_rfl) (by kernel_rfl) (by kernel_rfl) (fun c _ w h => hQP c _ _ _ w h) (Or.inl ⟨by rfl, ?_⟩) hS ?_
                · rintro w ⟨z1, z2, z3, z4, z5, z6, z7⟩
                  unfold rq53
                  go_simp
                simp only [rq53d, Act.put, List.setIfInBounds_toArray, List.set_cons_zero, List.set_cons_succ]
                refine wpAnyH_take (i := 54) (oi := rq54) (v := .bool false) rfl (by kernel_rfl) (by kernel_rfl) (by kernel_rfl) (fun c _ w h => hQP c _ _ _ w h) (Or.inl ⟨by rfl, ?_⟩) hS ?_
                · rintro w ⟨z1, z2, z3, z4, z5, z6, z7⟩
                  unfold rq54
                  go_simp
                simp only [rq54d, Act.put, List.setIfInBounds_toArray, List.set_cons_zero, List.set_cons_succ]
                refine wpAnyH_take (i := 55) (oi := rq55) (v := .bool false) rfl (by kernel_rfl) (by kernel_rfl) (by kernel_rfl) (fun c _ w h => hQP c _ _ _ w h) (Or.inl ⟨by rfl, ?_⟩) hS ?_
                · rintro w ⟨z1, z2, z3, z4, z5, z6, z7⟩
                  unfold rq55
                  go_simp
                simp only [rq55d, Act.put, List.setIfInBounds_toArray, List.set_cons_zero, List.set_cons_succ]
                refine wpAnyH_take (i := 56) (oi := rq56) (v := .bool false) rfl (by kernel_rfl) (by kernel_rfl) (by kernel_rfl) (fun c _ w h => hQP c _ _ _ w h) (Or.inl ⟨by rfl, ?_⟩) hS ?_
                · rintro w ⟨z1, z2, z3, z4, z5, z6, z7⟩
                  unfold rq56
                  go_simp
                simp only [rq56d, Act.put, List.setIfInBounds_toArray, List.set_cons_zero, List.set_cons_succ]
                refine wpAnyH_take (i := 57) (oi := rq57) (v := .pointer (some ⟨p, 3, none⟩)) rfl (by kernel_rfl) (by kernel_rfl) (by kernel_rfl) (fun c _ w h => hQP c _ _ _ w h) (Or.inl ⟨by rfl, ?_⟩) hS ?_
                · rintro w ⟨z1, z2, z3, z4, z5, z6, z7⟩
                  unfold rq57
                  go_simp
                simp only [rq57d, Act.put, List.setIfInBounds_toArray, List.set_cons_zero, List.set_cons_succ]
                refine wpAnyH_take (i := 58) (oi := rq58) (v := .int .i64 n) rfl (by kernel_rfl) (by kernel_rfl) (by kernel_rfl) (fun c _ w h => hQP c _ _ _ w h) (Or.inl ⟨by rfl, ?_⟩) hS ?_
                · rintro w ⟨z1, z2, z3, z4, z5, z6, z7⟩
                  unfold rq58
                  go_simp
                simp only [rq58d, Act.put, List.setIfInBounds_toArray, List.set_cons_zero, List.set_cons_succ]
                cases q7 : decide (n < 0)
                · refine wpAnyH_take (i := 59) (oi := rq59) (v := .bool false) rfl (by kernel_rfl) (by kernel_rfl) (by kernel_rfl) (fun c _ w h => hQP c _ _ _ w h) (Or.inl ⟨by rfl, ?_⟩) hS ?_
                  · rintro w ⟨z1, z2, z3, z4, z5, z6, z7⟩
                    unfold rq59
                    go_simp
                    all_goals (have hq := q7; simp at hq ⊢; first | omega | assumption | exact hq | grind)
                  simp only [rq59d, Act.put, List.setIfInBounds_toArray, List.set_cons_zero, List.set_cons_succ]
                  refine wpAnyH_take (i := 60) (oi := rq60) (v := .bool false) rfl (by kernel_rfl) (by kernel_rfl) (by kernel_rfl) (fun c _ w h => hQP c _ _ _ w h) (Or.inl ⟨by rfl, ?_⟩) hS ?_
                  · rintro w ⟨z1, z2, z3, z4, z5, z6, z7⟩
                    unfold rq60
                    go_simp
                  simp only [rq60d, Act.put, List.setIfInBounds_toArray, List.set_cons_zero, List.set_cons_succ]
                  refine wpAnyH_take (i := 61) (oi := rq61) (v := .bool false) rfl (by kernel_rfl) (by kernel_rfl) (by kernel_rfl) (fun c _ w h => hQP c _ _ _ w h) (Or.inl ⟨by rfl, ?_⟩) hS ?_
                  · rintro w ⟨z1, z2, z3, z4, z5, z6, z7⟩
                    unfold rq61
                    go_simp
                  simp only [rq61d, Act.put, List.setIfInBounds_toArray, List.set_cons_zero, List.set_cons_succ]
                  refine wpAnyH_take (i := 62) (oi := rq62) (v := .slice (some ⟨g, 0, none⟩) 4 4) rfl (by kernel_rfl) (by kernel_rfl) (by kernel_rfl) (fun c _ w h => hQP c _ _ _ w h) (Or.inl ⟨by rfl, ?_⟩) hS ?_
                  · rintro w ⟨z1, z2, z3, z4, z5, z6, z7⟩
                    unfold rq62
                    go_simp
                  simp only [rq62d, Act.put, List.setIfInBounds_toArray, List.set_cons_zero, List.set_cons_succ]
                  refine wpAnyH_take (i := 63) (oi := rq63) (v := .pointer (some ⟨g, 2, none⟩)) rfl (by kernel_rfl) (by kernel_rfl) (by kernel_rfl) (fun c _ w h => hQP c _ _ _ w h) (Or.inl ⟨by rfl, ?_⟩) hS ?_
                  · rintro w ⟨z1, z2, z3, z4, z5, z6, z7⟩
                    unfold rq63
                    go_simp
                  simp only [rq63d, Act.put, List.setIfInBounds_toArray, List.set_cons_zero, List.set_cons_succ]
                  cases fu
                  · refine wpAnyH_take (i := 64) (oi := rq64) (v := .bool false) rfl (by kernel_rfl) (by kernel_rfl) (by kernel_rfl) (fun c _ w h => hQP c _ _ _ w h) (Or.inl ⟨by rfl, ?_⟩) hS ?_
                    · rintro w ⟨z1, z2, z3, z4, z5, z6, z7⟩
                      unfold rq64
                      go_simp
                    simp only [rq64d, Act.put, List.setIfInBounds_toArray, List.set_cons_zero, List.set_cons_succ]
                    refine wpAnyH_take (i := 65) (oi := rq65) (v := .bool true) rfl (by kernel_rfl) (by kernel_rfl) (by kernel_rfl) (fun c _ w h => hQP c _ _ _ w h) (Or.inl ⟨by rfl, ?_⟩) hS ?_
                    · rintro w ⟨z1, z2, z3, z4, z5, z6, z7⟩
                      unfold rq65
                      go_simp
                    simp only [rq65d, Act.put, List.setIfInBounds_toArray, List.set_cons_zero, List.set_cons_succ]
                    refine wpAnyH_take (i := 66) (oi := rq66) (v := .bool true) rfl (by kernel_rfl) (by kernel_rfl) (by kernel_rfl) (fun c _ w h => hQP c _ _ _ w h) (Or.inl ⟨by rfl, ?_⟩) hS ?_
                    · rintro w ⟨z1, z2, z3, z4, z5, z6, z7⟩
                      unfold rq66
                      go_simp
                    simp only [rq66d, Act.put, List.setIfInBounds_toArray, List.set_cons_zero, List.set_cons_succ]
                    refine wpAnyH_take (i := 67) (oi := rq67) (v := .pointer (some ⟨p, 3, none⟩)) rfl (by kernel_rfl) (by kernel_rfl) (by kernel_rfl) (fun c _ w h => hQP c _ _ _ w h) (Or.inl ⟨by rfl, ?_⟩) hS ?_
                    · rintro w ⟨z1, z2, z3, z4, z5, z6, z7⟩
                      unfold rq67
                      go_simp
                    simp only [rq67d, Act.put, List.setIfInBounds_toArray, List.set_cons_zero, List.set_cons_succ]
                    refine wpAnyH_take (i := 68) (oi := rq68) (v := .int .i64 n) rfl (by kernel_rfl) (by kernel_rfl) (by kernel_rfl) (fun c _ w h => hQP c _ _ _ w h) (Or.inl ⟨by rfl, ?_⟩) hS ?_
                    · rintro w ⟨z1, z2, z3, z4, z5, z6, z7⟩
                      unfold rq68
                      go_simp
                    simp only [rq68d, Act.put, List.setIfInBounds_toArray, List.set_cons_zero, List.set_cons_succ]
                    cases q8 : (n != 0)
                    · refine wpAnyH_take (i := 69) (oi := rq69) (v := .bool false) rfl (by kernel_rfl) (by kernel_rfl) (by kernel_rfl) (fun c _ w h => hQP c _ _ _ w h) (Or.inl ⟨by rfl, ?_⟩) hS ?_
                      · rintro w ⟨z1, z2, z3, z4, z5, z6, z7⟩
                        unfold rq69
                        go_simp
                        all_goals (have hq := q8; simp at hq ⊢; first | omega | assumption | exact hq | grind)
                      simp only [rq69d, Act.put, List.setIfInBounds_toArray, List.set_cons_zero, List.set_cons_succ]
                      refine wpAnyH_take (i := 70) (oi := rq70) (v := .bool false) rfl (by kernel_rfl) (by kernel_rfl) (by kernel_rfl) (fun c _ w h => hQP c _ _ _ w h) (Or.inl ⟨by rfl, ?_⟩) hS ?_
                      · rintro w ⟨z1, z2, z3, z4, z5, z6, z7⟩
                        unfold rq70
                        go_simp
                      simp only [rq70d, Act.put, List.setIfInBounds_toArray, List.set_cons_zero, List.set_cons_succ]
                      refine wpAnyH_take (i := 71) (oi := rq71) (v := .bool false) rfl (by kernel_rfl) (by kernel_rfl) (by kernel_rfl) (fun c _ w h => hQP c _ _ _ w h) (Or.inl ⟨by rfl, ?_⟩) hS ?_
                      · rintro w ⟨z1, z2, z3, z4, z5, z6, z7⟩
                        unfold rq71
                        go_simp
                      simp only [rq71d, Act.put, List.setIfInBounds_toArray, List.set_cons_zero, List.set_cons_succ]
                      exact wpAnyH_done (by kernel_rfl) (hQ _ _ _ _ _ _ _ _ _ _ _ _ _ _ _ _ _ _ _ _ _ _ _ _ _ _ _ _ _ _ _ _ _ _ _ _ _ _ _ _ _ _ _ _ _ _ _ _ _ _ _ _ _ _ _ _ _ _ _ _ _ _ _ _ _ _ _ _ _ _ _ _ _ (by first | rfl | (simp only [q1, q2, q3, q4, qn, q7, q8]; rfl) | simp [q1, q2, q3, q4, qn, q7, q8]) B) _
                    · refine wpAnyH_take (i := 69) (oi := rq69) (v := .bool true) rfl (by kernel_rfl) (by kernel_rfl) (by kernel_rfl) (fun c _ w h => hQP c _ _ _ w h) (Or.inl ⟨by rfl, ?_⟩) hS ?_
                      · rintro w ⟨z1, z2, z3, z4, z5, z6, z7⟩
                        unfold rq69
                        go_simp
                        all_goals (have hq := q8; simp at hq ⊢; first | omega | assumption | exact hq | grind)
                      simp only [rq69d, Act.put, List.setIfInBounds_toArray, List.set_cons_zero, List.set_cons_succ]
                      refine wpAnyH_take (i := 70) (oi := rq70) (v := .bool true) rfl (by kernel_rfl) (by kernel_rfl) (by kernel_rfl) (fun c _ w h => hQP c _ _ _ w h) (Or.inl ⟨by rfl, ?_⟩) hS ?_
                      · rintro w ⟨z1, z2, z3, z4, z5, z6, z7⟩
                        unfold rq70
                        go_simp
                      simp only [rq70d, Act.put, List.setIfInBounds_toArray, List.set_cons_zero, List.set_cons_succ]
                      refine wpAnyH_take (i := 71) (oi := rq71) (v := .bool true) rfl (by kernel_rfl) (by kernel_rfl) (by kernel_rfl) (fun c _ w h => hQP c _ _ _ w h) (Or.inl ⟨by rfl, ?_⟩) hS ?_
                      · rintro w ⟨z1, z2, z3, z4, z5, z6, z7⟩
                        unfold rq71
                        go_simp
                      simp only [rq71d, Act.put, List.setIfInBounds_toArray, List.set_cons_zero, List.set_cons_succ]
                      exact wpAnyH_done (by kernel_rfl) (hQ _ _ _ _ _ _ _ _ _ _ _ _ _ _ _ _ _ _ _ _ _ _ _ _ _ _ _ _ _ _ _ _ _ _ _ _ _ _ _ _ _ _ _ _ _ _ _ _ _ _ _ _ _ _ _ _ _ _ _ _ _ _ _ _ _ _ _ _ _ _ _ _ _ (by first | rfl | (simp only [q1, q2, q3, q4, qn, q7, q8]; rfl) | simp [q1, q2, q3, q4, qn, q7, q8]) B) _
                  · refine wpAnyH_take (i := 64) (oi := rq64) (v := .bool true) rfl (by kernel_rfl) (by kernel_rfl) (by kernel_rfl) (fun c _ w h => hQP c _ _ _ w h) (Or.inl ⟨by rfl, ?_⟩) hS ?_
                    · rintro w ⟨z1, z2, z3, z4, z5, z6, z7⟩
                      unfold rq64
                      go_simp
                    simp only [rq64d, Act.put, List.setIfInBounds_toArray, List.set_cons_zero, List.set_cons_succ]
                    refine wpAnyH_take (i := 65) (oi := rq65) (v := .bool false) rfl (by kernel_rfl) (by kernel_rfl) (by kernel_rfl) (fun c _ w h => hQP c _ _ _ w h) (Or.inl ⟨by rfl, ?_⟩) hS ?_
                    · rintro w ⟨z1, z2, z3, z4, z5, z6, z7⟩
                      unfold rq65
                      go_simp
                    simp only [rq65d, Act.put, List.setIfInBounds_toArray, List.set_cons_zero, List.set_cons_succ]
                    refine wpAnyH_take (i := 66) (oi := rq66) (v := .bool false) rfl (by kernel_rfl) (by kernel_rfl) (by kernel_rfl) (fun c _ w h => hQP c _ _ _ w h) (Or.inl ⟨by rfl, ?_⟩) hS ?_
                    · rintro w ⟨z1, z2, z3, z4, z5, z6, z7⟩
                      unfold rq66
                      go_simp
                    simp only [rq66d, Act.put, List.setIfInBounds_toArray, List.set_cons_zero, List.set_cons_succ]
                    refine wpAnyH_take (i := 67) (oi := rq67) (v := undef) rfl (by kernel_rfl) (by kernel_rfl) (by kernel_rfl) (fun c _ w h => hQP c _ _ _ w h) (Or.inr ⟨by rfl, rfl⟩) hS ?_
                    simp only [rq67d, Act.put, List.setIfInBounds_toArray, List.set_cons_zero, List.set_cons_succ]
                    refine wpAnyH_take (i := 68) (oi := rq68) (v := undef) rfl (by kernel_rfl) (by kernel_rfl) (by kernel_rfl) (fun c _ w h => hQP c _ _ _ w h) (Or.inr ⟨by rfl, rfl⟩) hS ?_
                    simp only [rq68d, Act.put, List.setIfInBounds_toArray, List.set_cons_zero, List.set_cons_succ]
                    refine wpAnyH_take (i := 69) (oi := rq69) (v := undef) rfl (by kernel_rfl) (by kernel_rfl) (by kernel_rfl) (fun c _ w h => hQP c _ _ _ w h) (Or.inr ⟨by rfl, rfl⟩) hS ?_
                    simp only [rq69d, Act.put, List.setIfInBounds_toArray, List.set_cons_zero, List.set_cons_succ]
                    refine wpAnyH_take (i := 70) (oi := rq70) (v := .bool false) rfl (by kernel_rfl) (by kernel_rfl) (by kernel_rfl) (fun c _ w h => hQP c _ _ _ w h) (Or.inl ⟨by rfl, ?_⟩) hS ?_
                    · rintro w ⟨z1, z2, z3, z4, z5, z6, z7⟩
                      unfold rq70
                      go_simp
                    simp only [rq70d, Act.put, List.setIfInBounds_toArray, List.set_cons_zero, List.set_cons_succ]
                    refine wpAnyH_take (i := 71) (oi := rq71) (v := .bool false) rfl (by kernel_rfl) (by kernel_rfl) (by kernel_rfl) (fun c _ w h => hQP c _ _ _ w h) (Or.inl ⟨by rfl, ?_⟩) hS ?_
                    · rintro w ⟨z1, z2, z3, z4, z5, z6, z7⟩
                      unfold rq71
                      go_simp
                    simp only [rq71d, Act.put, List.setIfInBounds_toArray, List.set_cons_zero, List.set_cons_succ]
                    exact wpAnyH_done (by kernel_rfl) (hQ _ _ _ _ _ _ _ _ _ _ _ _ _ _ _ _ _ _ _ _ _ _ _ _ _ _ _ _ _ _ _ _ _ _ _ _ _ _ _ _ _ _ _ _ _ _ _ _ _ _ _ _ _ _ _ _ _ _ _ _ _ _ _ _ _ _ _ _ _ _ _ _ _ (by first | rfl | (simp only [q1, q2, q3, q4, qn, q7]; rfl) | simp [q1, q2, q3, q4, qn, q7]) B) _
                · refine wpAnyH_take (i := 59) (oi := rq59) (v := .bool true) rfl (by kernel_rfl) (by kernel_rfl) (by kernel_rfl) (fun c _ w h => hQP c _ _ _ w h) (Or.inl ⟨by rfl, ?_⟩) hS ?_
                  · rintro w ⟨z1, z2, z3, z4, z5, z6, z7⟩
                    unfold rq59
                    go_simp
                    all_goals (have hq := q7; simp at hq ⊢; first | omega | assumption | exact hq | grind)
                  simp only [rq59d, Act.put, List.setIfInBounds_toArray, List.set_cons_zero, List.set_cons_succ]
                  refine wpAnyH_take (i := 60) (oi := rq60) (v := .bool true) rfl (by kernel_rfl) (by kernel_rfl) (by kernel_rfl) (fun c _ w h => hQP c _ _ _ w h) (Or.inl ⟨by rfl, ?_⟩) hS ?_
                  · rintro w ⟨z1, z2, z3, z4, z5, z6, z7⟩
                    unfold rq60
                    go_simp
                  simp only [rq60d, Act.put, List.setIfInBounds_toArray, List.set_cons_zero, List.set_cons_succ]
                  refine wpAnyH_take (i := 61) (oi := rq61) (v := .bool true) rfl (by kernel_rfl) (by kernel_rfl) (by kernel_rfl) (fun c _ w h => hQP c _ _ _ w h) (Or.inl ⟨by rfl, ?_⟩) hS ?_
                  · rintro w ⟨z1, z2, z3, z4, z5, z6, z7⟩
                    unfold rq61
                    go_simp
                  simp only [rq61d, Act.put, List.setIfInBounds_toArray, List.set_cons_zero, List.set_cons_succ]
                  refine wpAnyH_take (i := 62) (oi := rq62) (v := undef) rfl (by kernel_rfl) (by kernel_rfl) (by kernel_rfl) (fun c _ w h => hQP c _ _ _ w h) (Or.inr ⟨by rfl, rfl⟩) hS ?_
                  simp only [rq62d, Act.put, List.setIfInBounds_toArray, List.set_cons_zero, List.set_cons_succ]
                  refine wpAnyH_take (i := 63) (oi := rq63) (v := undef) rfl (by kernel_rfl) (by kernel_rfl) (by kernel_rfl) (fun c _ w h => hQP c _ _ _ w h) (Or.inr ⟨by rfl, rfl⟩) hS ?_
                  simp only [rq63d, Act.put, List.setIfInBounds_toArray, List.set_cons_zero, List.set_cons_succ]
                  refine wpAnyH_take (i := 64) (oi := rq64) (v := undef) rfl (by kernel_rfl) (by kernel_rfl) (by kernel_rfl) (fun c _ w h => hQP c _ _ _ w h) (Or.inr ⟨by rfl, rfl⟩) hS ?_
                  simp only [rq64d, Act.put, List.setIfInBounds_toArray, List.set_cons_zero, List.set_cons_succ]
                  refine wpAnyH_take (i := 65) (oi := rq65) (v := undef) rfl (by kernel_rfl) (by kernel_rfl) (by kernel_rfl) (fun c _ w h => hQP c _ _ _ w h) (Or.inr ⟨by rfl, rfl⟩) hS ?_
                  simp only [rq65d, Act.put, List.setIfInBounds_toArray, List.set_cons_zero, List.set_cons_succ]
                  refine wpAnyH_take (i := 66) (oi := rq66) (v := undef) rfl (by kernel_rfl) (by kernel_rfl) (by kernel_rfl) (fun c _ w h => hQP c _ _ _ w h) (Or.inr ⟨by rfl, rfl⟩) hS ?_
                  simp only [rq66d, Act.put, List.setIfInBounds_toArray, List.set_cons_zero, List.set_cons_succ]
                  refine wpAnyH_take (i := 67) (oi := rq67) (v := undef) rfl (by kernel_rfl) (by kernel_rfl) (by kernel_rfl) (fun c _ w h => hQP c _ _ _ w h) (Or.inr ⟨by rfl, rfl⟩) hS ?_
                  simp only [rq67d, Act.put, List.setIfInBounds_toArray, List.set_cons_zero, List.set_cons_succ]
                  refine wpAnyH_take (i := 68) (oi := rq68) (v := undef) rfl (by kernel_rfl) (by kernel_rfl) (by kernel_rfl) (fun c _ w h => hQP c _ _ _ w h) (Or.inr ⟨by rfl, rfl⟩) hS ?_
                  simp only [rq68d, Act.put, List.setIfInBounds_toArray, List.set_cons_zero, List.set_cons_succ]
                  refine wpAnyH_take (i := 69) (oi := rq69) (v := undef) rfl (by kernel_rfl) (by kernel_rfl) (by kernel_rfl) (fun c _ w h => hQP c _ _ _ w h) (Or.inr ⟨by rfl, rfl⟩) hS ?_
                  simp only [rq69d, Act.put, List.setIfInBounds_toArray, List.set_cons_zero, List.set_cons_succ]
                  refine wpAnyH_take (i := 70) (oi := rq70) (v := undef) rfl (by kernel_rfl) (by kernel_rfl) (by kernel_rfl) (fun c _ w h => hQP c _ _ _ w h) (Or.inr ⟨by rfl, rfl⟩) hS ?_
                  simp only [rq70d, Act.put, List.setIfInBounds_toArray, List.set_cons_zero, List.set_cons_succ]
                  refine wpAnyH_take (i := 71) (oi := rq71) (v := .bool true) rfl (by kernel_rfl) (by kernel_rfl) (by kernel_rfl) (fun c _ w h => hQP c _ _ _ w h) (Or.inl ⟨by rfl, ?_⟩) hS ?_
                  · rintro w ⟨z1, z2, z3, z4, z5, z6, z7⟩
                    unfold rq71
                    go_simp
                  simp only [rq71d, Act.put, List.setIfInBounds_toArray, List.set_cons_zero, List.set_cons_succ]
                  exact wpAnyH_done (by kernel_rfl) (hQ _ _ _ _ _ _ _ _ _ _ _ _ _ _ _ _ _ _ _ _ _ _ _ _ _ _ _ _ _ _ _ _ _ _ _ _ _ _ _ _ _ _ _ _ _ _ _ _ _ _ _ _ _ _ _ _ _ _ _ _ _ _ _ _ _ _ _ _ _ _ _ _ _ (by first | rfl | (simp only [q1, q2, q3, q4, qn, q7]; rfl) | simp [q1, q2, q3, q4, qn, q7]) B) _
          · refine wpAnyH_take (i := 37) (oi := rq37) (v := .bool true) rfl (by kernel_rfl) (by kernel_rfl) (by kernel_rfl) (fun c _ w h => hQP c _ _ _ w h) (Or.inl ⟨by rfl, ?_⟩) hS ?_
            · rintro w ⟨z1, z2, z3, z4, z5, z6, z7⟩
              unfold rq37
              go_simp
            simp only [rq37d, Act.put, List.setIfInBounds_toArray, List.set_cons_zero, List.set_cons_succ]
            refine wpAnyH_take (i := 38) (oi := rq38) (v := .bool true) rfl (by kernel_rfl) (by kernel_rfl) (by kernel_rfl) (fun c _ w h => hQP c _ _ _ w h) (Or.inl ⟨by rfl, ?_⟩) hS ?_
            · rintro w ⟨z1, z2, z3, z4, z5, z6, z7⟩
              unfold rq38
              go_simp
            simp only [rq38d, Act.put, List.setIfInBounds_toArray, List.set_cons_zero, List.set_cons_succ]
            refine wpAnyH_take (i := 39) (oi := rq39) (v := .pointer (some ⟨p, 1, none⟩)) rfl (by kernel_rfl) (by kernel_rfl) (by kernel_rfl) (fun c _ w h => hQP c _ _ _ w h) (Or.inl ⟨by rfl, ?_⟩) hS ?_
            · rintro w ⟨z1, z2, z3, z4, z5, z6, z7⟩
              unfold rq39
              go_simp
            simp only [rq39d, Act.put, List.setIfInBounds_toArray, List.set_cons_zero, List.set_cons_succ]
            refine wpAnyH_take (i := 40) (oi := rq40) (v := .string mon) rfl (by kernel_rfl) (by kernel_rfl) (by kernel_rfl) (fun c _ w h => hQP c _ _ _ w h) (Or.inl ⟨by rfl, ?_⟩) hS ?_
            · rintro w ⟨z1, z2, z3, z4, z5, z6, z7⟩
              unfold rq40
              go_simp
            simp only [rq40d, Act.put, List.setIfInBounds_toArray, List.set_cons_zero, List.set_cons_succ]
            cases qm : Lx.name mon
            · refine wpAnyH_ready (rs := [41]) (by kernel_rfl) (by simp) ?_
              refine AllReadyH.cons (o := rq41) rfl (fun K hK => ?_) AllReadyH.nil
              rw [if_pos (show Region.wanted _ _ = true from rfl)]
              obtain ⟨z1, z2, z3, z4, z5, z6, z7⟩ := hS
              unfold rq41
              go_wp2_with (go_at_call 50; refine (refName_any _ _ hsm).mono ?_; rintro r w3 ⟨rfl, bb⟩; have B := B.tr le_rfl' bb)
              refine hK.out _ _ (hkeep _ B) (fun hS => ?_)
              simp only [List.setIfInBounds_toArray, List.set_cons_zero, List.set_cons_succ]
              refine wpAnyH_take (i := 42) (oi := rq42) (v := .bool true) rfl (by kernel_rfl) (by kernel_rfl) (by kernel_rfl) (fun c _ w h => hQP c _ _ _ w h) (Or.inl ⟨by rfl, ?_⟩) hS ?_
              · rintro w ⟨z1, z2, z3, z4, z5, z6, z7⟩
                unfold rq42
                go_simp
              simp only [rq42d, Act.put, List.setIfInBounds_toArray, List.set_cons_zero, List.set_cons_succ]
              refine wpAnyH_take (i := 43) (oi := rq43) (v := .bool true) rfl (by kernel_rfl) (by kernel_rfl) (by kernel_rfl) (fun c _ w h => hQP c _ _ _ w h) (Or.inl ⟨by rfl, ?_⟩) hS ?_
              · rintro w ⟨z1, z2, z3, z4, z5, z6, z7⟩
                unfold rq43
                go_simp
              simp only [rq43d, Act.put, List.setIfInBounds_toArray, List.set_cons_zero, List.set_cons_succ]
              refine wpAnyH_take (i := 44) (oi := rq44) (v := .bool true) rfl (by kernel_rfl) (by kernel_rfl) (by kernel_rfl) (fun c _ w h => hQP c _ _ _ w h) (Or.inl ⟨by rfl, ?_⟩) hS ?_
              · rintro w ⟨z1, z2, z3, z4, z5, z6, z7⟩
                unfold rq44
                go_simp
              simp only [rq44d, Act.put, List.setIfInBounds_toArray, List.set_cons_zero, List.set_cons_succ]
              refine wpAnyH_take (i := 45) (oi := rq45) (v := .bool true) rfl (by kernel_rfl) (by kernel_rfl) (by kernel_rfl) (fun c _ w h => hQP c _ _ _ w h) (Or.inl ⟨by rfl, ?_⟩) hS ?_
              · rintro w ⟨z1, z2, z3, z4, z5, z6, z7⟩
                unfold rq45
                go_simp
              simp only [rq45d, Act.put, List.setIfInBounds_toArray, List.set_cons_zero, List.set_cons_succ]
              refine wpAnyH_take (i := 46) (oi := rq46) (v := undef) rfl (by kernel_rfl) (by kernel_rfl) (by kernel_rfl) (fun c _ w h => hQP c _ _ _ w h) (Or.inr ⟨by rfl, rfl⟩) hS ?_
              simp only [rq46d, Act.put, List.setIfInBounds_toArray, List.set_cons_zero, List.set_cons_succ]
              refine wpAnyH_take (i := 47) (oi := rq47) (v := undef) rfl (by kernel_rfl) (by kernel_rfl) (by kernel_rfl) (fun c _ w h => hQP c _ _ _ w h) (Or.inr ⟨by rfl, rfl⟩) hS ?_
              simp only [rq47d, Act.put, List.setIfInBounds_toArray, List.set_cons_zero, List.set_cons_succ]
              refine wpAnyH_take (i := 48) (oi := rq48) (v := undef) rfl (by kernel_rfl) (by kernel_rfl) (by kernel_rfl) (fun c _ w h => hQP c _ _ _ w h) (Or.inr ⟨by rfl, rfl⟩) hS ?_
              simp only [rq48d, Act.put, List.setIfInBounds_toArray, List.set_cons_zero, List.set_cons_succ]
              refine wpAnyH_take (i := 49) (oi := rq49) (v := undef) rfl (by kernel_rfl) (by kernel_rfl) (by kernel_rfl) (fun c _ w h => hQP c _ _ _ w h) (Or.inr ⟨by rfl, rfl⟩) hS ?_
              simp only [rq49d, Act.put, List.setIfInBounds_toArray, List.set_cons_zero, List.set_cons_succ]
              refine wpAnyH_take (i := 50) (oi := rq50) (v := undef) rfl (by kernel_rfl) (by kernel_rfl) (by kernel_rfl) (fun c _ w h => hQP c _ _ _ w h) (Or.inr ⟨by rfl, rfl⟩) hS ?_
              simp only [rq50d, Act.put, List.setIfInBounds_toArray, List.set_cons_zero, List.set_cons_succ]
              refine wpAnyH_take (i := 51) (oi := rq51) (v := undef) rfl (by kernel_rfl) (by kernel_rfl) (by kernel_rfl) (fun c _ w h => hQP c _ _ _ w h) (Or.inr ⟨by rfl, rfl⟩) hS ?_
              simp only [rq51d, Act.put, List.setIfInBounds_toArray, List.set_cons_zero, List.set_cons_succ]
              refine wpAnyH_take (i := 52) (oi := rq52) (v := undef) rfl (by kernel_rfl) (by kernel_rfl) (by kernel_rfl) (fun c _ w h => hQP c _ _ _ w h) (Or.inr ⟨by rfl, rfl⟩) hS ?_
              simp only [rq52d, Act.put, List.setIfInBounds_toArray, List.set_cons_zero, List.set_cons_succ]
              refine wpAnyH_take (i := 53) (oi := rq53) (v := undef) rfl (by kernel_rfl) (by kernel_rfl) (by kernel_rfl) (fun c _ w h => hQP c _ _ _ w h) (Or.inr ⟨by rfl, rfl⟩) hS ?_
              simp only [rq53d, Act.put, List.setIfInBounds_toArray, List.set_cons_zero, List.set_cons_succ]
              refine wpAnyH_take (i := 54) (oi := rq54) (v := undef) rfl (by kernel_rfl) (by kernel_rfl) (by kernel_rfl) (fun c _ w h => hQP c _ _ _ w h) (Or.inr ⟨by rfl, rfl⟩) hS ?_
              simp only [rq54d, Act.put, List.setIfInBounds_toArray, List.set_cons_zero, List.set_cons_succ]
              refine wpAnyH_take (i := 55) (oi := rq55) (v := .bool true) rfl (by kernel_rfl) (by kernel_rfl) (by kernel_rfl) (fun c _ w h => hQP c _ _ _ w h) (Or.inl ⟨by rfl, ?_⟩) hS ?_
              · rintro w ⟨z1, z2, z3, z4, z5, z6, z7⟩
                unfold rq55
                go_simp
              simp only [rq55d, Act.put, List.setIfInBounds_toArray, List.set_cons_zero, List.set_cons_succ]
              refine wpAnyH_take (i := 56) (oi := rq56) (v := .bool true) rfl (by kernel_rfl) (by kernel_rfl) (by kernel_rfl) (fun c _ w h => hQP c _ _ _ w h) (Or.inl ⟨by rfl, ?_⟩) hS ?_
              · rintro w ⟨z1, z2, z3, z4, z5, z6, z7⟩
                unfold rq56
                go_simp
              simp only [rq56d, Act.put, List.setIfInBounds_toArray, List.set_cons_zero, List.set_cons_succ]
              refine wpAnyH_take (i := 57) (oi := rq57) (v := undef) rfl (by kernel_rfl) (by kernel_rfl) (by kernel_rfl) (fun c _ w h => hQP c _ _ _ w h) (Or.inr ⟨by rfl, rfl⟩) hS ?_
              simp only [rq57d, Act.put, List.setIfInBounds_toArray, List.set_cons_zero, List.set_cons_succ]
              refine wpAnyH_take (i := 58) (oi := rq58) (v := undef) rfl (by kernel_rfl) (by kernel_rfl) (by kernel_rfl) (fun c _ w h => hQP c _ _ _ w h) (Or.inr ⟨by rfl, rfl⟩) hS ?_
              simp only [rq58d, Act.put, List.setIfInBounds_toArray, List.set_cons_zero, List.set_cons_succ]
              refine wpAnyH_take (i := 59) (oi := rq59) (v := undef) rfl (by kernel_rfl) (by kernel_rfl) (by kernel_rfl) (fun c _ w h => hQP c _ _ _ w h) (Or.inr ⟨by rfl, rfl⟩) hS ?_
              simp only [rq59d, Act.put, List.setIfInBounds_toArray, List.set_cons_zero, List.set_cons_succ]
              refine wpAnyH_take (i := 60) (oi := rq60) (v := .bool true) rfl (by kernel_rfl) (by kernel_rfl) (by kernel_rfl) (fun c _ w h => hQP c _ _ _ w h) (Or.inl ⟨by rfl, ?_⟩) hS ?_
              · rintro w ⟨z1, z2, z3, z4, z5, z6, z7⟩
                unfold rq60
                go_simp
              simp only [rq60d, Act.put, List.setIfInBounds_toArray, List.set_cons_zero, List.set_cons_succ]
              refine wpAnyH_take (i := 61) (oi := rq61) (v := .bool true) rfl (by kernel_rfl) (by kernel_rfl) (by kernel_rfl) (fun c _ w h => hQP c _ _ _ w h) (Or.inl ⟨by rfl, ?_⟩) hS ?_
              · rintro w ⟨z1, z2, z3, z4, z5, z6, z7⟩
                unfold rq61
                go_simp
              simp only [rq61d, Act.put, List.setIfInBounds_toArray, List.set_cons_zero, List.set_cons_succ]
              refine wpAnyH_take (i := 62) (oi := rq62) (v := undef) rfl (by kernel_rfl) (by kernel_rfl) (by kernel_rfl) (fun c _ w h => hQP c _ _ _ w h) (Or.inr ⟨by rfl, rfl⟩) hS ?_
              simp only [rq62d, Act.put, List.setIfInBounds_toArray, List.set_cons_zero, List.set_cons_succ]
              refine wpAnyH_take (i := 63) (oi := rq63) (v := undef) rfl (by kernel_rfl) (by kernel_rfl) (by kernel_rfl) (fun c _ w h => hQP c _ _ _ w h) (Or.inr ⟨by rfl, rfl⟩) hS ?_
              simp only [rq63d, Act.put, List.setIfInBounds_toArray, List.set_cons_zero, List.set_cons_succ]
              refine wpAnyH_take (i := 64) (oi := rq64) (v := undef) rfl (by kernel_rfl) (by kernel_rfl) (by kernel_rfl) (fun c _ w h => hQP c _ _ _ w h) (Or.inr ⟨by rfl, rfl⟩) hS ?_
              simp only [rq64d, Act.put, List.setIfInBounds_toArray, List.set_cons_zero, List.set_cons_succ]
              refine wpAnyH_take (i := 65) (oi := rq65) (v := undef) rfl (by kernel_rfl) (by kernel_rfl) (by kernel_rfl) (fun c _ w h => hQP c _ _ _ w h) (Or.inr ⟨by rfl, rfl⟩) hS ?_
              simp only [rq65d, Act.put, List.setIfInBounds_toArray, List.set_cons_zero, List.set_cons_succ]
              refine wpAnyH_take (i := 66) (oi := rq66) (v := undef) rfl (by kernel_rfl) (by kernel_rfl) (by kernel_rfl) (fun c _ w h => hQP c _ _ _ w h) (Or.inr ⟨by rfl, rfl⟩) hS ?_
              simp only [rq66d, Act.put, List.setIfInBounds_toArray, List.set_cons_zero, List.set_cons_succ]
              refine wpAnyH_take (i := 67) (oi := rq67) (v := undef) rfl (by kernel_rfl) (by kernel_rfl) (by kernel_rfl) (fun c _ w h => hQP c _ _ _ w h) (Or.inr ⟨by rfl, rfl⟩) hS ?_
              simp only [rq67d, Act.put, List.setIfInBounds_toArray, List.set_cons_zero, List.set_cons_succ]
              refine wpAnyH_take (i := 68) (oi := rq68) (v := undef) rfl (by kernel_rfl) (by kernel_rfl) (by kernel_rfl) (fun c _ w h => hQP c _ _ _ w h) (Or.inr ⟨by rfl, rfl⟩) hS ?_
              simp only [rq68d, Act.put, List.setIfInBounds_toArray, List.set_cons_zero, List.set_cons_succ]
              refine wpAnyH_take (i := 69) (oi := rq69) (v := undef) rfl (by kernel_rfl) (by kernel_rfl) (by kernel_rfl) (fun c _ w h => hQP c _ _ _ w h) (Or.inr ⟨by rfl, rfl⟩) hS ?_
              simp only [rq69d, Act.put, List.setIfInBounds_toArray, List.set_cons_zero, List.set_cons_succ]
              refine wpAnyH_take (i := 70) (oi := rq70) (v := undef) rfl (by kernel_rfl) (by kernel_rfl) (by kernel_rfl) (fun c _ w h => hQP c _ _ _ w h) (Or.inr ⟨by rfl, rfl⟩) hS ?_
              simp only [rq70d, Act.put, List.setIfInBounds_toArray, List.set_cons_zero, List.set_cons_succ]
              refine wpAnyH_take (i := 71) (oi := rq71) (v := .bool true) rfl (by kernel_rfl) (by kernel_rfl) (by kernel_rfl) (fun c _ w h => hQP c _ _ _ w h) (Or.inl ⟨by rfl, ?_⟩) hS ?_
              · rintro w ⟨z1, z2, z3, z4, z5, z6, z7⟩
                unfold rq71
                go_simp
              simp only [rq71d, Act.put, List.setIfInBounds_toArray, List.set_cons_zero, List.set_cons_succ]
              exact wpAnyH_done (by kernel_rfl) (hQ _ _ _ _ _ _ _ _ _ _ _ _ _ _ _ _ _ _ _ _ _ _ _ _ _ _ _ _ _ _ _ _ _ _ _ _ _ _ _ _ _ _ _ _ _ _ _ _ _ _ _ _ _ _ _ _ _ _ _ _ _ _ _ _ _ _ _ _ _ _ _ _ _ (by first | rfl | (simp only [q1, q2, q3, q4, qm]; rfl) | simp [q1, q2, q3, q4, qm]) B) _
            · refine wpAnyH_ready (rs := [41]) (by kernel_rfl) (by simp) ?_
              refine AllReadyH.cons (o := rq41) rfl (fun K hK => ?_) AllReadyH.nil
              rw [if_pos (show Region.wanted _ _ = true from rfl)]
              obtain ⟨z1, z2, z3, z4, z5, z6, z7⟩ := hS
              unfold rq41
              go_wp2_with (go_at_call 50; refine (refName_any _ _ hsm).mono ?_; rintro r w4 ⟨rfl, bb⟩; have B := B.tr le_rfl' bb)
              refine hK.out _ _ (hkeep _ B) (fun hS => ?_)
              simp only [List.setIfInBounds_toArray, List.set_cons_zero, List.set_cons_succ]
              refine wpAnyH_take (i := 42) (oi := rq42) (v := .bool false) rfl (by kernel_rfl) (by kernel_rfl) (by kernel_rfl) (fun c _ w h => hQP c _ _ _ w h) (Or.inl ⟨by rfl, ?_⟩) hS ?_
              · rintro w ⟨z1, z2, z3, z4, z5, z6, z7⟩
                unfold rq42
                go_simp
              simp only [rq42d, Act.put, List.setIfInBounds_toArray, List.set_cons_zero, List.set_cons_succ]
              refine wpAnyH_take (i := 43) (oi := rq43) (v := .bool false) rfl (by kernel_rfl) (by kernel_rfl) (by kernel_rfl) (fun c _ w h => hQP c _ _ _ w h) (Or.inl ⟨by rfl, ?_⟩) hS ?_
              · rintro w ⟨z1, z2, z3, z4, z5, z6, z7⟩
                unfold rq43
                go_simp
              simp only [rq43d, Act.put, List.setIfInBounds_toArray, List.set_cons_zero, List.set_cons_succ]
              refine wpAnyH_take (i := 44) (oi := rq44) (v := .bool false) rfl (by kernel_rfl) (by kernel_rfl) (by kernel_rfl) (fun c _ w h => hQP c _ _ _ w h) (Or.inl ⟨by rfl, ?_⟩) hS ?_
              · rintro w ⟨z1, z2, z3, z4, z5, z6, z7⟩
                unfold rq44
                go_simp
              simp only [rq44d, Act.put, List.setIfInBounds_toArray, List.set_cons_zero, List.set_cons_succ]
              refine wpAnyH_take (i := 45) (oi := rq45) (v := .bool false) rfl (by kernel_rfl) (by kernel_rfl) (by kernel_rfl) (fun c _ w h => hQP c _ _ _ w h) (Or.inl ⟨by rfl, ?_⟩) hS ?_
              · rintro w ⟨z1, z2, z3, z4, z5, z6, z7⟩
                unfold rq45
                go_simp
              simp only [rq45d, Act.put, List.setIfInBounds_toArray, List.set_cons_zero, List.set_cons_succ]
              refine wpAnyH_take (i := 46) (oi := rq46) (v := .slice (some ⟨g, 0, none⟩) 4 4) rfl (by kernel_rfl) (by kernel_rfl) (by kernel_rfl) (fun c _ w h => hQP c _ _ _ w h) (Or.inl ⟨by rfl, ?_⟩) hS ?_
              · rintro w ⟨z1, z2, z3, z4, z5, z6, z7⟩
                unfold rq46
                go_simp
              simp only [rq46d, Act.put, List.setIfInBounds_toArray, List.set_cons_zero, List.set_cons_succ]
              refine wpAnyH_take (i := 47) (oi := rq47) (v := .pointer (some ⟨g, 1, none⟩)) rfl (by kernel_rfl) (by kernel_rfl) (by kernel_rfl) (fun c _ w h => hQP c _ _ _ w h) (Or.inl ⟨by rfl, ?_⟩) hS ?_
              · rintro w ⟨z1, z2, z3, z4, z5, z6, z7⟩
                unfold rq47
                go_simp
              simp only [rq47d, Act.put, List.setIfInBounds_toArray, List.set_cons_zero, List.set_cons_succ]
              cases fn
              · refine wpAnyH_take (i := 48) (oi := rq48) (v := .bool false) rfl (by kernel_rfl) (by kernel_rfl) (by kernel_rfl) (fun c _ w h => hQP c _ _ _ w h) (Or.inl ⟨by rfl, ?_⟩) hS ?_
                · rintro w ⟨z1, z2, z3, z4, z5, z6, z7⟩
                  unfold rq48
                  go_simp
                simp only [rq48d, Act.put, List.setIfInBounds_toArray, List.set_cons_zero, List.set_cons_succ]
                refine wpAnyH_take (i := 49) (oi := rq49) (v := .bool false) rfl (by kernel_rfl) (by kernel_rfl) (by kernel_rfl) (fun c _ w h => hQP c _ _ _ w h) (Or.inl ⟨by rfl, ?_⟩) hS ?_
                · rintro w ⟨z1, z2, z3, z4, z5, z6, z7⟩
                  unfold rq49
                  go_simp
                simp only [rq49d, Act.put, List.setIfInBounds_toArray, List.set_cons_zero, List.set_cons_succ]
                refine wpAnyH_take (i := 50) (oi := rq50) (v := undef) rfl (by kernel_rfl) (by kernel_rfl) (by kernel_rfl) (fun c _ w h => hQP c _ _ _ w h) (Or.inr ⟨by rfl, rfl⟩) hS ?_
                simp only [rq50d, Act.put, List.setIfInBounds_toArray, List.set_cons_zero, List.set_cons_succ]
                refine wpAnyH_take (i := 51) (oi := rq51) (v := undef) rfl (by kernel_rfl) (by kernel_rfl) (by kernel_rfl) (fun c _ w h => hQP c _ _ _ w h) (Or.inr ⟨by rfl, rfl⟩) hS ?_
                simp only [rq51d, Act.put, List.setIfInBounds_toArray, List.set_cons_zero, List.set_cons_succ]
                refine wpAnyH_take (i := 52) (oi := rq52) (v := undef) rfl (by kernel_rfl) (by kernel_rfl) (by kernel_rfl) (fun c _ w h => hQP c _ _ _ w h) (Or.inr ⟨by rfl, rfl⟩) hS ?_
                simp only [rq52d, Act.put, List.setIfInBounds_toArray, List.set_cons_zero, List.set_cons_succ]
                refine wpAnyH_take (i := 53) (oi := rq53) (v := undef) rfl (by kernel_rfl) (by kernel_rfl) (by kernel_rfl) (fun c _ w h => hQP c _ _ _ w h) (Or.inr ⟨by rfl, rfl⟩) hS ?_
                simp only [rq53d, Act.put, List.setIfInBounds_toArray, List.set_cons_zero, List.set_cons_succ]
                refine wpAnyH_take (i := 54) (oi := rq54) (v := .bool false) rfl (by kernel_rfl) (by kernel_rfl) (by kernel_rfl) (fun c _ w h => hQP c _ _ _ w h) (Or.inl ⟨by rfl, ?_⟩) hS ?_
                · rintro w ⟨z1, z2, z3, z4, z5, z6, z7⟩
                  unfold rq54
                  go_simp
                simp only [rq54d, Act.put, List.setIfInBounds_toArray, List.set_cons_zero, List.set_cons_succ]
                refine wpAnyH_take (i := 55) (oi := rq55) (v := .bool false) rfl (by kernel_rfl) (by kernel_rfl) (by kernel_rfl) (fun c _ w h => hQP c _ _ _ w h) (Or.inl ⟨by rfl, ?_⟩) hS ?_
                · rintro w ⟨z1, z2, z3, z4, z5, z6, z7⟩
                  unfold rq55
                  go_simp
                simp only [rq55d, Act.put, List.setIfInBounds_toArray, List.set_cons_zero, List.set_cons_succ]
                refine wpAnyH_take (i := 56) (oi := rq56) (v := .bool false) rfl (by kernel_rfl) (by kernel_rfl) (by kernel_rfl) (fun c _ w h => hQP c _ _ _ w h) (Or.inl ⟨by rfl, ?_⟩) hS ?_
                · rintro w ⟨z1, z2, z3, z4, z5, z6, z7⟩
                  unfold rq56
                  go_simp
                simp only [rq56d, Act.put, List.setIfInBounds_toArray, List.set_cons_zero, List.set_cons_succ]
                refine wpAnyH_take (i := 57) (oi := rq57) (v := .pointer (some ⟨p, 3, none⟩)) rfl (by kernel_rfl) (by kernel_rfl) (by kernel_rfl) (fun c _ w h => hQP c _ _ _ w h) (Or.inl ⟨by rfl, ?_⟩) hS ?_
                · rintro w ⟨z1, z2, z3, z4, z5, z6, z7⟩
                  unfold rq57
                  go_simp
                simp only [rq57d, Act.put, List.setIfInBounds_toArray, List.set_cons_zero, List.set_cons_succ]
                refine wpAnyH_take (i := 58) (oi := rq58) (v := .int .i64 n) rfl (by kernel_rfl) (by kernel_rfl) (by kernel_rfl) (fun c _ w h => hQP c _ _ _ w h) (Or.inl ⟨by rfl, ?_⟩) hS ?_
                · rintro w ⟨z1, z2, z3, z4, z5, z6, z7⟩
                  unfold rq58
                  go_simp
                simp only [rq58d, Act.put, List.setIfInBounds_toArray, List.set_cons_zero, List.set_cons_succ]
                cases q7 : decide (n < 0)
                · refine wpAnyH_take (i := 59) (oi := rq59) (v := .bool false) rfl (by kernel_rfl) (by kernel_rfl) (by kernel_rfl) (fun c _ w h => hQP c _ _ _ w h) (Or.inl ⟨by rfl, ?_⟩) hS ?_
                  · rintro w ⟨z1, z2, z3, z4, z5, z6, z7⟩
                    unfold rq59
                    go_simp
                    all_goals (have hq := q7; simp at hq ⊢; first | omega | assumption | exact hq | grind)
                  simp only [rq59d, Act.put, List.setIfInBounds_toArray, List.set_cons_zero, List.set_cons_succ]
                  refine wpAnyH_take (i := 60) (oi := rq60) (v := .bool false) rfl (by kernel_rfl) (by kernel_rfl) (by kernel_rfl) (fun c _ w h => hQP c _ _ _ w h) (Or.inl ⟨by rfl, ?_⟩) hS ?_
                  · rintro w ⟨z1, z2, z3, z4, z5, z6, z7⟩
                    unfold rq60
                    go_simp
                  simp only [rq60d, Act.put, List.setIfInBounds_toArray, List.set_cons_zero, List.set_cons_succ]
                  refine wpAnyH_take (i := 61) (oi := rq61) (v := .bool false) rfl (by kernel_rfl) (by kernel_rfl) (by kernel_rfl) (fun c _ w h => hQP c _ _ _ w h) (Or.inl ⟨by rfl, ?_⟩) hS ?_
                  · rintro w ⟨z1, z2, z3, z4, z5, z6, z7⟩
                    unfold rq61
                    go_simp
                  simp only [rq61d, Act.put, List.setIfInBounds_toArray, List.set_cons_zero, List.set_cons_succ]
                  refine wpAnyH_take (i := 62) (oi := rq62) (v := .slice (some ⟨g, 0, none⟩) 4 4) rfl (by kernel_rfl) (by kernel_rfl) (by kernel_rfl) (fun c _ w h => hQP c _ _ _ w h) (Or.inl ⟨by rfl, ?_⟩) hS ?_
                  · rintro w ⟨z1, z2, z3, z4, z5, z6, z7⟩
                    unfold rq62
                    go_simp
                  simp only [rq62d, Act.put, List.setIfInBounds_toArray, List.set_cons_zero, List.set_cons_succ]
                  refine wpAnyH_take (i := 63) (oi := rq63) (v := .pointer (some ⟨g, 2, none⟩)) rfl (by kernel_rfl) (by kernel_rfl) (by kernel_rfl) (fun c _ w h => hQP c _ _ _ w h) (Or.inl ⟨by rfl, ?_⟩) hS ?_
                  · rintro w ⟨z1, z2, z3, z4, z5, z6, z7⟩
                    unfold rq63
                    go_simp
                  simp only [rq63d, Act.put, List.setIfInBounds_toArray, List.set_cons_zero, List.set_cons_succ]
                  cases fu
                  · refine wpAnyH_take (i := 64) (oi := rq64) (v := .bool false) rfl (by kernel_rfl) (by kernel_rfl) (by kernel_rfl) (fun c _ w h => hQP c _ _ _ w h) (Or.inl ⟨by rfl, ?_⟩) hS ?_
                    · rintro w ⟨z1, z2, z3, z4, z5, z6, z7⟩
                      unfold rq64
                      go_simp
                    simp only [rq64d, Act.put, List.setIfInBounds_toArray, List.set_cons_zero, List.set_cons_succ]
                    refine wpAnyH_take (i := 65) (oi := rq65) (v := .bool true) rfl (by kernel_rfl) (by kernel_rfl) (by kernel_rfl) (fun c _ w h => hQP c _ _ _ w h) (Or.inl ⟨by rfl, ?_⟩) hS ?_
                    · rintro w ⟨z1, z2, z3, z4, z5, z6, z7⟩
                      unfold rq65
                      go_simp
                    simp only [rq65d, Act.put, List.setIfInBounds_toArray, List.set_cons_zero, List.set_cons_succ]
                    refine wpAnyH_take (i := 66) (oi := rq66) (v := .bool true) rfl (by kernel_rfl) (by kernel_rfl) (by kernel_rfl) (fun c _ w h => hQP c _ _ _ w h) (Or.inl ⟨by rfl, ?_⟩) hS ?_
                    · rintro w ⟨z1, z2, z3, z4, z5, z6, z7⟩
                      unfold rq66
                      go_simp
                    simp only [rq66d, Act.put, List.setIfInBounds_toArray, List.set_cons_zero, List.set_cons_succ]
                    refine wpAnyH_take (i := 67) (oi := rq67) (v := .pointer (some ⟨p, 3, none⟩)) rfl (by kernel_rfl) (by kernel_rfl) (by kernel_rfl) (fun c _ w h => hQP c _ _ _ w h) (Or.inl ⟨by rfl, ?_⟩) hS ?_
                    · rintro w ⟨z1, z2, z3, z4, z5, z6, z7⟩
                      unfold rq67
                      go_simp
                    simp only [rq67d, Act.put, List.setIfInBounds_toArray, List.set_cons_zero, List.set_cons_succ]
                    refine wpAnyH_take (i := 68) (oi := rq68) (v := .int .i64 n) rfl (by kernel_rfl) (by kernel_rfl) (by kernel_rfl) (fun c _ w h => hQP c _ _ _ w h) (Or.inl ⟨by rfl, ?_⟩) hS ?_
                    · rintro w ⟨z1, z2, z3, z4, z5, z6, z7⟩
                      unfold rq68
                      go_simp
                    simp only [rq68d, Act.put, List.setIfInBounds_toArray, List.set_cons_zero, List.set_cons_succ]
                    cases q8 : (n != 0)
                    · refine wpAnyH_take (i := 69) (oi := rq69) (v := .bool false) rfl (by kernel_rfl) (by kernel_rfl) (by kernel_rfl) (fun c _ w h => hQP c _ _ _ w h) (Or.inl ⟨by rfl, ?_⟩) hS ?_
                      · rintro w ⟨z1, z2, z3, z4, z5, z6, z7⟩
                        unfold rq69
                        go_simp
                        all_goals (have hq := q8; simp at hq ⊢; first | omega | assumption | exact hq | grind)
                      simp only [rq69d, Act.put, List.setIfInBounds_toArray, List.set_cons_zero, List.set_cons_succ]
                      refine wpAnyH_take (i := 70) (oi := rq70) (v := .bool false) rfl (by kernel_rfl) (by kernel_rfl) (by kernel_rfl) (fun c _ w h => hQP c _ _ _ w h) (Or.inl ⟨by rfl, ?_⟩) hS ?_
                      · rintro w ⟨z1, z2, z3, z4, z5, z6, z7⟩
                        unfold rq70
                        go_simp
                      simp only [rq70d, Act.put, List.setIfInBounds_toArray, List.set_cons_zero, List.set_cons_succ]
                      refine wpAnyH_take (i := 71) (oi := rq71) (v := .bool false) rfl (by kernel_rfl) (by kernel_rfl) (by kernel_rfl) (fun c _ w h => hQP c _ _ _ w h) (Or.inl ⟨by rfl, ?_⟩) hS ?_
                      · rintro w ⟨z1, z2, z3, z4, z5, z6, z7⟩
                        unfold rq71
                        go_simp
                      simp only [rq71d, Act.put, List.setIfInBounds_toArray, List.set_cons_zero, List.set_cons_succ]
                      exact wpAnyH_done (by kernel_rfl) (hQ _ _ _ _ _ _ _ _ _ _ _ _ _ _ _ _ _ _ _ _ _ _ _ _ _ _ _ _ _ _ _ _ _ _ _ _ _ _ _ _ _ _ _ _ _ _ _ _ _ _ _ _ _ _ _ _ _ _ _ _ _ _ _ _ _ _ _ _ _ _ _ _ _ (by first | rfl | (simp only [q1, q2, q3, q4, qm, q7, q8]; rfl) | simp [q1, q2, q3, q4, qm, q7, q8]) B) _
                    · refine wpAnyH_take (i := 69) (oi := rq69) (v := .bool true) rfl (by kernel_rfl) (by kernel_rfl) (by kernel_rfl) (fun c _ w h => hQP c _ _ _ w h) (Or.inl ⟨by rfl, ?_⟩) hS ?_
                      · rintro w ⟨z1, z2, z3, z4, z5, z6, z7⟩
                        unfold rq69
                        go_simp
                        all_goals (have hq := q8; simp at hq ⊢; first | omega | assumption | exact hq | grind)
                      simp only [rq69d, Act.put, List.setIfInBounds_toArray, List.set_cons_zero, List.set_cons_succ]
                      refine wpAnyH_take (i := 70) (oi := rq70) (v := .bool true) rfl (by kernel_rfl) (by kernel_rfl) (by kernel_rfl) (fun c _ w h => hQP c _ _ _ w h) (Or.inl ⟨by rfl, ?_⟩) hS ?_
                      · rintro w ⟨z1, z2, z3, z4, z5, z6, z7⟩
                        unfold rq70
                        go_simp
                      simp only [rq70d, Act.put, List.setIfInBounds_toArray, List.set_cons_zero, List.set_cons_succ]
                      refine wpAnyH_take (i := 71) (oi := rq71) (v := .bool true) rfl (by kernel_rfl) (by kernel_rfl) (by kernel_rfl) (fun c _ w h => hQP c _ _ _ w h) (Or.inl ⟨by rfl, ?_⟩) hS ?_
                      · rintro w ⟨z1, z2, z3, z4, z5, z6, z7⟩
                        unfold rq71
                        go_simp
                      simp only [rq71d, Act.put, List.setIfInBounds_toArray, List.set_cons_zero, List.set_cons_succ]
                      exact wpAnyH_done (by kernel_rfl) (hQ _ _ _ _ _ _ _ _ _ _ _ _ _ _ _ _ _ _ _ _ _ _ _ _ _ _ _ _ _ _ _ _ _ _ _ _ _ _ _ _ _ _ _ _ _ _ _ _ _ _ _ _ _ _ _ _ _ _ _ _ _ _ _ _ _ _ _ _ _ _ _ _ _ (by first | rfl | (simp only [q1, q2, q3, q4, qm, q7, q8]; rfl) | simp [q1, q2, q3, q4, qm, q7, q8]) B) _
                  · refine wpAnyH_take (i := 64) (oi := rq64) (v := .bool true) rfl (by kernel_rfl) (by kernel_rfl) (by kernel_rfl) (fun c _ w h => hQP c _ _ _ w h) (Or.inl ⟨by rfl, ?_⟩) hS ?_
                    · rintro w ⟨z1, z2, z3, z4, z5, z6, z7⟩
                      unfold rq64
                      go_simp
                    simp only [rq64d, Act.put, List.setIfInBounds_toArray, List.set_cons_zero, List.set_cons_succ]
                    refine wpAnyH_take (i := 65) (oi := rq65) (v := .bool false) rfl (by kernel_rfl) (by kernel_rfl) (by kernel_rfl) (fun c _ w h => hQP c _ _ _ w h) (Or.inl ⟨by rfl, ?_⟩) hS ?_
                    · rintro w ⟨z1, z2, z3, z4, z5, z6, z7⟩
                      unfold rq65
                      go_simp
                    simp only [rq65d, Act.put, List.setIfInBounds_toArray, List.set_cons_zero, List.set_cons_succ]
                    refine wpAnyH_take (i := 66) (oi := rq66) (v := .bool false) rfl (by kernel_rfl) (by kernel_rfl) (by kernel_rfl) (fun c _ w h => hQP c _ _ _ w h) (Or.inl ⟨by rfl, ?_⟩) hS ?_
                    · rintro w ⟨z1, z2, z3, z4, z5, z6, z7⟩
                      unfold rq66
                      go_simp
                    simp only [rq66d, Act.put, List.setIfInBounds_toArray, List.set_cons_zero, List.set_cons_succ]
                    refine wpAnyH_take (i := 67) (oi := rq67) (v := undef) rfl (by kernel_rfl) (by kernel_rfl) (by kernel_rfl) (fun c _ w h => hQP c _ _ _ w h) (Or.inr ⟨by rfl, rfl⟩) hS ?_
                    simp only [rq67d, Act.put, List.setIfInBounds_toArray, List.set_cons_zero, List.set_cons_succ]
                    refine wpAnyH_take (i := 68) (oi := rq68) (v := undef) rfl (by kernel_rfl) (by kernel_rfl) (by kernel_rfl) (fun c _ w h => hQP c _ _ _ w h) (Or.inr ⟨by rfl, rfl⟩) hS ?_
                    simp only [rq68d, Act.put, List.setIfInBounds_toArray, List.set_cons_zero, List.set_cons_succ]
                    refine wpAnyH_take (i := 69) (oi := rq69) (v := undef) rfl (by kernel_rfl) (by kernel_rfl) (by kernel_rfl) (fun c _ w h => hQP c _ _ _ w h) (Or.inr ⟨by rfl, rfl⟩) hS ?_
                    simp only [rq69d, Act.put, List.setIfInBounds_toArray, List.set_cons_zero, List.set_cons_succ]
                    refine wpAnyH_take (i := 70) (oi := rq70) (v := .bool false) rfl (by kernel_rfl) (by kernel_rfl) (by kernel_rfl) (fun c _ w h => hQP c _ _ _ w h) (Or.inl ⟨by rfl, ?_⟩) hS ?_
                    · rintro w ⟨z1, z2, z3, z4, z5, z6, z7⟩
                      unfold rq70
                      go_simp
                    simp only [rq70d, Act.put, List.setIfInBounds_toArray, List.set_cons_zero, List.set_cons_succ]
                    refine wpAnyH_take (i := 71) (oi := rq71) (v := .bool false) rfl (by kernel_rfl) (by kernel_rfl) (by kernel_rfl) (fun c _ w h => hQP c _ _ _ w h) (Or.inl ⟨by rfl, ?_⟩) hS ?_
                    · rintro w ⟨z1, z2, z3, z4, z5, z6, z7⟩
                      unfold rq71
                      go_simp
                    simp only [rq71d, Act.put, List.setIfInBounds_toArray, List.set_cons_zero, List.set_cons_succ]
                    exact wpAnyH_done (by kernel_rfl) (hQ _ _ _ _ _ _ _ _ _ _ _ _ _ _ _ _ _ _ _ _ _ _ _ _ _ _ _ _ _ _ _ _ _ _ _ _ _ _ _ _ _ _ _ _ _ _ _ _ _ _ _ _ _ _ _ _ _ _ _ _ _ _ _ _ _ _ _ _ _ _ _ _ _ (by first | rfl | (simp only [q1, q2, q3, q4, qm, q7]; rfl) | simp [q1, q2, q3, q4, qm, q7]) B) _
                · refine wpAnyH_take (i := 59) (oi := rq59) (v := .bool true) rfl (by kernel_rfl) (by kernel_rfl) (by kernel_rfl) (fun c _ w h => hQP c _ _ _ w h) (Or.inl ⟨by rfl, ?_⟩) hS ?_
                  · rintro w ⟨z1, z2, z3, z4, z5, z6, z7⟩
                    unfold rq59
                    go_simp
                    all_goals (have hq := q7; simp at hq ⊢; first | omega | assumption | exact hq | grind)
                  simp only [rq59d, Act.put, List.setIfInBounds_toArray, List.set_cons_zero, List.set_cons_succ]
                  refine wpAnyH_take (i := 60) (oi := rq60) (v := .bool true) rfl (by kernel_rfl) (by kernel_rfl) (by kernel_rfl) (fun c _ w h => hQP c _ _ _ w h) (Or.inl ⟨by rfl, ?_⟩) hS ?_
                  · rintro w ⟨z1, z2, z3, z4, z5, z6, z7⟩
                    unfold rq60
                    go_simp
                  simp only [rq60d, Act.put, List.setIfInBounds_toArray, List.set_cons_zero, List.set_cons_succ]
                  refine wpAnyH_take (i := 61) (oi := rq61) (v := .bool true) rfl (by kernel_rfl) (by kernel_rfl) (by kernel_rfl) (fun c _ w h => hQP c _ _ _ w h) (Or.inl ⟨by rfl, ?_⟩) hS ?_
                  · rintro w ⟨z1, z2, z3, z4, z5, z6, z7⟩
                    unfold rq61
                    go_simp
                  simp only [rq61d, Act.put, List.setIfInBounds_toArray, List.set_cons_zero, List.set_cons_succ]
                  refine wpAnyH_take (i := 62) (oi := rq62) (v := undef) rfl (by kernel_rfl) (by kernel_rfl) (by kernel_rfl) (fun c _ w h => hQP c _ _ _ w h) (Or.inr ⟨by rfl, rfl⟩) hS ?_
                  simp only [rq62d, Act.put, List.setIfInBounds_toArray, List.set_cons_zero, List.set_cons_succ]
                  refine wpAnyH_take (i := 63) (oi := rq63) (v := undef) rfl (by kernel_rfl) (by kernel_rfl) (by kernel_rfl) (fun c _ w h => hQP c _ _ _ w h) (Or.inr ⟨by rfl, rfl⟩) hS ?_
                  simp only [rq63d, Act.put, List.setIfInBounds_toArray, List.set_cons_zero, List.set_cons_succ]
                  refine wpAnyH_take (i := 64) (oi := rq64) (v := undef) rfl (by kernel_rfl) (by kernel_rfl) (by kernel_rfl) (fun c _ w h => hQP c _ _ _ w h) (Or.inr ⟨by rfl, rfl⟩) hS ?_
                  simp only [rq64d, Act.put, List.setIfInBounds_toArray, List.set_cons_zero, List.set_cons_succ]
                  refine wpAnyH_take (i := 65) (oi := rq65) (v := undef) rfl (by kernel_rfl) (by kernel_rfl) (by kernel_rfl) (fun c _ w h => hQP c _ _ _ w h) (Or.inr ⟨by rfl, rfl⟩) hS ?_
                  simp only [rq65d, Act.put, List.setIfInBounds_toArray, List.set_cons_zero, List.set_cons_succ]
                  refine wpAnyH_take (i := 66) (oi := rq66) (v := undef) rfl (by kernel_rfl) (by kernel_rfl) (by kernel_rfl) (fun c _ w h => hQP c _ _ _ w h) (Or.inr ⟨by rfl, rfl⟩) hS ?_
                  simp only [rq66d, Act.put, List.setIfInBounds_toArray, List.set_cons_zero, List.set_cons_succ]
                  refine wpAnyH_take (i := 67) (oi := rq67) (v := undef) rfl (by kernel_rfl) (by kernel_rfl) (by kernel_rfl) (fun c _ w h => hQP c _ _ _ w h) (Or.inr ⟨by rfl, rfl⟩) hS ?_
                  simp only [rq67d, Act.put, List.setIfInBounds_toArray, List.set_cons_zero, List.set_cons_succ]
                  refine wpAnyH_take (i := 68) (oi := rq68) (v := undef) rfl (by kernel_rfl) (by kernel_rfl) (by kernel_rfl) (fun c _ w h => hQP c _ _ _ w h) (Or.inr ⟨by rfl, rfl⟩) hS ?_
                  simp only [rq68d, Act.put, List.setIfInBounds_toArray, List.set_cons_zero, List.set_cons_succ]
                  refine wpAnyH_take (i := 69) (oi := rq69) (v := undef) rfl (by kernel_rfl) (by kernel_rfl) (by kernel_rfl) (fun c _ w h => hQP c _ _ _ w h) (Or.inr ⟨by rfl, rfl⟩) hS ?_
                  simp only [rq69d, Act.put, List.setIfInBounds_toArray, List.set_cons_zero, List.set_cons_succ]
                  refine wpAnyH_take (i := 70) (oi := rq70) (v := undef) rfl (by kernel_rfl) (by kernel_rfl) (by kernel_rfl) (fun c _ w h => hQP c _ _ _ w h) (Or.inr ⟨by rfl, rfl⟩) hS ?_
                  simp only [rq70d, Act.put, List.setIfInBounds_toArray, List.set_cons_zero, List.set_cons_succ]
                  refine wpAnyH_take (i := 71) (oi := rq71) (v := .bool true) rfl (by kernel_rfl) (by kernel_rfl) (by kernel_rfl) (fun c _ w h => hQP c _ _ _ w h) (Or.inl ⟨by rfl, ?_⟩) hS ?_
                  · rintro w ⟨z1, z2, z3, z4, z5, z6, z7⟩
                    unfold rq71
                    go_simp
                  simp only [rq71d, Act.put, List.setIfInBounds_toArray, List.set_cons_zero, List.set_cons_succ]
                  exact wpAnyH_done (by kernel_rfl) (hQ _ _ _ _ _ _ _ _ _ _ _ _ _ _ _ _ _ _ _ _ _ _ _ _ _ _ _ _ _ _ _ _ _ _ _ _ _ _ _ _ _ _ _ _ _ _ _ _ _ _ _ _ _ _ _ _ _ _ _ _ _ _ _ _ _ _ _ _ _ _ _ _ _ (by first | rfl | (simp only [q1, q2, q3, q4, qm, q7]; rfl) | simp [q1, q2, q3, q4, qm, q7]) B) _
              · refine wpAnyH_take (i := 48) (oi := rq48) (v := .bool true) rfl (by kernel_rfl) (by kernel_rfl) (by kernel_rfl) (fun c _ w h => hQP c _ _ _ w h) (Or.inl ⟨by rfl, ?_⟩) hS ?_
                · rintro w ⟨z1, z2, z3, z4, z5, z6, z7⟩
                  unfold rq48
                  go_simp
                simp only [rq48d, Act.put, List.setIfInBounds_toArray, List.set_cons_zero, List.set_cons_succ]
                refine wpAnyH_take (i := 49) (oi := rq49) (v := .bool true) rfl (by kernel_rfl) (by kernel_rfl) (by kernel_rfl) (fun c _ w h => hQP c _ _ _ w h) (Or.inl ⟨by rfl, ?_⟩) hS ?_
                · rintro w ⟨z1, z2, z3, z4, z5, z6, z7⟩
                  unfold rq49
                  go_simp
                simp only [rq49d, Act.put, List.setIfInBounds_toArray, List.set_cons_zero, List.set_cons_succ]
                refine wpAnyH_take (i := 50) (oi := rq50) (v := .pointer (some ⟨p, 2, none⟩)) rfl (by kernel_rfl) (by kernel_rfl) (by kernel_rfl) (fun c _ w h => hQP c _ _ _ w h) (Or.inl ⟨by rfl, ?_⟩) hS ?_
                · rintro w ⟨z1, z2, z3, z4, z5, z6, z7⟩
                  unfold rq50
                  go_simp
                simp only [rq50d, Act.put, List.setIfInBounds_toArray, List.set_cons_zero, List.set_cons_succ]
                refine wpAnyH_take (i := 51) (oi := rq51) (v := .string name) rfl (by kernel_rfl) (by kernel_rfl) (by kernel_rfl) (fun c _ w h => hQP c _ _ _ w h) (Or.inl ⟨by rfl, ?_⟩) hS ?_
                · rintro w ⟨z1, z2, z3, z4, z5, z6, z7⟩
                  unfold rq51
                  go_simp
                simp only [rq51d, Act.put, List.setIfInBounds_toArray, List.set_cons_zero, List.set_cons_succ]
                cases qn : Lx.name name
                · refine wpAnyH_ready (rs := [52]) (by kernel_rfl) (by simp) ?_
                  refine AllReadyH.cons (o := rq52) rfl (fun K hK => ?_) AllReadyH.nil
                  rw [if_pos (show Region.wanted _ _ = true from rfl)]
                  obtain ⟨z1, z2, z3, z4, z5, z6, z7⟩ := hS
                  unfold rq52
                  go_wp2_with (go_at_call 50; refine (refName_any _ _ hsn).mono ?_; rintro r w5 ⟨rfl, bb⟩; have B := B.tr le_rfl' bb)
                  refine hK.out _ _ (hkeep _ B) (fun hS => ?_)
                  simp only [List.setIfInBounds_toArray, List.set_cons_zero, List.set_cons_succ]
                  refine wpAnyH_take (i := 53) (oi := rq53) (v := .bool true) rfl (by kernel_rfl) (by kernel_rfl) (by kernel_rfl) (fun c _ w h => hQP c _ _ _ w h) (Or.inl ⟨by rfl, ?_⟩) hS ?_
                  · rintro w ⟨z1, z2, z3, z4, z5, z6, z7⟩
                    unfold rq53
                    go_simp
                  simp only [rq53d, Act.put, List.setIfInBounds_toArray, List.set_cons_zero, List.set_cons_succ]
                  refine wpAnyH_take (i := 54) (oi := rq54) (v := .bool true) rfl (by kernel_rfl) (by kernel_rfl) (by kernel_rfl) (fun c _ w h => hQP c _ _ _ w h) (Or.inl ⟨by rfl, ?_⟩) hS ?_
                  · rintro w ⟨z1, z2, z3, z4, z5, z6, z7⟩
                    unfold rq54
                    go_simp
                  simp only [rq54d, Act.put, List.setIfInBounds_toArray, List.set_cons_zero, List.set_cons_succ]
                  refine wpAnyH_take (i := 55) (oi := rq55) (v := .bool true) rfl (by kernel_rfl) (by kernel_rfl) (by kernel_rfl) (fun c _ w h => hQP c _ _ _ w h) (Or.inl ⟨by rfl, ?_⟩) hS ?_
                  · rintro w ⟨z1, z2, z3, z4, z5, z6, z7⟩
                    unfold rq55
                    go_simp
                  simp only [rq55d, Act.put, List.setIfInBounds_toArray, List.set_cons_zero, List.set_cons_succ]
                  refine wpAnyH_take (i := 56) (oi := rq56) (v := .bool true) rfl (by kernel_rfl) (by kernel_rfl) (by kernel_rfl) (fun c _ w h => hQP c _ _ _ w h) (Or.inl ⟨by rfl, ?_⟩) hS ?_
                  · rintro w ⟨z1, z2, z3, z4, z5, z6, z7⟩
                    unfold rq56
                    go_simp
                  simp only [rq56d, Act.put, List.setIfInBounds_toArray, List.set_cons_zero, List.set_cons_succ]
                  refine wpAnyH_take (i := 57) (oi := rq57) (v := undef) rfl (by kernel_rfl) (by kernel_rfl) (by kernel_rfl) (fun c _ w h => hQP c _ _ _ w h) (Or.inr ⟨by rfl, rfl⟩) hS ?_
                  simp only [rq57d, Act.put, List.setIfInBounds_toArray, List.set_cons_zero, List.set_cons_succ]
                  refine wpAnyH_take (i := 58) (oi := rq58) (v := undef) rfl (by kernel_rfl) (by kernel_rfl) (by kernel_rfl) (fun c _ w h => hQP c _ _ _ w h) (Or.inr ⟨by rfl, rfl⟩) hS ?_
                  simp only [rq58d, Act.put, List.setIfInBounds_toArray, List.set_cons_zero, List.set_cons_succ]
                  refine wpAnyH_take (i := 59) (oi := rq59) (v := undef) rfl (by kernel_rfl) (by kernel_rfl) (by kernel_rfl) (fun c _ w h => hQP c _ _ _ w h) (Or.inr ⟨by rfl, rfl⟩) hS ?_
                  simp only [rq59d, Act.put, List.setIfInBounds_toArray, List.set_cons_zero, List.set_cons_succ]
                  refine wpAnyH_take (i := 60) (oi := rq60) (v := .bool true) rfl (by kernel_rfl) (by kernel_rfl) (by kernel_rfl) (fun c _ w h => hQP c _ _ _ w h) (Or.inl ⟨by rfl, ?_⟩) hS ?_
                  · rintro w ⟨z1, z2, z3, z4, z5, z6, z7⟩
                    unfold rq60
                    go_simp
                  simp only [rq60d, Act.put, List.setIfInBounds_toArray, List.set_cons_zero, List.set_cons_succ]
                  refine wpAnyH_take (i := 61) (oi := rq61) (v := .bool true) rfl (by kernel_rfl) (by kernel_rfl) (by kernel_rfl) (fun c _ w h => hQP c _ _ _ w h) (Or.inl ⟨by rfl, ?_⟩) hS ?_
                  · rintro w ⟨z1, z2, z3, z4, z5, z6, z7⟩
                    unfold rq61
                    go_simp
                  simp only [rq61d, Act.put, List.setIfInBounds_toArray, List.set_cons_zero, List.set_cons_succ]
                  refine wpAnyH_take (i := 62) (oi := rq62) (v := undef) rfl (by kernel_rfl) (by kernel_rfl) (by kernel_rfl) (fun c _ w h => hQP c _ _ _ w h) (Or.inr ⟨by rfl, rfl⟩) hS ?_
                  simp only [rq62d, Act.put, List.setIfInBounds_toArray, List.set_cons_zero, List.set_cons_succ]
                  refine wpAnyH_take (i := 63) (oi := rq63) (v := undef) rfl (by kernel_rfl) (by kernel_rfl) (by kernel_rfl) (fun c _ w h => hQP c _ _ _ w h) (Or.inr ⟨by rfl, rfl⟩) hS ?_
                  simp only [rq63d, Act.put, List.setIfInBounds_toArray, List.set_cons_zero, List.set_cons_succ]
                  refine wpAnyH_take (i := 64) (oi := rq64) (v := undef) rfl (by kernel_rfl) (by kernel_rfl) (by kernel_rfl) (fun c _ w h => hQP c _ _ _ w h) (Or.inr ⟨by rfl, rfl⟩) hS ?_
                  simp only [rq64d, Act.put, List.setIfInBounds_toArray, List.set_cons_zero, List.set_cons_succ]
                  refine wpAnyH_take (i := 65) (oi := rq65) (v := undef) rfl (by kernel_rfl) (by kernel_rfl) (by kernel_rfl) (fun c _ w h => hQP c _ _ _ w h) (Or.inr ⟨by rfl, rfl⟩) hS ?_
                  simp only [rq65d, Act.put, List.setIfInBounds_toArray, List.set_cons_zero, List.set_cons_succ]
                  refine wpAnyH_take (i := 66) (oi := rq66) (v := undef) rfl (by kernel_rfl) (by kernel_rfl) (by kernel_rfl) (fun c _ w h => hQP c _ _ _ w h) (Or.inr ⟨by rfl, rfl⟩) hS ?_
                  simp only [rq66d, Act.put, List.setIfInBounds_toArray, List.set_cons_zero, List.set_cons_succ]
                  refine wpAnyH_take (i := 67) (oi := rq67) (v := undef) rfl (by kernel_rfl) (by kernel_rfl) (by kernel_rfl) (fun c _ w h => hQP c _ _ _ w h) (Or.inr ⟨by rfl, rfl⟩) hS ?_
                  simp only [rq67d, Act.put, List.setIfInBounds_toArray, List.set_cons_zero, List.set_cons_succ]
                  refine wpAnyH_take (i := 68) (oi := rq68) (v := undef) rfl (by kernel_rfl) (by kernel_rfl) (by kernel_rfl) (fun c _ w h => hQP c _ _ _ w h) (Or.inr ⟨by rfl, rfl⟩) hS ?_
                  simp only [rq68d, Act.put, List.setIfInBounds_toArray, List.set_cons_zero, List.set_cons_succ]
                  refine wpAnyH_take (i := 69) (oi := rq69) (v := undef) rfl (by kernel_rfl) (by kernel_rfl) (by kernel_rfl) (fun c _ w h => hQP c _ _ _ w h) (Or.inr ⟨by rfl, rfl⟩) hS ?_
                  simp only [rq69d, Act.put, List.setIfInBounds_toArray, List.set_cons_zero, List.set_cons_succ]
                  refine wpAnyH_take (i := 70) (oi := rq70) (v := undef) rfl (by kernel_rfl) (by kernel_rfl) (by kernel_rfl) (fun c _ w h => hQP c _ _ _ w h) (Or.inr ⟨by rfl, rfl⟩) hS ?_
                  simp only [rq70d, Act.put, List.setIfInBounds_toArray, List.set_cons_zero, List.set_cons_succ]
                  refine wpAnyH_take (i := 71) (oi := rq71) (v := .bool true) rfl (by kernel_rfl) (by kernel_rfl) (by kernel_rfl) (fun c _ w h => hQP c _ _ _ w h) (Or.inl ⟨by rfl, ?_⟩) hS ?_
                  · rintro w ⟨z1, z2, z3, z4, z5, z6, z7⟩
                    unfold rq71
                    go_simp
                  simp only [rq71d, Act.put, List.setIfInBounds_toArray, List.set_cons_zero, List.set_cons_succ]
                  exact wpAnyH_done (by kernel_rfl) (hQ _ _ _ _ _ _ _ _ _ _ _ _ _ _ _ _ _ _ _ _ _ _ _ _ _ _ _ _ _ _ _ _ _ _ _ _ _ _ _ _ _ _ _ _ _ _ _ _ _ _ _ _ _ _ _ _ _ _ _ _ _ _ _ _ _ _ _ _ _ _ _ _ _ (by first | rfl | (simp only [q1, q2, q3, q4, qm, qn]; rfl) | simp [q1, q2, q3, q4, qm, qn]) B) _
                · refine wpAnyH_ready (rs := [52]) (by kernel_rfl) (by simp) ?_
                  refine AllReadyH.cons (o := rq52) rfl (fun K hK => ?_) AllReadyH.nil
                  rw [if_pos (show Region.wanted _ _ = true from rfl)]
                  obtain ⟨z1, z2, z3, z4, z5, z6, z7⟩ := hS
                  unfold rq52
                  go_wp2_with (go_at_call 50; refine (refName_any _ _ hsn).mono ?_; rintro r w6 ⟨rfl, bb⟩; have B := B.tr le_rfl' bb)
                  refine hK.out _ _ (hkeep _ B) (fun hS => ?_)
                  simp only [List.setIfInBounds_toArray, List.set_cons_zero, List.set_cons_succ]
                  refine wpAnyH_take (i := 53) (oi := rq53) (v := .bool false) rfl (by kernel_rfl) (by kernel_rfl) (by kernel_rfl) (fun c _ w h => hQP c _ _ _ w h) (Or.inl ⟨by rfl, ?_⟩) hS ?_
                  · rintro w ⟨z1, z2, z3, z4, z5, z6, z7⟩
                    unfold rq53
                    go_simp
                  simp only [rq53d, Act.put, List.setIfInBounds_toArray, List.set_cons_zero, List.set_cons_succ]
                  refine wpAnyH_take (i := 54) (oi := rq54) (v := .bool false) rfl (by kernel_rfl) (by kernel_rfl) (by kernel_rfl) (fun c _ w h => hQP c _ _ _ w h) (Or.inl ⟨by rfl, ?_⟩) hS ?_
                  · rintro w ⟨z1, z2, z3, z4, z5, z6, z7⟩
                    unfold rq54
                    go_simp
                  simp only [rq54d, Act.put, List.setIfInBounds_toArray, List.set_cons_zero, List.set_cons_succ]
                  refine wpAnyH_take (i := 55) (oi := rq55) (v := .bool false) rfl (by kernel_rfl) (by kernel_rfl) (by kernel_rfl) (fun c _ w h => hQP c _ _ _ w h) (Or.inl ⟨by rfl, ?_⟩) hS ?_
                  · rintro w ⟨z1, z2, z3, z4, z5, z6, z7⟩
                    unfold rq55
                    go_simp
                  simp only [rq55d, Act.put, List.setIfInBounds_toArray, List.set_cons_zero, List.set_cons_succ]
                  refine wpAnyH_take (i := 56) (oi := rq56) (v := .bool false) rfl (by kernel_rfl) (by kernel_rfl) (by kernel_rfl) (fun c _ w h => hQP c _ _ _ w h) (Or.inl ⟨by rfl, ?_⟩) hS ?_
                  · rintro w ⟨z1, z2, z3, z4, z5, z6, z7⟩
                    unfold rq56
                    go_simp
                  simp only [rq56d, Act.put, List.setIfInBounds_toArray, List.set_cons_zero, List.set_cons_succ]
                  refine wpAnyH_take (i := 57) (oi := rq57) (v := .pointer (some ⟨p, 3, none⟩)) rfl (by kernel_rfl) (by kernel_rfl) (by kernel_rfl) (fun c _ w h => hQP c _ _ _ w h) (Or.inl ⟨by rfl, ?_⟩) hS ?_
                  · rintro w ⟨z1, z2, z3, z4, z5, z6, z7⟩
                    unfold rq57
                    go_simp
                  simp only [rq57d, Act.put, List.setIfInBounds_toArray, List.set_cons_zero, List.set_cons_succ]
                  refine wpAnyH_take (i := 58) (oi := rq58) (v := .int .i64 n) rfl (by kernel_rfl) (by kernel_rfl) (by kernel_rfl) (fun c _ w h => hQP c _ _ _ w h) (Or.inl ⟨by rfl, ?_⟩) hS ?_
                  · rintro w ⟨z1, z2, z3, z4, z5, z6, z7⟩
                    unfold rq58
                    go_simp
                  simp only [rq58d, Act.put, List.setIfInBounds_toArray, List.set_cons_zero, List.set_cons_succ]
                  cases q7 : decide (n < 0)
                  · refine wpAnyH_take (i := 59) (oi := rq59) (v := .bool false) rfl (by kernel_rfl) (by kernel_rfl) (by kernel_rfl) (fun c _ w h => hQP c _ _ _ w h) (Or.inl ⟨by rfl, ?_⟩) hS ?_
                    · rintro w ⟨z1, z2, z3, z4, z5, z6, z7⟩
                      unfold rq59
                      go_simp
                      all_goals (have hq := q7; simp at hq ⊢; first | omega | assumption | exact hq | grind)
                    simp only [rq59d, Act.put, List.setIfInBounds_toArray, List.set_cons_zero, List.set_cons_succ]
                    refine wpAnyH_take (i := 60) (oi := rq60) (v := .bool false) rfl (by kernel_rfl) (by kernel_rfl) (by kernel_rfl) (fun c _ w h => hQP c _ _ _ w h) (Or.inl ⟨by rfl, ?_⟩) hS ?_
                    · rintro w ⟨z1, z2, z3, z4, z5, z6, z7⟩
                      unfold rq60
                      go_simp
                    simp only [rq60d, Act.put, List.setIfInBounds_toArray, List.set_cons_zero, List.set_cons_succ]
                    refine wpAnyH_take (i := 61) (oi := rq61) (v := .bool false) rfl (by kernel_rfl) (by kernel_rfl) (by kernel_rfl) (fun c _ w h => hQP c _ _ _ w h) (Or.inl ⟨by rfl, ?_⟩) hS ?_
                    · rintro w ⟨z1, z2, z3, z4, z5, z6, z7⟩
                      unfold rq61
                      go_simp
                    simp only [rq61d, Act.put, List.setIfInBounds_toArray, List.set_cons_zero, List.set_cons_succ]
                    refine wpAnyH_take (i := 62) (oi := rq62) (v := .slice (some ⟨g, 0, none⟩) 4 4) rfl (by kernel_rfl) (by kernel_rfl) (by kernel_rfl) (fun c _ w h => hQP c _ _ _ w h) (Or.inl ⟨by rfl, ?_⟩) hS ?_
                    · rintro w ⟨z1, z2, z3, z4, z5, z6, z7⟩
                      unfold rq62
                      go_simp
                    simp only [rq62d, Act.put, List.setIfInBounds_toArray, List.set_cons_zero, List.set_cons_succ]
                    refine wpAnyH_take (i := 63) (oi := rq63) (v := .pointer (some ⟨g, 2, none⟩)) rfl (by kernel_rfl) (by kernel_rfl) (by kernel_rfl) (fun c _ w h => hQP c _ _ _ w h) (Or.inl ⟨by rfl, ?_⟩) hS ?_
                    · rintro w ⟨z1, z2, z3, z4, z5, z6, z7⟩
                      unfold rq63
                      go_simp
                    simp only [rq63d, Act.put, List.setIfInBounds_toArray, List.set_cons_zero, List.set_cons_succ]
                    cases fu
                    · refine wpAnyH_take (i := 64) (oi := rq64) (v := .bool false) rfl (by kernel_rfl) (by kernel_rfl) (by kernel_rfl) (fun c _ w h => hQP c _ _ _ w h) (Or.inl ⟨by rfl, ?_⟩) hS ?_
                      · rintro w ⟨z1, z2, z3, z4, z5, z6, z7⟩
                        unfold rq64
                        go_simp
                      simp only [rq64d, Act.put, List.setIfInBounds_toArray, List.set_cons_zero, List.set_cons_succ]
                      refine wpAnyH_take (i := 65) (oi := rq65) (v := .bool true) rfl (by kernel_rfl) (by kernel_rfl) (by kernel_rfl) (fun c _ w h => hQP c _ _ _ w h) (Or.inl ⟨by rfl, ?_⟩) hS ?_
                      · rintro w ⟨z1, z2, z3, z4, z5, z6, z7⟩
                        unfold rq65
                        go_simp
                      simp only [rq65d, Act.put, List.setIfInBounds_toArray, List.set_cons_zero, List.set_cons_succ]
                      refine wpAnyH_take (i := 66) (oi := rq66) (v := .bool true) rfl (by kernel_rfl) (by kernel_rfl) (by kernel_rfl) (fun c _ w h => hQP c _ _ _ w h) (Or.inl ⟨by rfl, ?_⟩) hS ?_
                      · rintro w ⟨z1, z2, z3, z4, z5, z6, z7⟩
                        unfold rq66
                        go_simp
                      simp only [rq66d, Act.put, List.setIfInBounds_toArray, List.set_cons_zero, List.set_cons_succ]
                      refine wpAnyH_take (i := 67) (oi := rq67) (v := .pointer (some ⟨p, 3, none⟩)) rfl (by kernel_rfl) (by kernel_rfl) (by kernel_rfl) (fun c _ w h => hQP c _ _ _ w h) (Or.inl ⟨by rfl, ?_⟩) hS ?_
                      · rintro w ⟨z1, z2, z3, z4, z5, z6, z7⟩
                        unfold rq67
                        go_simp
                      simp only [rq67d, Act.put, List.setIfInBounds_toArray, List.set_cons_zero, List.set_cons_succ]
                      refine wpAnyH_take (i := 68) (oi := rq68) (v := .int .i64 n) rfl (by kernel_rfl) (by kernel_rfl) (by kernel_rfl) (fun c _ w h => hQP c _ _ _ w h) (Or.inl ⟨by rfl, ?_⟩) hS ?_
                      · rintro w ⟨z1, z2, z3, z4, z5, z6, z7⟩
                        unfold rq68
                        go_simp
                      simp only [rq68d, Act.put, List.setIfInBounds_toArray, List.set_cons_zero, List.set_cons_succ]
                      cases q8 : (n != 0)
                      · refine wpAnyH_take (i := 69) (oi := rq69) (v := .bool false) rfl (by kernel_rfl) (by kernel_rfl) (by kernel_rfl) (fun c _ w h => hQP c _ _ _ w h) (Or.inl ⟨by rfl, ?_⟩) hS ?_
                        · rintro w ⟨z1, z2, z3, z4, z5, z6, z7⟩
                          unfold rq69
                          go_simp
                          all_goals (have hq := q8; simp at hq ⊢; first | omega | assumption | exact hq | grind)
                        simp only [rq69d, Act.put, List.setIfInBounds_toArray, List.set_cons_zero, List.set_cons_succ]
                        refine wpAnyH_take (i := 70) (oi := rq70) (v := .bool false) rfl (by kernel_rfl) (by kernel_rfl) (by kernel_rfl) (fun c _ w h => hQP c _ _ _ w h) (Or.inl ⟨by rfl, ?_⟩) hS ?_
                        · rintro w ⟨z1, z2, z3, z4, z5, z6, z7⟩
                          unfold rq70
                          go_simp
                        simp only [rq70d, Act.put, List.setIfInBounds_toArray, List.set_cons_zero, List.set_cons_succ]
                        refine wpAnyH_take (i := 71) (oi := rq71) (v := .bool false) rfl (by kernel_rfl) (by kernel_rfl) (by kernel_rfl) (fun c _ w h => hQP c _ _ _ w h) (Or.inl ⟨by rfl, ?_⟩) hS ?_
                        · rintro w ⟨z1, z2, z3, z4, z5, z6, z7⟩
                          unfold rq71
                          go_simp
                        simp only [rq71d, Act.put, List.setIfInBounds_toArray, List.set_cons_zero, List.set_cons_succ]
                        exact wpAnyH_done (by kernel_rfl) (hQ _ _ _ _ _ _ _ _ _ _ _ _ _ _ _ _ _ _ _ _ _ _ _ _ _ _ _ _ _ _ _ _ _ _ _ _ _ _ _ _ _ _ _ _ _ _ _ _ _ _ _ _ _ _ _ _ _ _ _ _ _ _ _ _ _ _ _ _ _ _ _ _ _ (by first | rfl | (simp only [q1, q2, q3, q4, qm, qn, q7, q8]; rfl) | simp [q1, q2, q3, q4, qm, qn, q7, q8]) B) _
                      · refine wpAnyH_take (i := 69) (oi := rq69) (v := .bool true) rfl (by kernel_rfl) (by kernel_rfl) (by kernel_rfl) (fun c _ w h => hQP c _ _ _ w h) (Or.inl ⟨by rfl, ?_⟩) hS ?_
                        · rintro w ⟨z1, z2, z3, z4, z5, z6, z7⟩
                          unfold rq69
                          go_simp
                          all_goals (have hq := q8; simp at hq ⊢; first | omega | assumption | exact hq | grind)
                        simp only [rq69d, Act.put, List.setIfInBounds_toArray, List.set_cons_zero, List.set_cons_succ]
                        refine wpAnyH_take (i := 70) (oi := rq70) (v := .bool true) rfl (by kernel_rfl) (by kernel_rfl) (by kernel_rfl) (fun c _ w h => hQP c _ _ _ w h) (Or.inl ⟨by rfl, ?_⟩) hS ?_
                        · rintro w ⟨z1, z2, z3, z4, z5, z6, z7⟩
                          unfold rq70
                          go_simp
                        simp only [rq70d, Act.put, List.setIfInBounds_toArray, List.set_cons_zero, List.set_cons_succ]
                        refine wpAnyH_take (i := 71) (oi := rq71) (v := .bool true) rfl (by kernel_rfl) (by kernel_rfl) (by kernel_rfl) (fun c _ w h => hQP c _ _ _ w h) (Or.inl ⟨by rfl, ?_⟩) hS ?_
                        · rintro w ⟨z1, z2, z3, z4, z5, z6, z7⟩
                          unfold rq71
                          go_simp
                        simp only [rq71d, Act.put, List.setIfInBounds_toArray, List.set_cons_zero, List.set_cons_succ]
                        exact wpAnyH_done (by kernel_rfl) (hQ _ _ _ _ _ _ _ _ _ _ _ _ _ _ _ _ _ _ _ _ _ _ _ _ _ _ _ _ _ _ _ _ _ _ _ _ _ _ _ _ _ _ _ _ _ _ _ _ _ _ _ _ _ _ _ _ _ _ _ _ _ _ _ _ _ _ _ _ _ _ _ _ _ (by first | rfl | (simp only [q1, q2, q3, q4, qm, qn, q7, q8]; rfl) | simp [q1, q2, q3, q4, qm, qn, q7, q8]) B) _
                    · refine wpAnyH_take (i := 64) (oi := rq64) (v := .bool true) rfl (by kernel_rfl) (by kernel_rfl) (by kernel_rfl) (fun c _ w h => hQP c _ _ _ w h) (Or.inl ⟨by rfl, ?_⟩) hS ?_
                      · rintro w ⟨z1, z2, z3, z4, z5, z6, z7⟩
                        unfold rq64
                        go_simp
                      simp only [rq64d, Act.put, List.setIfInBounds_toArray, List.set_cons_zero, List.set_cons_succ]
                      refine wpAnyH_take (i := 65) (oi := rq65) (v := .bool false) rfl (by kernel_rfl) (by kernel_rfl) (by kernel_rfl) (fun c _ w h => hQP c _ _ _ w h) (Or.inl ⟨by rfl, ?_⟩) hS ?_
                      · rintro w ⟨z1, z2, z3, z4, z5, z6, z7⟩
                        unfold rq65
                        go_simp
                      simp only [rq65d, Act.put, List.setIfInBounds_toArray, List.set_cons_zero, List.set_cons_succ]
                      refine wpAnyH_take (i := 66) (oi := rq66) (v := .bool false) rfl (by kernel_rfl) (by kernel_rfl) (by kernel_rfl) (fun c _ w h => hQP c _ _ _ w h) (Or.inl ⟨by rfl, ?_⟩) hS ?_
                      · rintro w ⟨z1, z2, z3, z4, z5, z6, z7⟩
                        unfold rq66
                        go_simp
                      simp only [rq66d, Act.put, List.setIfInBounds_toArray, List.set_cons_zero, List.set_cons_succ]
                      refine wpAnyH_take (i := 67) (oi := rq67) (v := undef) rfl (by kernel_rfl) (by kernel_rfl) (by kernel_rfl) (fun c _ w h => hQP c _ _ _ w h) (Or.inr ⟨by rfl, rfl⟩) hS ?_
                      simp only [rq67d, Act.put, List.setIfInBounds_toArray, List.set_cons_zero, List.set_cons_succ]
                      refine wpAnyH_take (i := 68) (oi := rq68) (v := undef) rfl (by kernel_rfl) (by kernel_rfl) (by kernel_rfl) (fun c _ w h => hQP c _ _ _ w h) (Or.inr ⟨by rfl, rfl⟩) hS ?_
                      simp only [rq68d, Act.put, List.setIfInBounds_toArray, List.set_cons_zero, List.set_cons_succ]
                      refine wpAnyH_take (i := 69) (oi := rq69) (v := undef) rfl (by kernel_rfl) (by kernel_rfl) (by kernel_rfl) (fun c _ w h => hQP c _ _ _ w h) (Or.inr ⟨by rfl, rfl⟩) hS ?_
                      simp only [rq69d, Act.put, List.setIfInBounds_toArray, List.set_cons_zero, List.set_cons_succ]
                      refine wpAnyH_take (i := 70) (oi := rq70) (v := .bool false) rfl (by kernel_rfl) (by kernel_rfl) (by kernel_rfl) (fun c _ w h => hQP c _ _ _ w h) (Or.inl ⟨by rfl, ?_⟩) hS ?_
                      · rintro w ⟨z1, z2, z3, z4, z5, z6, z7⟩
                        unfold rq70
                        go_simp
                      simp only [rq70d, Act.put, List.setIfInBounds_toArray, List.set_cons_zero, List.set_cons_succ]
                      refine wpAnyH_take (i := 71) (oi := rq71) (v := .bool false) rfl (by kernel_rfl) (by kernel_rfl) (by kernel_rfl) (fun c _ w h => hQP c _ _ _ w h) (Or.inl ⟨by rfl, ?_⟩) hS ?_
                      · rintro w ⟨z1, z2, z3, z4, z5, z6, z7⟩
                        unfold rq71
                        go_simp
                      simp only [rq71d, Act.put, List.setIfInBounds_toArray, List.set_cons_zero, List.set_cons_succ]
                      exact wpAnyH_done (by kernel_rfl) (hQ _ _ _ _ _ _ _ _ _ _ _ _ _ _ _ _ _ _ _ _ _ _ _ _ _ _ _ _ _ _ _ _ _ _ _ _ _ _ _ _ _ _ _ _ _ _ _ _ _ _ _ _ _ _ _ _ _ _ _ _ _ _ _ _ _ _ _ _ _ _ _ _ _ (by first | rfl | (simp only [q1, q2, q3, q4, qm, qn, q7]; rfl) | simp [q1, q2, q3, q4, qm, qn, q7]) B) _
                  · refine wpAnyH_take (i := 59) (oi := rq59) (v := .bool true) rfl (by kernel_rfl) (by kernel_rfl) (by kernel_rfl) (fun c _ w h => hQP c _ _ _ w h) (Or.inl ⟨by rfl, ?_⟩) hS ?_
                    · rintro w ⟨z1, z2, z3, z4, z5, z6, z7⟩
                      unfold rq59
                      go_simp
                      all_goals (have hq := q7; simp at hq ⊢; first | omega | assumption | exact hq | grind)
                    simp only [rq59d, Act.put, List.setIfInBounds_toArray, List.set_cons_zero, List.set_cons_succ]
                    refine wpAnyH_take (i := 60) (oi := rq60) (v := .bool true) rfl (by kernel_rfl) (by kernel_rfl) (by kernel_rfl) (fun c _ w h => hQP c _ _ _ w h) (Or.inl ⟨by rfl, ?_⟩) hS ?_
                    · rintro w ⟨z1, z2, z3, z4, z5, z6, z7⟩
                      unfold rq60
                      go_simp
                    simp only [rq60d, Act.put, List.setIfInBounds_toArray, List.set_cons_zero, List.set_cons_succ]
                    refine wpAnyH_take (i := 61) (oi := rq61) (v := .bool true) rfl (by kernel_rfl) (by kernel_rfl) (by kernel_rfl) (fun c _ w h => hQP c _ _ _ w h) (Or.inl ⟨by rfl, ?_⟩) hS ?_
                    · rintro w ⟨z1, z2, z3, z4, z5, z6, z7⟩
                      unfold rq61
                      go_simp
                    simp only [rq61d, Act.put, List.setIfInBounds_toArray, List.set_cons_zero, List.set_cons_succ]
                    refine wpAnyH_take (i := 62) (oi := rq62) (v := undef) rfl (by kernel_rfl) (by kernel_rfl) (by kernel_rfl) (fun c _ w h => hQP c _ _ _ w h) (Or.inr ⟨by rfl, rfl⟩) hS ?_
                    simp only [rq62d, Act.put, List.setIfInBounds_toArray, List.set_cons_zero, List.set_cons_succ]
                    refine wpAnyH_take (i := 63) (oi := rq63) (v := undef) rfl (by kernel_rfl) (by kernel_rfl) (by kernel_rfl) (fun c _ w h => hQP c _ _ _ w h) (Or.inr ⟨by rfl, rfl⟩) hS ?_
                    simp only [rq63d, Act.put, List.setIfInBounds_toArray, List.set_cons_zero, List.set_cons_succ]
                    refine wpAnyH_take (i := 64) (oi := rq64) (v := undef) rfl (by kernel_rfl) (by kernel_rfl) (by kernel_rfl) (fun c _ w h => hQP c _ _ _ w h) (Or.inr ⟨by rfl, rfl⟩) hS ?_
                    simp only [rq64d, Act.put, List.setIfInBounds_toArray, List.set_cons_zero, List.set_cons_succ]
                    refine wpAnyH_take (i := 65) (oi := rq65) (v := undef) rfl (by kernel_rfl) (by kernel_rfl) (by kernel_rfl) (fun c _ w h => hQP c _ _ _ w h) (Or.inr ⟨by rfl, rfl⟩) hS ?_
                    simp only [rq65d, Act.put, List.setIfInBounds_toArray, List.set_cons_zero, List.set_cons_succ]
                    refine wpAnyH_take (i := 66) (oi := rq66) (v := undef) rfl (by kernel_rfl) (by kernel_rfl) (by kernel_rfl) (fun c _ w h => hQP c _ _ _ w h) (Or.inr ⟨by rfl, rfl⟩) hS ?_
                    simp only [rq66d, Act.put, List.setIfInBounds_toArray, List.set_cons_zero, List.set_cons_succ]
                    refine wpAnyH_take (i := 67) (oi := rq67) (v := undef) rfl (by kernel_rfl) (by kernel_rfl) (by kernel_rfl) (fun c _ w h => hQP c _ _ _ w h) (Or.inr ⟨by rfl, rfl⟩) hS ?_
                    simp only [rq67d, Act.put, List.setIfInBounds_toArray, List.set_cons_zero, List.set_cons_succ]
                    refine wpAnyH_take (i := 68) (oi := rq68) (v := undef) rfl (by kernel_rfl) (by kernel_rfl) (by kernel_rfl) (fun c _ w h => hQP c _ _ _ w h) (Or.inr ⟨by rfl, rfl⟩) hS ?_
                    simp only [rq68d, Act.put, List.setIfInBounds_toArray, List.set_cons_zero, List.set_cons_succ]
                    refine wpAnyH_take (i := 69) (oi := rq69) (v := undef) rfl (by kernel_rfl) (by kernel_rfl) (by kernel_rfl) (fun c _ w h => hQP c _ _ _ w h) (Or.inr ⟨by rfl, rfl⟩) hS ?_
                    simp only [rq69d, Act.put, List.setIfInBounds_toArray, List.set_cons_zero, List.set_cons_succ]
                    refine wpAnyH_take (i := 70) (oi := rq70) (v := undef) rfl (by kernel_rfl) (by kernel_rfl) (by kernel_rfl) (fun c _ w h => hQP c _ _ _ w h) (Or.inr ⟨by rfl, rfl⟩) hS ?_
                    simp only [rq70d, Act.put, List.setIfInBounds_toArray, List.set_cons_zero, List.set_cons_succ]
                    refine wpAnyH_take (i := 71) (oi := rq71) (v := .bool true) rfl (by kernel_rfl) (by kernel_rfl) (by kernel_rfl) (fun c _ w h => hQP c _ _ _ w h) (Or.inl ⟨by rfl, ?_⟩) hS ?_
                    · rintro w ⟨z1, z2, z3, z4, z5, z6, z7⟩
                      unfold rq71
                      go_simp
                    simp only [rq71d, Act.put, List.setIfInBounds_toArray, List.set_cons_zero, List.set_cons_succ]
                    exact wpAnyH_done (by kernel_rfl) (hQ _ _ _ _ _ _ _ _ _ _ _ _ _ _ _ _ _ _ _ _ _ _ _ _ _ _ _ _ _ _ _ _ _ _ _ _ _ _ _ _ _ _ _ _ _ _ _ _ _ _ _ _ _ _ _ _ _ _ _ _ _ _ _ _ _ _ _ _ _ _ _ _ _ (by first | rfl | (simp only [q1, q2, q3, q4, qm, qn, q7]; rfl) | simp [q1, q2, q3, q4, qm, qn, q7]) B) _
        · refine wpAnyH_take (i := 32) (oi := rq32) (v := .bool true) rfl (by kernel_rfl) (by kernel_rfl) (by kernel_rfl) (fun c _ w h => hQP c _ _ _ w h) (Or.inl ⟨by rfl, ?_⟩) hS ?_
          · rintro w ⟨z1, z2, z3, z4, z5, z6, z7⟩
            unfold rq32
            go_simp
            all_goals (have hq := q4; simp at hq ⊢; first | omega | assumption | exact hq | grind)
          simp only [rq32d, Act.put, List.setIfInBounds_toArray, List.set_cons_zero, List.set_cons_succ]
          refine wpAnyH_take (i := 33) (oi := rq33) (v := .bool true) rfl (by kernel_rfl) (by kernel_rfl) (by kernel_rfl) (fun c _ w h => hQP c _ _ _ w h) (Or.inl ⟨by rfl, ?_⟩) hS ?_
          · rintro w ⟨z1, z2, z3, z4, z5, z6, z7⟩
            unfold rq33
            go_simp
          simp only [rq33d, Act.put, List.setIfInBounds_toArray, List.set_cons_zero, List.set_cons_succ]
          refine wpAnyH_take (i := 34) (oi := rq34) (v := .bool true) rfl (by kernel_rfl) (by kernel_rfl) (by kernel_rfl) (fun c _ w h => hQP c _ _ _ w h) (Or.inl ⟨by rfl, ?_⟩) hS ?_
          · rintro w ⟨z1, z2, z3, z4, z5, z6, z7⟩
            unfold rq34
            go_simp
          simp only [rq34d, Act.put, List.setIfInBounds_toArray, List.set_cons_zero, List.set_cons_succ]
          refine wpAnyH_take (i := 35) (oi := rq35) (v := undef) rfl (by kernel_rfl) (by kernel_rfl) (by kernel_rfl) (fun c _ w h => hQP c _ _ _ w h) (Or.inr ⟨by rfl, rfl⟩) hS ?_
          simp only [rq35d, Act.put, List.setIfInBounds_toArray, List.set_cons_zero, List.set_cons_succ]
          refine wpAnyH_take (i := 36) (oi := rq36) (v := undef) rfl (by kernel_rfl) (by kernel_rfl) (by kernel_rfl) (fun c _ w h => hQP c _ _ _ w h) (Or.inr ⟨by rfl, rfl⟩) hS ?_
          simp only [rq36d, Act.put, List.setIfInBounds_toArray, List.set_cons_zero, List.set_cons_succ]
          refine wpAnyH_take (i := 37) (oi := rq37) (v := undef) rfl (by kernel_rfl) (by kernel_rfl) (by kernel_rfl) (fun c _ w h => hQP c _ _ _ w h) (Or.inr ⟨by rfl, rfl⟩) hS ?_
          simp only [rq37d, Act.put, List.setIfInBounds_toArray, List.set_cons_zero, List.set_cons_succ]
          refine wpAnyH_take (i := 38) (oi := rq38) (v := undef) rfl (by kernel_rfl) (by kernel_rfl) (by kernel_rfl) (fun c _ w h => hQP c _ _ _ w h) (Or.inr ⟨by rfl, rfl⟩) hS ?_
          simp only [rq38d, Act.put, List.setIfInBounds_toArray, List.set_cons_zero, List.set_cons_succ]
          refine wpAnyH_take (i := 39) (oi := rq39) (v := undef) rfl (by kernel_rfl) (by kernel_rfl) (by kernel_rfl) (fun c _ w h => hQP c _ _ _ w h) (Or.inr ⟨by rfl, rfl⟩) hS ?_
          simp only [rq39d, Act.put, List.setIfInBounds_toArray, List.set_cons_zero, List.set_cons_succ]
          refine wpAnyH_take (i := 40) (oi := rq40) (v := undef) rfl (by kernel_rfl) (by kernel_rfl) (by kernel_rfl) (fun c _ w h => hQP c _ _ _ w h) (Or.inr ⟨by rfl, rfl⟩) hS ?_
          simp only [rq40d, Act.put, List.setIfInBounds_toArray, List.set_cons_zero, List.set_cons_succ]
          refine wpAnyH_take (i := 41) (oi := rq41) (v := undef) rfl (by kernel_rfl) (by kernel_rfl) (by kernel_rfl) (fun c _ w h => hQP c _ _ _ w h) (Or.inr ⟨by rfl, rfl⟩) hS ?_
          simp only [rq41d, Act.put, List.setIfInBounds_toArray, List.set_cons_zero, List.set_cons_succ]
          refine wpAnyH_take (i := 42) (oi := rq42) (v := undef) rfl (by kernel_rfl) (by kernel_rfl) (by kernel_rfl) (fun c _ w h => hQP c _ _ _ w h) (Or.inr ⟨by rfl, rfl⟩) hS ?_
          simp only [rq42d, Act.put, List.setIfInBounds_toArray, List.set_cons_zero, List.set_cons_succ]
          refine wpAnyH_take (i := 43) (oi := rq43) (v := undef) rfl (by kernel_rfl) (by kernel_rfl) (by kernel_rfl) (fun c _ w h => hQP c _ _ _ w h) (Or.inr ⟨by rfl, rfl⟩) hS ?_
          simp only [rq43d, Act.put, List.setIfInBounds_toArray, List.set_cons_zero, List.set_cons_succ]
          refine wpAnyH_take (i := 44) (oi := rq44) (v := .bool true) rfl (by kernel_rfl) (by kernel_rfl) (by kernel_rfl) (fun c _ w h => hQP c _ _ _ w h) (Or.inl ⟨by rfl, ?_⟩) hS ?_
          · rintro w ⟨z1, z2, z3, z4, z5, z6, z7⟩
            unfold rq44
            go_simp
          simp only [rq44d, Act.put, List.setIfInBounds_toArray, List.set_cons_zero, List.set_cons_succ]
          refine wpAnyH_take (i := 45) (oi := rq45) (v := .bool true) rfl (by kernel_rfl) (by kernel_rfl) (by kernel_rfl) (fun c _ w h => hQP c _ _ _ w h) (Or.inl ⟨by rfl, ?_⟩) hS ?_
          · rintro w ⟨z1, z2, z3, z4, z5, z6, z7⟩
            unfold rq45
            go_simp
          simp only [rq45d, Act.put, List.setIfInBounds_toArray, List.set_cons_zero, List.set_cons_succ]
          refine wpAnyH_take (i := 46) (oi := rq46) (v := undef) rfl (by kernel_rfl) (by kernel_rfl) (by kernel_rfl) (fun c _ w h => hQP c _ _ _ w h) (Or.inr ⟨by rfl, rfl⟩) hS ?_
          simp only [rq46d, Act.put, List.setIfInBounds_toArray, List.set_cons_zero, List.set_cons_succ]
          refine wpAnyH_take (i := 47) (oi := rq47) (v := undef) rfl (by kernel_rfl) (by kernel_rfl) (by kernel_rfl) (fun c _ w h => hQP c _ _ _ w h) (Or.inr ⟨by rfl, rfl⟩) hS ?_
          simp only [rq47d, Act.put, List.setIfInBounds_toArray, List.set_cons_zero, List.set_cons_succ]
          refine wpAnyH_take (i := 48) (oi := rq48) (v := undef) rfl (by kernel_rfl) (by kernel_rfl) (by kernel_rfl) (fun c _ w h => hQP c _ _ _ w h) (Or.inr ⟨by rfl, rfl⟩) hS ?_
          simp only [rq48d, Act.put, List.setIfInBounds_toArray, List.set_cons_zero, List.set_cons_succ]
          refine wpAnyH_take (i := 49) (oi := rq49) (v := undef) rfl (by kernel_rfl) (by kernel_rfl) (by kernel_rfl) (fun c _ w h => hQP c _ _ _ w h) (Or.inr ⟨by rfl, rfl⟩) hS ?_
          simp only [rq49d, Act.put, List.setIfInBounds_toArray, List.set_cons_zero, List.set_cons_succ]
          refine wpAnyH_take (i := 50) (oi := rq50) (v := undef) rfl (by kernel_rfl) (by kernel_rfl) (by kernel_rfl) (fun c _ w h => hQP c _ _ _ w h) (Or.inr ⟨by rfl, rfl⟩) hS ?_
          simp only [rq50d, Act.put, List.setIfInBounds_toArray, List.set_cons_zero, List.set_cons_succ]
          refine wpAnyH_take (i := 51) (oi := rq51) (v := undef) rfl (by kernel_rfl) (by kernel_rfl) (by kernel_rfl) (fun c _ w h => hQP c _ _ _ w h) (Or.inr ⟨by rfl, rfl⟩) hS ?_
          simp only [rq51d, Act.put, List.setIfInBounds_toArray, List.set_cons_zero, List.set_cons_succ]
          refine wpAnyH_take (i := 52) (oi := rq52) (v := undef) rfl (by kernel_rfl) (by kernel_rfl) (by kernel_rfl) (fun c _ w h => hQP c _ _ _ w h) (Or.inr ⟨by rfl, rfl⟩) hS ?_
          simp only [rq52d, Act.put, List.setIfInBounds_toArray, List.set_cons_zero, List.set_cons_succ]
          refine wpAnyH_take (i := 53) (oi := rq53) (v := undef) rfl (by kernel_rfl) (by kernel_rfl) (by kernel_rfl) (fun c _ w h => hQP c _ _ _ w h) (Or.inr ⟨by rfl, rfl⟩) hS ?_
          simp only [rq53d, Act.put, List.setIfInBounds_toArray, List.set_cons_zero, List.set_cons_succ]
          refine wpAnyH_take (i := 54) (oi := rq54) (v := undef) rfl (by kernel_rfl) (by kernel_rfl) (by kernel_rfl) (fun c _ w h => hQP c _ _ _ w h) (Or.inr ⟨by rfl, rfl⟩) hS ?_
          simp only [rq54d, Act.put, List.setIfInBounds_toArray, List.set_cons_zero, List.set_cons_succ]
          refine wpAnyH_take (i := 55) (oi := rq55) (v := .bool true) rfl (by kernel_rfl) (by kernel_rfl) (by kernel_rfl) (fun c _ w h => hQP c _ _ _ w h) (Or.inl ⟨by rfl, ?_⟩) hS ?_
          · rintro w ⟨z1, z2, z3, z4, z5, z6, z7⟩
            unfold rq55
            go_simp
          simp only [rq55d, Act.put, List.setIfInBounds_toArray, List.set_cons_zero, List.set_cons_succ]
          refine wpAnyH_take (i := 56) (oi := rq56) (v := .bool true) rfl (by kernel_rfl) (by kernel_rfl) (by kernel_rfl) (fun c _ w h => hQP c _ _ _ w h) (Or.inl ⟨by rfl, ?_⟩) hS ?_
          · rintro w ⟨z1, z2, z3, z4, z5, z6, z7⟩
            unfold rq56
            go_simp
          simp only [rq56d, Act.put, List.setIfInBounds_toArray, List.set_cons_zero, List.set_cons_succ]
          refine wpAnyH_take (i := 57) (oi := rq57) (v := undef) rfl (by kernel_rfl) (by kernel_rfl) (by kernel_rfl) (fun c _ w h => hQP c _ _ _ w h) (Or.inr ⟨by rfl, rfl⟩) hS ?_
          simp only [rq57d, Act.put, List.setIfInBounds_toArray, List.set_cons_zero, List.set_cons_succ]
          refine wpAnyH_take (i := 58) (oi := rq58) (v := undef) rfl (by kernel_rfl) (by kernel_rfl) (by kernel_rfl) (fun c _ w h => hQP c _ _ _ w h) (Or.inr ⟨by rfl, rfl⟩) hS ?_
          simp only [rq58d, Act.put, List.setIfInBounds_toArray, List.set_cons_zero, List.set_cons_succ]
          refine wpAnyH_take (i := 59) (oi := rq59) (v := undef) rfl (by kernel_rfl) (by kernel_rfl) (by kernel_rfl) (fun c _ w h => hQP c _ _ _ w h) (Or.inr ⟨by rfl, rfl⟩) hS ?_
          simp only [rq59d, Act.put, List.setIfInBounds_toArray, List.set_cons_zero, List.set_cons_succ]
          refine wpAnyH_take (i := 60) (oi := rq60) (v := .bool true) rfl (by kernel_rfl) (by kernel_rfl) (by kernel_rfl) (fun c _ w h => hQP c _ _ _ w h) (Or.inl ⟨by rfl, ?_⟩) hS ?_
          · rintro w ⟨z1, z2, z3, z4, z5, z6, z7⟩
            unfold rq60
            go_simp
          simp only [rq60d, Act.put, List.setIfInBounds_toArray, List.set_cons_zero, List.set_cons_succ]
          refine wpAnyH_take (i := 61) (oi := rq61) (v := .bool true) rfl (by kernel_rfl) (by kernel_rfl) (by kernel_rfl) (fun c _ w h => hQP c _ _ _ w h) (Or.inl ⟨by rfl, ?_⟩) hS ?_
          · rintro w ⟨z1, z2, z3, z4, z5, z6, z7⟩
            unfold rq61
            go_simp
          simp only [rq61d, Act.put, List.setIfInBounds_toArray, List.set_cons_zero, List.set_cons_succ]
          refine wpAnyH_take (i := 62) (oi := rq62) (v := undef) rfl (by kernel_rfl) (by kernel_rfl) (by kernel_rfl) (fun c _ w h => hQP c _ _ _ w h) (Or.inr ⟨by rfl, rfl⟩) hS ?_
          simp only [rq62d, Act.put, List.setIfInBounds_toArray, List.set_cons_zero, List.set_cons_succ]
          refine wpAnyH_take (i := 63) (oi := rq63) (v := undef) rfl (by kernel_rfl) (by kernel_rfl) (by kernel_rfl) (fun c _ w h => hQP c _ _ _ w h) (Or.inr ⟨by rfl, rfl⟩) hS ?_
          simp only [rq63d, Act.put, List.setIfInBounds_toArray, List.set_cons_zero, List.set_cons_succ]
          refine wpAnyH_take (i := 64) (oi := rq64) (v := undef) rfl (by kernel_rfl) (by kernel_rfl) (by kernel_rfl) (fun c _ w h => hQP c _ _ _ w h) (Or.inr ⟨by rfl, rfl⟩) hS ?_
          simp only [rq64d, Act.put, List.setIfInBounds_toArray, List.set_cons_zero, List.set_cons_succ]
          refine wpAnyH_take (i := 65) (oi := rq65) (v := undef) rfl (by kernel_rfl) (by kernel_rfl) (by kernel_rfl) (fun c _ w h => hQP c _ _ _ w h) (Or.inr ⟨by rfl, rfl⟩) hS ?_
          simp only [rq65d, Act.put, List.setIfInBounds_toArray, List.set_cons_zero, List.set_cons_succ]
          refine wpAnyH_take (i := 66) (oi := rq66) (v := undef) rfl (by kernel_rfl) (by kernel_rfl) (by kernel_rfl) (fun c _ w h => hQP c _ _ _ w h) (Or.inr ⟨by rfl, rfl⟩) hS ?_
          simp only [rq66d, Act.put, List.setIfInBounds_toArray, List.set_cons_zero, List.set_cons_succ]
          refine wpAnyH_take (i := 67) (oi := rq67) (v := undef) rfl (by kernel_rfl) (by kernel_rfl) (by kernel_rfl) (fun c _ w h => hQP c _ _ _ w h) (Or.inr ⟨by rfl, rfl⟩) hS ?_
          simp only [rq67d, Act.put, List.setIfInBounds_toArray, List.set_cons_zero, List.set_cons_succ]
          refine wpAnyH_take (i := 68) (oi := rq68) (v := undef) rfl (by kernel_rfl) (by kernel_rfl) (by kernel_rfl) (fun c _ w h => hQP c _ _ _ w h) (Or.inr ⟨by rfl, rfl⟩) hS ?_
          simp only [rq68d, Act.put, List.setIfInBounds_toArray, List.set_cons_zero, List.set_cons_succ]
          refine wpAnyH_take (i := 69) (oi := rq69) (v := undef) rfl (by kernel_rfl) (by kernel_rfl) (by kernel_rfl) (fun c _ w h => hQP c _ _ _ w h) (Or.inr ⟨by rfl, rfl⟩) hS ?_
          simp only [rq69d, Act.put, List.setIfInBounds_toArray, List.set_cons_zero, List.set_cons_succ]
          refine wpAnyH_take (i := 70) (oi := rq70) (v := undef) rfl (by kernel_rfl) (by kernel_rfl) (by kernel_rfl) (fun c _ w h => hQP c _ _ _ w h) (Or.inr ⟨by rfl, rfl⟩) hS ?_
          simp only [rq70d, Act.put, List.setIfInBounds_toArray, List.set_cons_zero, List.set_cons_succ]
          refine wpAnyH_take (i := 71) (oi := rq71) (v := .bool true) rfl (by kernel_rfl) (by kernel_rfl) (by kernel_rfl) (fun c _ w h => hQP c _ _ _ w h) (Or.inl ⟨by rfl, ?_⟩) hS ?_
          · rintro w ⟨z1, z2, z3, z4, z5, z6, z7⟩
            unfold rq71
            go_simp
          simp only [rq71d, Act.put, List.setIfInBounds_toArray, List.set_cons_zero, List.set_cons_succ]
          exact wpAnyH_done (by kernel_rfl) (hQ _ _ _ _ _ _ _ _ _ _ _ _ _ _ _ _ _ _ _ _ _ _ _ _ _ _ _ _ _ _ _ _ _ _ _ _ _ _ _ _ _ _ _ _ _ _ _ _ _ _ _ _ _ _ _ _ _ _ _ _ _ _ _ _ _ _ _ _ _ _ _ _ _ (by first | rfl | (simp only [q1, q2, q3, q4]; rfl) | simp [q1, q2, q3, q4]) B) _
      · refine wpAnyH_take (i := 23) (oi := rq23) (v := .bool true) rfl (by kernel_rfl) (by kernel_rfl) (by kernel_rfl) (fun c _ w h => hQP c _ _ _ w h) (Or.inl ⟨by rfl, ?_⟩) hS ?_
        · rintro w ⟨z1, z2, z3, z4, z5, z6, z7⟩
          unfold rq23
          go_simp
          all_goals (have hq := q3; simp at hq ⊢; first | omega | assumption | exact hq | grind)
        simp only [rq23d, Act.put, List.setIfInBounds_toArray, List.set_cons_zero, List.set_cons_succ]
        refine wpAnyH_take (i := 24) (oi := rq24) (v := .bool true) rfl (by kernel_rfl) (by kernel_rfl) (by kernel_rfl) (fun c _ w h => hQP c _ _ _ w h) (Or.inl ⟨by rfl, ?_⟩) hS ?_
        · rintro w ⟨z1, z2, z3, z4, z5, z6, z7⟩
          unfold rq24
          go_simp
        simp only [rq24d, Act.put, List.setIfInBounds_toArray, List.set_cons_zero, List.set_cons_succ]
        refine wpAnyH_take (i := 25) (oi := rq25) (v := .bool true) rfl (by kernel_rfl) (by kernel_rfl) (by kernel_rfl) (fun c _ w h => hQP c _ _ _ w h) (Or.inl ⟨by rfl, ?_⟩) hS ?_
        · rintro w ⟨z1, z2, z3, z4, z5, z6, z7⟩
          unfold rq25
          go_simp
        simp only [rq25d, Act.put, List.setIfInBounds_toArray, List.set_cons_zero, List.set_cons_succ]
        refine wpAnyH_take (i := 26) (oi := rq26) (v := undef) rfl (by kernel_rfl) (by kernel_rfl) (by kernel_rfl) (fun c _ w h => hQP c _ _ _ w h) (Or.inr ⟨by rfl, rfl⟩) hS ?_
        simp only [rq26d, Act.put, List.setIfInBounds_toArray, List.set_cons_zero, List.set_cons_succ]
        refine wpAnyH_take (i := 27) (oi := rq27) (v := undef) rfl (by kernel_rfl) (by kernel_rfl) (by kernel_rfl) (fun c _ w h => hQP c _ _ _ w h) (Or.inr ⟨by rfl, rfl⟩) hS ?_
        simp only [rq27d, Act.put, List.setIfInBounds_toArray, List.set_cons_zero, List.set_cons_succ]
        refine wpAnyH_take (i := 28) (oi := rq28) (v := undef) rfl (by kernel_rfl) (by kernel_rfl) (by kernel_rfl) (fun c _ w h => hQP c _ _ _ w h) (Or.inr ⟨by rfl, rfl⟩) hS ?_
        simp only [rq28d, Act.put, List.setIfInBounds_toArray, List.set_cons_zero, List.set_cons_succ]
        refine wpAnyH_take (i := 29) (oi := rq29) (v := undef) rfl (by kernel_rfl) (by kernel_rfl) (by kernel_rfl) (fun c _ w h => hQP c _ _ _ w h) (Or.inr ⟨by rfl, rfl⟩) hS ?_
        simp only [rq29d, Act.put, List.setIfInBounds_toArray, List.set_cons_zero, List.set_cons_succ]
        refine wpAnyH_take (i := 30) (oi := rq30) (v := undef) rfl (by kernel_rfl) (by kernel_rfl) (by kernel_rfl) (fun c _ w h => hQP c _ _ _ w h) (Or.inr ⟨by rfl, rfl⟩) hS ?_
        simp only [rq30d, Act.put, List.setIfInBounds_toArray, List.set_cons_zero, List.set_cons_succ]
        refine wpAnyH_take (i := 31) (oi := rq31) (v := undef) rfl (by kernel_rfl) (by kernel_rfl) (by kernel_rfl) (fun c _ w h => hQP c _ _ _ w h) (Or.inr ⟨by rfl, rfl⟩) hS ?_
        simp only [rq31d, Act.put, List.setIfInBounds_toArray, List.set_cons_zero, List.set_cons_succ]
        refine wpAnyH_take (i := 32) (oi := rq32) (v := undef) rfl (by kernel_rfl) (by kernel_rfl) (by kernel_rfl) (fun c _ w h => hQP c _ _ _ w h) (Or.inr ⟨by rfl, rfl⟩) hS ?_
        simp only [rq32d, Act.put, List.setIfInBounds_toArray, List.set_cons_zero, List.set_cons_succ]
        refine wpAnyH_take (i := 33) (oi := rq33) (v := .bool true) rfl (by kernel_rfl) (by kernel_rfl) (by kernel_rfl) (fun c _ w h => hQP c _ _ _ w h) (Or.inl ⟨by rfl, ?_⟩) hS ?_
        · rintro w ⟨z1, z2, z3, z4, z5, z6, z7⟩
          unfold rq33
          go_simp
        simp only [rq33d, Act.put, List.setIfInBounds_toArray, List.set_cons_zero, List.set_cons_succ]
        refine wpAnyH_take (i := 34) (oi := rq34) (v := .bool true) rfl (by kernel_rfl) (by kernel_rfl) (by kernel_rfl) (fun c _ w h => hQP c _ _ _ w h) (Or.inl ⟨by rfl, ?_⟩) hS ?_
        · rintro w ⟨z1, z2, z3, z4, z5, z6, z7⟩
          unfold rq34
          go_simp
        simp only [rq34d, Act.put, List.setIfInBounds_toArray, List.set_cons_zero, List.set_cons_succ]
        refine wpAnyH_take (i := 35) (oi := rq35) (v := undef) rfl (by kernel_rfl) (by kernel_rfl) (by kernel_rfl) (fun c _ w h => hQP c _ _ _ w h) (Or.inr ⟨by rfl, rfl⟩) hS ?_
        simp only [rq35d, Act.put, List.setIfInBounds_toArray, List.set_cons_zero, List.set_cons_succ]
        refine wpAnyH_take (i := 36) (oi := rq36) (v := undef) rfl (by kernel_rfl) (by kernel_rfl) (by kernel_rfl) (fun c _ w h => hQP c _ _ _ w h) (Or.inr ⟨by rfl, rfl⟩) hS ?_
        simp only [rq36d, Act.put, List.setIfInBounds_toArray, List.set_cons_zero, List.set_cons_succ]
        refine wpAnyH_take (i := 37) (oi := rq37) (v := undef) rfl (by kernel_rfl) (by kernel_rfl) (by kernel_rfl) (fun c _ w h => hQP c _ _ _ w h) (Or.inr ⟨by rfl, rfl⟩) hS ?_
        simp only [rq37d, Act.put, List.setIfInBounds_toArray, List.set_cons_zero, List.set_cons_succ]
        refine wpAnyH_take (i := 38) (oi := rq38) (v := undef) rfl (by kernel_rfl) (by kernel_rfl) (by kernel_rfl) (fun c _ w h => hQP c _ _ _ w h) (Or.inr ⟨by rfl, rfl⟩) hS ?_
        simp only [rq38d, Act.put, List.setIfInBounds_toArray, List.set_cons_zero, List.set_cons_succ]
        refine wpAnyH_take (i := 39) (oi := rq39) (v := undef) rfl (by kernel_rfl) (by kernel_rfl) (by kernel_rfl) (fun c _ w h => hQP c _ _ _ w h) (Or.inr ⟨by rfl, rfl⟩) hS ?_
        simp only [rq39d, Act.put, List.setIfInBounds_toArray, List.set_cons_zero, List.set_cons_succ]
        refine wpAnyH_take (i := 40) (oi := rq40) (v := undef) rfl (by kernel_rfl) (by kernel_rfl) (by kernel_rfl) (fun c _ w h => hQP c _ _ _ w h) (Or.inr ⟨by rfl, rfl⟩) hS ?_
        simp only [rq40d, Act.put, List.setIfInBounds_toArray, List.set_cons_zero, List.set_cons_succ]
        refine wpAnyH_take (i := 41) (oi := rq41) (v := undef) rfl (by kernel_rfl) (by kernel_rfl) (by kernel_rfl) (fun c _ w h => hQP c _ _ _ w h) (Or.inr ⟨by rfl, rfl⟩) hS ?_
        simp only [rq41d, Act.put, List.setIfInBounds_toArray, List.set_cons_zero, List.set_cons_succ]
        refine wpAnyH_take (i := 42) (oi := rq42) (v := undef) rfl (by kernel_rfl) (by kernel_rfl) (by kernel_rfl) (fun c _ w h => hQP c _ _ _ w h) (Or.inr ⟨by rfl, rfl⟩) hS ?_
        simp only [rq42d, Act.put, List.setIfInBounds_toArray, List.set_cons_zero, List.set_cons_succ]
        refine wpAnyH_take (i := 43) (oi := rq43) (v := undef) rfl (by kernel_rfl) (by kernel_rfl) (by kernel_rfl) (fun c _ w h => hQP c _ _ _ w h) (Or.inr ⟨by rfl, rfl⟩) hS ?_
        simp only [rq43d, Act.put, List.setIfInBounds_toArray, List.set_cons_zero, List.set_cons_succ]
        refine wpAnyH_take (i := 44) (oi := rq44) (v := .bool true) rfl (by kernel_rfl) (by kernel_rfl) (by kernel_rfl) (fun c _ w h => hQP c _ _ _ w h) (Or.inl ⟨by rfl, ?_⟩) hS ?_
        · rintro w ⟨z1, z2, z3, z4, z5, z6, z7⟩
          unfold rq44
          go_simp
        simp only [rq44d, Act.put, List.setIfInBounds_toArray, List.set_cons_zero, List.set_cons_succ]
        refine wpAnyH_take (i := 45) (oi := rq45) (v := .bool true) rfl (by kernel_rfl) (by kernel_rfl) (by kernel_rfl) (fun c _ w h => hQP c _ _ _ w h) (Or.inl ⟨by rfl, ?_⟩) hS ?_
        · rintro w ⟨z1, z2, z3, z4, z5, z6, z7⟩
          unfold rq45
          go_simp
        simp only [rq45d, Act.put, List.setIfInBounds_toArray, List.set_cons_zero, List.set_cons_succ]
        refine wpAnyH_take (i := 46) (oi := rq46) (v := undef) rfl (by kernel_rfl) (by kernel_rfl) (by kernel_rfl) (fun c _ w h => hQP c _ _ _ w h) (Or.inr ⟨by rfl, rfl⟩) hS ?_
        simp only [rq46d, Act.put, List.setIfInBounds_toArray, List.set_cons_zero, List.set_cons_succ]
        refine wpAnyH_take (i := 47) (oi := rq47) (v := undef) rfl (by kernel_rfl) (by kernel_rfl) (by kernel_rfl) (fun c _ w h => hQP c _ _ _ w h) (Or.inr ⟨by rfl, rfl⟩) hS ?_
        simp only [rq47d, Act.put, List.setIfInBounds_toArray, List.set_cons_zero, List.set_cons_succ]
        refine wpAnyH_take (i := 48) (oi := rq48) (v := undef) rfl (by kernel_rfl) (by kernel_rfl) (by kernel_rfl) (fun c _ w h => hQP c _ _ _ w h) (Or.inr ⟨by rfl, rfl⟩) hS ?_
        simp only [rq48d, Act.put, List.setIfInBounds_toArray, List.set_cons_zero, List.set_cons_succ]
        refine wpAnyH_take (i := 49) (oi := rq49) (v := undef) rfl (by kernel_rfl) (by kernel_rfl) (by kernel_rfl) (fun c _ w h => hQP c _ _ _ w h) (Or.inr ⟨by rfl, rfl⟩) hS ?_
        simp only [rq49d, Act.put, List.setIfInBounds_toArray, List.set_cons_zero, List.set_cons_succ]
        refine wpAnyH_take (i := 50) (oi := rq50) (v := undef) rfl (by kernel_rfl) (by kernel_rfl) (by kernel_rfl) (fun c _ w h => hQP c _ _ _ w h) (Or.inr ⟨by rfl, rfl⟩) hS ?_
        simp only [rq50d, Act.put, List.setIfInBounds_toArray, List.set_cons_zero, List.set_cons_succ]
        refine wpAnyH_take (i := 51) (oi := rq51) (v := undef) rfl (by kernel_rfl) (by kernel_rfl) (by kernel_rfl) (fun c _ w h => hQP c _ _ _ w h) (Or.inr ⟨by rfl, rfl⟩) hS ?_
        simp only [rq51d, Act.put, List.setIfInBounds_toArray, List.set_cons_zero, List.set_cons_succ]
        refine wpAnyH_take (i := 52) (oi := rq52) (v := undef) rfl (by kernel_rfl) (by kernel_rfl) (by kernel_rfl) (fun c _ w h => hQP c _ _ _ w h) (Or.inr ⟨by rfl, rfl⟩) hS ?_
        simp only [rq52d, Act.put, List.setIfInBounds_toArray, List.set_cons_zero, List.set_cons_succ]
        refine wpAnyH_take (i := 53) (oi := rq53) (v := undef) rfl (by kernel_rfl) (by kernel_rfl) (by kernel_rfl) (fun c _ w h => hQP c _ _ _ w h) (Or.inr ⟨by rfl, rfl⟩) hS ?_
        simp only [rq53d, Act.put, List.setIfInBounds_toArray, List.set_cons_zero, List.set_cons_succ]
        refine wpAnyH_take (i := 54) (oi := rq54) (v := undef) rfl (by kernel_rfl) (by kernel_rfl) (by kernel_rfl) (fun c _ w h => hQP c _ _ _ w h) (Or.inr ⟨by rfl, rfl⟩) hS ?_
        simp only [rq54d, Act.put, List.setIfInBounds_toArray, List.set_cons_zero, List.set_cons_succ]
        refine wpAnyH_take (i := 55) (oi := rq55) (v := .bool true) rfl (by kernel_rfl) (by kernel_rfl) (by kernel_rfl) (fun c _ w h => hQP c _ _ _ w h) (Or.inl ⟨by rfl, ?_⟩) hS ?_
        · rintro w ⟨z1, z2, z3, z4, z5, z6, z7⟩
          unfold rq55
          go_simp
        simp only [rq55d, Act.put, List.setIfInBounds_toArray, List.set_cons_zero, List.set_cons_succ]
        refine wpAnyH_take (i := 56) (oi := rq56) (v := .bool true) rfl (by kernel_rfl) (by kernel_rfl) (by kernel_rfl) (fun c _ w h => hQP c _ _ _ w h) (Or.inl ⟨by rfl, ?_⟩) hS ?_
        · rintro w ⟨z1, z2, z3, z4, z5, z6, z7⟩
          unfold rq56
          go_simp
        simp only [rq56d, Act.put, List.setIfInBounds_toArray, List.set_cons_zero, List.set_cons_succ]
        refine wpAnyH_take (i := 57) (oi := rq57) (v := undef) rfl (by kernel_rfl) (by kernel_rfl) (by kernel_rfl) (fun c _ w h => hQP c _ _ _ w h) (Or.inr ⟨by rfl, rfl⟩) hS ?_
        simp only [rq57d, Act.put, List.setIfInBounds_toArray, List.set_cons_zero, List.set_cons_succ]
        refine wpAnyH_take (i := 58) (oi := rq58) (v := undef) rfl (by kernel_rfl) (by kernel_rfl) (by kernel_rfl) (fun c _ w h => hQP c _ _ _ w h) (Or.inr ⟨by rfl, rfl⟩) hS ?_
        simp only [rq58d, Act.put, List.setIfInBounds_toArray, List.set_cons_zero, List.set_cons_succ]
        refine wpAnyH_take (i := 59) (oi := rq59) (v := undef) rfl (by kernel_rfl) (by kernel_rfl) (by kernel_rfl) (fun c _ w h => hQP c _ _ _ w h) (Or.inr ⟨by rfl, rfl⟩) hS ?_
        simp only [rq59d, Act.put, List.setIfInBounds_toArray, List.set_cons_zero, List.set_cons_succ]
        refine wpAnyH_take (i := 60) (oi := rq60) (v := .bool true) rfl (by kernel_rfl) (by kernel_rfl) (by kernel_rfl) (fun c _ w h => hQP c _ _ _ w h) (Or.inl ⟨by rfl, ?_⟩) hS ?_
        · rintro w ⟨z1, z2, z3, z4, z5, z6, z7⟩
          unfold rq60
          go_simp
        simp only [rq60d, Act.put, List.setIfInBounds_toArray, List.set_cons_zero, List.set_cons_succ]
        refine wpAnyH_take (i := 61) (oi := rq61) (v := .bool true) rfl (by kernel_rfl) (by kernel_rfl) (by kernel_rfl) (fun c _ w h => hQP c _ _ _ w h) (Or.inl ⟨by rfl, ?_⟩) hS ?_
        · rintro w ⟨z1, z2, z3, z4, z5, z6, z7⟩
          unfold rq61
          go_simp
        simp only [rq61d, Act.put, List.setIfInBounds_toArray, List.set_cons_zero, List.set_cons_succ]
        refine wpAnyH_take (i := 62) (oi := rq62) (v := undef) rfl (by kernel_rfl) (by kernel_rfl) (by kernel_rfl) (fun c _ w h => hQP c _ _ _ w h) (Or.inr ⟨by rfl, rfl⟩) hS ?_
        simp only [rq62d, Act.put, List.setIfInBounds_toArray, List.set_cons_zero, List.set_cons_succ]
        refine wpAnyH_take (i := 63) (oi := rq63) (v := undef) rfl (by kernel_rfl) (by kernel_rfl) (by kernel_rfl) (fun c _ w h => hQP c _ _ _ w h) (Or.inr ⟨by rfl, rfl⟩) hS ?_
        simp only [rq63d, Act.put, List.setIfInBounds_toArray, List.set_cons_zero, List.set_cons_succ]
        refine wpAnyH_take (i := 64) (oi := rq64) (v := undef) rfl (by kernel_rfl) (by kernel_rfl) (by kernel_rfl) (fun c _ w h => hQP c _ _ _ w h) (Or.inr ⟨by rfl, rfl⟩) hS ?_
        simp only [rq64d, Act.put, List.setIfInBounds_toArray, List.set_cons_zero, List.set_cons_succ]
        refine wpAnyH_take (i := 65) (oi := rq65) (v := undef) rfl (by kernel_rfl) (by kernel_rfl) (by kernel_rfl) (fun c _ w h => hQP c _ _ _ w h) (Or.inr ⟨by rfl, rfl⟩) hS ?_
        simp only [rq65d, Act.put, List.setIfInBounds_toArray, List.set_cons_zero, List.set_cons_succ]
        refine wpAnyH_take (i := 66) (oi := rq66) (v := undef) rfl (by kernel_rfl) (by kernel_rfl) (by kernel_rfl) (fun c _ w h => hQP c _ _ _ w h) (Or.inr ⟨by rfl, rfl⟩) hS ?_
        simp only [rq66d, Act.put, List.setIfInBounds_toArray, List.set_cons_zero, List.set_cons_succ]
        refine wpAnyH_take (i := 67) (oi := rq67) (v := undef) rfl (by kernel_rfl) (by kernel_rfl) (by kernel_rfl) (fun c _ w h => hQP c _ _ _ w h) (Or.inr ⟨by rfl, rfl⟩) hS ?_
        simp only [rq67d, Act.put, List.setIfInBounds_toArray, List.set_cons_zero, List.set_cons_succ]
        refine wpAnyH_take (i := 68) (oi := rq68) (v := undef) rfl (by kernel_rfl) (by kernel_rfl) (by kernel_rfl) (fun c _ w h => hQP c _ _ _ w h) (Or.inr ⟨by rfl, rfl⟩) hS ?_
        simp only [rq68d, Act.put, List.setIfInBounds_toArray, List.set_cons_zero, List.set_cons_succ]
        refine wpAnyH_take (i := 69) (oi := rq69) (v := undef) rfl (by kernel_rfl) (by kernel_rfl) (by kernel_rfl) (fun c _ w h => hQP c _ _ _ w h) (Or.inr ⟨by rfl, rfl⟩) hS ?_
        simp only [rq69d, Act.put, List.setIfInBounds_toArray, List.set_cons_zero, List.set_cons_succ]
        refine wpAnyH_take (i := 70) (oi := rq70) (v := undef) rfl (by kernel_rfl) (by kernel_rfl) (by kernel_rfl) (fun c _ w h => hQP c _ _ _ w h) (Or.inr ⟨by rfl, rfl⟩) hS ?_
        simp only [rq70d, Act.put, List.setIfInBounds_toArray, List.set_cons_zero, List.set_cons_succ]
        refine wpAnyH_take (i := 71) (oi := rq71) (v := .bool true) rfl (by kernel_rfl) (by kernel_rfl) (by kernel_rfl) (fun c _ w h => hQP c _ _ _ w h) (Or.inl ⟨by rfl, ?_⟩) hS ?_
        · rintro w ⟨z1, z2, z3, z4, z5, z6, z7⟩
          unfold rq71
          go_simp
        simp only [rq71d, Act.put, List.setIfInBounds_toArray, List.set_cons_zero, List.set_cons_succ]
        exact wpAnyH_done (by kernel_rfl) (hQ _ _ _ _ _ _ _ _ _ _ _ _ _ _ _ _ _ _ _ _ _ _ _ _ _ _ _ _ _ _ _ _ _ _ _ _ _ _ _ _ _ _ _ _ _ _ _ _ _ _ _ _ _ _ _ _ _ _ _ _ _ _ _ _ _ _ _ _ _ _ _ _ _ (by first | rfl | (simp only [q1, q2, q3]; rfl) | simp [q1, q2, q3]) B) _
    · refine wpAnyH_take (i := 14) (oi := rq14) (v := .bool true) rfl (by kernel_rfl) (by kernel_rfl) (by kernel_rfl) (fun c _ w h => hQP c _ _ _ w h) (Or.inl ⟨by rfl, ?_⟩) hS ?_
      · rintro w ⟨z1, z2, z3, z4, z5, z6, z7⟩
        unfold rq14
        go_simp
        all_goals (have hq := q2; simp at hq ⊢; first | omega | assumption | exact hq | grind)
      simp only [rq14d, Act.put, List.setIfInBounds_toArray, List.set_cons_zero, List.set_cons_succ]
      refine wpAnyH_take (i := 15) (oi := rq15) (v := .bool true) rfl (by kernel_rfl) (by kernel_rfl) (by kernel_rfl) (fun c _ w h => hQP c _ _ _ w h) (Or.inl ⟨by rfl, ?_⟩) hS ?_
      · rintro w ⟨z1, z2, z3, z4, z5, z6, z7⟩
        unfold rq15
        go_simp
      simp only [rq15d, Act.put, List.setIfInBounds_toArray, List.set_cons_zero, List.set_cons_succ]
      refine wpAnyH_take (i := 16) (oi := rq16) (v := .bool true) rfl (by kernel_rfl) (by kernel_rfl) (by kernel_rfl) (fun c _ w h => hQP c _ _ _ w h) (Or.inl ⟨by rfl, ?_⟩) hS ?_
      · rintro w ⟨z1, z2, z3, z4, z5, z6, z7⟩
        unfold rq16
        go_simp
      simp only [rq16d, Act.put, List.setIfInBounds_toArray, List.set_cons_zero, List.set_cons_succ]
      refine wpAnyH_take (i := 17) (oi := rq17) (v := undef) rfl (by kernel_rfl) (by kernel_rfl) (by kernel_rfl) (fun c _ w h => hQP c _ _ _ w h) (Or.inr ⟨by rfl, rfl⟩) hS ?_
      simp only [rq17d, Act.put, List.setIfInBounds_toArray, List.set_cons_zero, List.set_cons_succ]
      refine wpAnyH_take (i := 18) (oi := rq18) (v := undef) rfl (by kernel_rfl) (by kernel_rfl) (by kernel_rfl) (fun c _ w h => hQP c _ _ _ w h) (Or.inr ⟨by rfl, rfl⟩) hS ?_
      simp only [rq18d, Act.put, List.setIfInBounds_toArray, List.set_cons_zero, List.set_cons_succ]
      refine wpAnyH_take (i := 19) (oi := rq19) (v := undef) rfl (by kernel_rfl) (by kernel_rfl) (by kernel_rfl) (fun c _ w h => hQP c _ _ _ w h) (Or.inr ⟨by rfl, rfl⟩) hS ?_
      simp only [rq19d, Act.put, List.setIfInBounds_toArray, List.set_cons_zero, List.set_cons_succ]
      refine wpAnyH_take (i := 20) (oi := rq20) (v := undef) rfl (by kernel_rfl) (by kernel_rfl) (by kernel_rfl) (fun c _ w h => hQP c _ _ _ w h) (Or.inr ⟨by rfl, rfl⟩) hS ?_
      simp only [rq20d, Act.put, List.setIfInBounds_toArray, List.set_cons_zero, List.set_cons_succ]
      refine wpAnyH_take (i := 21) (oi := rq21) (v := undef) rfl (by kernel_rfl) (by kernel_rfl) (by kernel_rfl) (fun c _ w h => hQP c _ _ _ w h) (Or.inr ⟨by rfl, rfl⟩) hS ?_
      simp only [rq21d, Act.put, List.setIfInBounds_toArray, List.set_cons_zero, List.set_cons_succ]
      refine wpAnyH_take (i := 22) (oi := rq22) (v := undef) rfl (by kernel_rfl) (by kernel_rfl) (by kernel_rfl) (fun c _ w h => hQP c _ _ _ w h) (Or.inr ⟨by rfl, rfl⟩) hS ?_
      simp only [rq22d, Act.put, List.setIfInBounds_toArray, List.set_cons_zero, List.set_cons_succ]
      refine wpAnyH_take (i := 23) (oi := rq23) (v := undef) rfl (by kernel_rfl) (by kernel_rfl) (by kernel_rfl) (fun c _ w h => hQP c _ _ _ w h) (Or.inr ⟨by rfl, rfl⟩) hS ?_
      simp only [rq23d, Act.put, List.setIfInBounds_toArray, List.set_cons_zero, List.set_cons_succ]
      refine wpAnyH_take (i := 24) (oi := rq24) (v := .bool true) rfl (by kernel_rfl) (by kernel_rfl) (by kernel_rfl) (fun c _ w h => hQP c _ _ _ w h) (Or.inl ⟨by rfl, ?_⟩) hS ?_
      · rintro w ⟨z1, z2, z3, z4, z5, z6, z7⟩
        unfold rq24
        go_simp
      simp only [rq24d, Act.put, List.setIfInBounds_toArray, List.set_cons_zero, List.set_cons_succ]
      refine wpAnyH_take (i := 25) (oi := rq25) (v := .bool true) rfl (by kernel_rfl) (by kernel_rfl) (by kernel_rfl) (fun c _ w h => hQP c _ _ _ w h) (Or.inl ⟨by rfl, ?_⟩) hS ?_
      · rintro w ⟨z1, z2, z3, z4, z5, z6, z7⟩
        unfold rq25
        go_simp
      simp only [rq25d, Act.put, List.setIfInBounds_toArray, List.set_cons_zero, List.set_cons_succ]
      refine wpAnyH_take (i := 26) (oi := rq26) (v := undef) rfl (by kernel_rfl) (by kernel_rfl) (by kernel_rfl) (fun c _ w h => hQP c _ _ _ w h) (Or.inr ⟨by rfl, rfl⟩) hS ?_
      simp only [rq26d, Act.put, List.setIfInBounds_toArray, List.set_cons_zero, List.set_cons_succ]
      refine wpAnyH_take (i := 27) (oi := rq27) (v := undef) rfl (by kernel_rfl) (by kernel_rfl) (by kernel_rfl) (fun c _ w h => hQP c _ _ _ w h) (Or.inr ⟨by rfl, rfl⟩) hS ?_
      simp only [rq27d, Act.put, List.setIfInBounds_toArray, List.set_cons_zero, List.set_cons_succ]
      refine wpAnyH_take (i := 28) (oi := rq28) (v := undef) rfl (by kernel_rfl) (by kernel_rfl) (by kernel_rfl) (fun c _ w h => hQP c _ _ _ w h) (Or.inr ⟨by rfl, rfl⟩) hS ?_
      simp only [rq28d, Act.put, List.setIfInBounds_toArray, List.set_cons_zero, List.set_cons_succ]
      refine wpAnyH_take (i := 29) (oi := rq29) (v := undef) rfl (by kernel_rfl) (by kernel_rfl) (by kernel_rfl) (fun c _ w h => hQP c _ _ _ w h) (Or.inr ⟨by rfl, rfl⟩) hS ?_
      simp only [rq29d, Act.put, List.setIfInBounds_toArray, List.set_cons_zero, List.set_cons_succ]
      refine wpAnyH_take (i := 30) (oi := rq30) (v := undef) rfl (by kernel_rfl) (by kernel_rfl) (by kernel_rfl) (fun c _ w h => hQP c _ _ _ w h) (Or.inr ⟨by rfl, rfl⟩) hS ?_
      simp only [rq30d, Act.put, List.setIfInBounds_toArray, List.set_cons_zero, List.set_cons_succ]
      refine wpAnyH_take (i := 31) (oi := rq31) (v := undef) rfl (by kernel_rfl) (by kernel_rfl) (by kernel_rfl) (fun c _ w h => hQP c _ _ _ w h) (Or.inr ⟨by rfl, rfl⟩) hS ?_
      simp only [rq31d, Act.put, List.setIfInBounds_toArray, List.set_cons_zero, List.set_cons_succ]
      refine wpAnyH_take (i := 32) (oi := rq32) (v := undef) rfl (by kernel_rfl) (by kernel_rfl) (by kernel_rfl) (fun c _ w h => hQP c _ _ _ w h) (Or.inr ⟨by rfl, rfl⟩) hS ?_
      simp only [rq32d, Act.put, List.setIfInBounds_toArray, List.set_cons_zero, List.set_cons_succ]
      refine wpAnyH_take (i := 33) (oi := rq33) (v := .bool true) rfl (by kernel_rfl) (by kernel_rfl) (by kernel_rfl) (fun c _ w h => hQP c _ _ _ w h) (Or.inl ⟨by rfl, ?_⟩) hS ?_
      · rintro w ⟨z1, z2, z3, z4, z5, z6, z7⟩
        unfold rq33
        go_simp
      simp only [rq33d, Act.put, List.setIfInBounds_toArray, List.set_cons_zero, List.set_cons_succ]
      refine wpAnyH_take (i := 34) (oi := rq34) (v := .bool true) rfl (by kernel_rfl) (by kernel_rfl) (by kernel_rfl) (fun c _ w h => hQP c _ _ _ w h) (Or.inl ⟨by rfl, ?_⟩) hS ?_
      · rintro w ⟨z1, z2, z3, z4, z5, z6, z7⟩
        unfold rq34
        go_simp
      simp only [rq34d, Act.put, List.setIfInBounds_toArray, List.set_cons_zero, List.set_cons_succ]
      refine wpAnyH_take (i := 35) (oi := rq35) (v := undef) rfl (by kernel_rfl) (by kernel_rfl) (by kernel_rfl) (fun c _ w h => hQP c _ _ _ w h) (Or.inr ⟨by rfl, rfl⟩) hS ?_
      simp only [rq35d, Act.put, List.setIfInBounds_toArray, List.set_cons_zero, List.set_cons_succ]
      refine wpAnyH_take (i := 36) (oi := rq36) (v := undef) rfl (by kernel_rfl) (by kernel_rfl) (by kernel_rfl) (fun c _ w h => hQP c _ _ _ w h) (Or.inr ⟨by rfl, rfl⟩) hS ?_
      simp only [rq36d, Act.put, List.setIfInBounds_toArray, List.set_cons_zero, List.set_cons_succ]
      refine wpAnyH_take (i := 37) (oi := rq37) (v := undef) rfl (by kernel_rfl) (by kernel_rfl) (by kernel_rfl) (fun c _ w h => hQP c _ _ _ w h) (Or.inr ⟨by rfl, rfl⟩) hS ?_
      simp only [rq37d, Act.put, List.setIfInBounds_toArray, List.set_cons_zero, List.set_cons_succ]
      refine wpAnyH_take (i := 38) (oi := rq38) (v := undef) rfl (by kernel_rfl) (by kernel_rfl) (by kernel_rfl) (fun c _ w h => hQP c _ _ _ w h) (Or.inr ⟨by rfl, rfl⟩) hS ?_
      simp only [rq38d, Act.put, List.setIfInBounds_toArray, List.set_cons_zero, List.set_cons_succ]
      refine wpAnyH_take (i := 39) (oi := rq39) (v := undef) rfl (by kernel_rfl) (by kernel_rfl) (by kernel_rfl) (fun c _ w h => hQP c _ _ _ w h) (Or.inr ⟨by rfl, rfl⟩) hS ?_
      simp only [rq39d, Act.put, List.setIfInBounds_toArray, List.set_cons_zero, List.set_cons_succ]
      refine wpAnyH_take (i := 40) (oi := rq40) (v := undef) rfl (by kernel_rfl) (by kernel_rfl) (by kernel_rfl) (fun c _ w h => hQP c _ _ _ w h) (Or.inr ⟨by rfl, rfl⟩) hS ?_
      simp only [rq40d, Act.put, List.setIfInBounds_toArray, List.set_cons_zero, List.set_cons_succ]
      refine wpAnyH_take (i := 41) (oi := rq41) (v := undef) rfl (by kernel_rfl) (by kernel_rfl) (by kernel_rfl) (fun c _ w h => hQP c _ _ _ w h) (Or.inr ⟨by rfl, rfl⟩) hS ?_
      simp only [rq41d, Act.put, List.setIfInBounds_toArray, List.set_cons_zero, List.set_cons_succ]
      refine wpAnyH_take (i := 42) (oi := rq42) (v := undef) rfl (by kernel_rfl) (by kernel_rfl) (by kernel_rfl) (fun c _ w h => hQP c _ _ _ w h) (Or.inr ⟨by rfl, rfl⟩) hS ?_
      simp only [rq42d, Act.put, List.setIfInBounds_toArray, List.set_cons_zero, List.set_cons_succ]
      refine wpAnyH_take (i := 43) (oi := rq43) (v := undef) rfl (by kernel_rfl) (by kernel_rfl) (by kernel_rfl) (fun c _ w h => hQP c _ _ _ w h) (Or.inr ⟨by rfl, rfl⟩) hS ?_
      simp only [rq43d, Act.put, List.setIfInBounds_toArray, List.set_cons_zero, List.set_cons_succ]
      refine wpAnyH_take (i := 44) (oi := rq44) (v := .bool true) rfl (by kernel_rfl) (by kernel_rfl) (by kernel_rfl) (fun c _ w h => hQP c _ _ _ w h) (Or.inl ⟨by rfl, ?_⟩) hS ?_
      · rintro w ⟨z1, z2, z3, z4, z5, z6, z7⟩
        unfold rq44
        go_simp
      simp only [rq44d, Act.put, List.setIfInBounds_toArray, List.set_cons_zero, List.set_cons_succ]
      refine wpAnyH_take (i := 45) (oi := rq45) (v := .bool true) rfl (by kernel_rfl) (by kernel_rfl) (by kernel_rfl) (fun c _ w h => hQP c _ _ _ w h) (Or.inl ⟨by rfl, ?_⟩) hS ?_
      · rintro w ⟨z1, z2, z3, z4, z5, z6, z7⟩
        unfold rq45
        go_simp
      simp only [rq45d, Act.put, List.setIfInBounds_toArray, List.set_cons_zero, List.set_cons_succ]
      refine wpAnyH_take (i := 46) (oi := rq46) (v := undef) rfl (by kernel_rfl) (by kernel_rfl) (by kernel_rfl) (fun c _ w h => hQP c _ _ _ w h) (Or.inr ⟨by rfl, rfl⟩) hS ?_
      simp only [rq46d, Act.put, List.setIfInBounds_toArray, List.set_cons_zero, List.set_cons_succ]
      refine wpAnyH_take (i := 47) (oi := rq47) (v := undef) rfl (by kernel_rfl) (by kernel_rfl) (by kernel_rfl) (fun c _ w h => hQP c _ _ _ w h) (Or.inr ⟨by rfl, rfl⟩) hS ?_
      simp only [rq47d, Act.put, List.setIfInBounds_toArray, List.set_cons_zero, List.set_cons_succ]
      refine wpAnyH_take (i := 48) (oi := rq48) (v := undef) rfl (by kernel_rfl) (by kernel_rfl) (by kernel_rfl) (fun c _ w h => hQP c _ _ _ w h) (Or.inr ⟨by rfl, rfl⟩) hS ?_
      simp only [rq48d, Act.put, List.setIfInBounds_toArray, List.set_cons_zero, List.set_cons_succ]
      refine wpAnyH_take (i := 49) (oi := rq49) (v := undef) rfl (by kernel_rfl) (by kernel_rfl) (by kernel_rfl) (fun c _ w h => hQP c _ _ _ w h) (Or.inr ⟨by rfl, rfl⟩) hS ?_
      simp only [rq49d, Act.put, List.setIfInBounds_toArray, List.set_cons_zero, List.set_cons_succ]
      refine wpAnyH_take (i := 50) (oi := rq50) (v := undef) rfl (by kernel_rfl) (by kernel_rfl) (by kernel_rfl) (fun c _ w h => hQP c _ _ _ w h) (Or.inr ⟨by rfl, rfl⟩) hS ?_
      simp only [rq50d, Act.put, List.setIfInBounds_toArray, List.set_cons_zero, List.set_cons_succ]
      refine wpAnyH_take (i := 51) (oi := rq51) (v := undef) rfl (by kernel_rfl) (by kernel_rfl) (by kernel_rfl) (fun c _ w h => hQP c _ _ _ w h) (Or.inr ⟨by rfl, rfl⟩) hS ?_
      simp only [rq51d, Act.put, List.setIfInBounds_toArray, List.set_cons_zero, List.set_cons_succ]
      refine wpAnyH_take (i := 52) (oi := rq52) (v := undef) rfl (by kernel_rfl) (by kernel_rfl) (by kernel_rfl) (fun c _ w h => hQP c _ _ _ w h) (Or.inr ⟨by rfl, rfl⟩) hS ?_
      simp only [rq52d, Act.put, List.setIfInBounds_toArray, List.set_cons_zero, List.set_cons_succ]
      refine wpAnyH_take (i := 53) (oi := rq53) (v := undef) rfl (by kernel_rfl) (by kernel_rfl) (by kernel_rfl) (fun c _ w h => hQP c _ _ _ w h) (Or.inr ⟨by rfl, rfl⟩) hS ?_
      simp only [rq53d, Act.put, List.setIfInBounds_toArray, List.set_cons_zero, List.set_cons_succ]
      refine wpAnyH_take (i := 54) (oi := rq54) (v := undef) rfl (by kernel_rfl) (by kernel_rfl) (by kernel_rfl) (fun c _ w h => hQP c _ _ _ w h) (Or.inr ⟨by rfl, rfl⟩) hS ?_
      simp only [rq54d, Act.put, List.setIfInBounds_toArray, List.set_cons_zero, List.set_cons_succ]
      refine wpAnyH_take (i := 55) (oi := rq55) (v := .bool true) rfl (by kernel_rfl) (by kernel_rfl) (by kernel_rfl) (fun c _ w h => hQP c _ _ _ w h) (Or.inl ⟨by rfl, ?_⟩) hS ?_
      · rintro w ⟨z1, z2, z3, z4, z5, z6, z7⟩
        unfold rq55
        go_simp
      simp only [rq55d, Act.put, List.setIfInBounds_toArray, List.set_cons_zero, List.set_cons_succ]
      refine wpAnyH_take (i := 56) (oi := rq56) (v := .bool true) rfl (by kernel_rfl) (by kernel_rfl) (by kernel_rfl) (fun c _ w h => hQP c _ _ _ w h) (Or.inl ⟨by rfl, ?_⟩) hS ?_
      · rintro w ⟨z1, z2, z3, z4, z5, z6, z7⟩
        unfold rq56
        go_simp
      simp only [rq56d, Act.put, List.setIfInBounds_toArray, List.set_cons_zero, List.set_cons_succ]
      refine wpAnyH_take (i := 57) (oi := rq57) (v := undef) rfl (by kernel_rfl) (by kernel_rfl) (by kernel_rfl) (fun c _ w h => hQP c _ _ _ w h) (Or.inr ⟨by rfl, rfl⟩) hS ?_
      simp only [rq57d, Act.put, List.setIfInBounds_toArray, List.set_cons_zero, List.set_cons_succ]
      refine wpAnyH_take (i := 58) (oi := rq58) (v := undef) rfl (by kernel_rfl) (by kernel_rfl) (by kernel_rfl) (fun c _ w h => hQP c _ _ _ w h) (Or.inr ⟨by rfl, rfl⟩) hS ?_
      simp only [rq58d, Act.put, List.setIfInBounds_toArray, List.set_cons_zero, List.set_cons_succ]
      refine wpAnyH_take (i := 59) (oi := rq59) (v := undef) rfl (by kernel_rfl) (by kernel_rfl) (by kernel_rfl) (fun c _ w h => hQP c _ _ _ w h) (Or.inr ⟨by rfl, rfl⟩) hS ?_
      simp only [rq59d, Act.put, List.setIfInBounds_toArray, List.set_cons_zero, List.set_cons_succ]
      refine wpAnyH_take (i := 60) (oi := rq60) (v := .bool true) rfl (by kernel_rfl) (by kernel_rfl) (by kernel_rfl) (fun c _ w h => hQP c _ _ _ w h) (Or.inl ⟨by rfl, ?_⟩) hS ?_
      · rintro w ⟨z1, z2, z3, z4, z5, z6, z7⟩
        unfold rq60
        go_simp
      simp only [rq60d, Act.put, List.setIfInBounds_toArray, List.set_cons_zero, List.set_cons_succ]
      refine wpAnyH_take (i := 61) (oi := rq61) (v := .bool true) rfl (by kernel_rfl) (by kernel_rfl) (by kernel_rfl) (fun c _ w h => hQP c _ _ _ w h) (Or.inl ⟨by rfl, ?_⟩) hS ?_
      · rintro w ⟨z1, z2, z3, z4, z5, z6, z7⟩
        unfold rq61
        go_simp
      simp only [rq61d, Act.put, List.setIfInBounds_toArray, List.set_cons_zero, List.set_cons_succ]
      refine wpAnyH_take (i := 62) (oi := rq62) (v := undef) rfl (by kernel_rfl) (by kernel_rfl) (by kernel_rfl) (fun c _ w h => hQP c _ _ _ w h) (Or.inr ⟨by rfl, rfl⟩) hS ?_
      simp only [rq62d, Act.put, List.setIfInBounds_toArray, List.set_cons_zero, List.set_cons_succ]
      refine wpAnyH_take (i := 63) (oi := rq63) (v := undef) rfl (by kernel_rfl) (by kernel_rfl) (by kernel_rfl) (fun c _ w h => hQP c _ _ _ w h) (Or.inr ⟨by rfl, rfl⟩) hS ?_
      simp only [rq63d, Act.put, List.setIfInBounds_toArray, List.set_cons_zero, List.set_cons_succ]
      refine wpAnyH_take (i := 64) (oi := rq64) (v := undef) rfl (by kernel_rfl) (by kernel_rfl) (by kernel_rfl) (fun c _ w h => hQP c _ _ _ w h) (Or.inr ⟨by rfl, rfl⟩) hS ?_
      simp only [rq64d, Act.put, List.setIfInBounds_toArray, List.set_cons_zero, List.set_cons_succ]
      refine wpAnyH_take (i := 65) (oi := rq65) (v := undef) rfl (by kernel_rfl) (by kernel_rfl) (by kernel_rfl) (fun c _ w h => hQP c _ _ _ w h) (Or.inr ⟨by rfl, rfl⟩) hS ?_
      simp only [rq65d, Act.put, List.setIfInBounds_toArray, List.set_cons_zero, List.set_cons_succ]
      refine wpAnyH_take (i := 66) (oi := rq66) (v := undef) rfl (by kernel_rfl) (by kernel_rfl) (by kernel_rfl) (fun c _ w h => hQP c _ _ _ w h) (Or.inr ⟨by rfl, rfl⟩) hS ?_
      simp only [rq66d, Act.put, List.setIfInBounds_toArray, List.set_cons_zero, List.set_cons_succ]
      refine wpAnyH_take (i := 67) (oi := rq67) (v := undef) rfl (by kernel_rfl) (by kernel_rfl) (by kernel_rfl) (fun c _ w h => hQP c _ _ _ w h) (Or.inr ⟨by rfl, rfl⟩) hS ?_
      simp only [rq67d, Act.put, List.setIfInBounds_toArray, List.set_cons_zero, List.set_cons_succ]
      refine wpAnyH_take (i := 68) (oi := rq68) (v := undef) rfl (by kernel_rfl) (by kernel_rfl) (by kernel_rfl) (fun c _ w h => hQP c _ _ _ w h) (Or.inr ⟨by rfl, rfl⟩) hS ?_
      simp only [rq68d, Act.put, List.setIfInBounds_toArray, List.set_cons_zero, List.set_cons_succ]
      refine wpAnyH_take (i := 69) (oi := rq69) (v := undef) rfl (by kernel_rfl) (by kernel_rfl) (by kernel_rfl) (fun c _ w h => hQP c _ _ _ w h) (Or.inr ⟨by rfl, rfl⟩) hS ?_
      simp only [rq69d, Act.put, List.setIfInBounds_toArray, List.set_cons_zero, List.set_cons_succ]
      refine wpAnyH_take (i := 70) (oi := rq70) (v := undef) rfl (by kernel_rfl) (by kernel_rfl) (by kernel_rfl) (fun c _ w h => hQP c _ _ _ w h) (Or.inr ⟨by rfl, rfl⟩) hS ?_
      simp only [rq70d, Act.put, List.setIfInBounds_toArray, List.set_cons_zero, List.set_cons_succ]
      refine wpAnyH_take (i := 71) (oi := rq71) (v := .bool true) rfl (by kernel_rfl) (by kernel_rfl) (by kernel_rfl) (fun c _ w h => hQP c _ _ _ w h) (Or.inl ⟨by rfl, ?_⟩) hS ?_
      · rintro w ⟨z1, z2, z3, z4, z5, z6, z7⟩
        unfold rq71
        go_simp
      simp only [rq71d, Act.put, List.setIfInBounds_toArray, List.set_cons_zero, List.set_cons_succ]
      exact wpAnyH_done (by kernel_rfl) (hQ _ _ _ _ _ _ _ _ _ _ _ _ _ _ _ _ _ _ _ _ _ _ _ _ _ _ _ _ _ _ _ _ _ _ _ _ _ _ _ _ _ _ _ _ _ _ _ _ _ _ _ _ _ _ _ _ _ _ _ _ _ _ _ _ _ _ _ _ _ _ _ _ _ (by first | rfl | (simp only [q1, q2]; rfl) | simp [q1, q2]) B) _
  · refine wpAnyH_take (i := 7) (oi := rq7) (v := .bool true) rfl (by kernel_rfl) (by kernel_rfl) (by kernel_rfl) (fun c _ w h => hQP c _ _ _ w h) (Or.inl ⟨by rfl, ?_⟩) hS ?_
    · rintro w ⟨z1, z2, z3, z4, z5, z6, z7⟩
      unfold rq7
      go_simp
      all_goals (have hq := q1; simp at hq ⊢; first | omega | assumption | exact hq | grind)
    simp only [rq7d, Act.put, List.setIfInBounds_toArray, List.set_cons_zero, List.set_cons_succ]
    refine wpAnyH_take (i := 8) (oi := rq8) (v := .bool true) rfl (by kernel_rfl) (by kernel_rfl) (by kernel_rfl) (fun c _ w h => hQP c _ _ _ w h) (Or.inl ⟨by rfl, ?_⟩) hS ?_
    · rintro w ⟨z1, z2, z3, z4, z5, z6, z7⟩
      unfold rq8
      go_simp
    simp only [rq8d, Act.put, List.setIfInBounds_toArray, List.set_cons_zero, List.set_cons_succ]
    refine wpAnyH_take (i := 9) (oi := rq9) (v := .bool true) rfl (by kernel_rfl) (by kernel_rfl) (by kernel_rfl) (fun c _ w h => hQP c _ _ _ w h) (Or.inl ⟨by rfl, ?_⟩) hS ?_
    · rintro w ⟨z1, z2, z3, z4, z5, z6, z7⟩
      unfold rq9
      go_simp
    simp only [rq9d, Act.put, List.setIfInBounds_toArray, List.set_cons_zero, List.set_cons_succ]
    refine wpAnyH_take (i := 10) (oi := rq10) (v := undef) rfl (by kernel_rfl) (by kernel_rfl) (by kernel_rfl) (fun c _ w h => hQP c _ _ _ w h) (Or.inr ⟨by rfl, rfl⟩) hS ?_
    simp only [rq10d, Act.put, List.setIfInBounds_toArray, List.set_cons_zero, List.set_cons_succ]
    refine wpAnyH_take (i := 11) (oi := rq11) (v := undef) rfl (by kernel_rfl) (by kernel_rfl) (by kernel_rfl) (fun c _ w h => hQP c _ _ _ w h) (Or.inr ⟨by rfl, rfl⟩) hS ?_
    simp only [rq11d, Act.put, List.setIfInBounds_toArray, List.set_cons_zero, List.set_cons_succ]
    refine wpAnyH_take (i := 12) (oi := rq12) (v := undef) rfl (by kernel_rfl) (by kernel_rfl) (by kernel_rfl) (fun c _ w h => hQP c _ _ _ w h) (Or.inr ⟨by rfl, rfl⟩) hS ?_
    simp only [rq12d, Act.put, List.setIfInBounds_toArray, List.set_cons_zero, List.set_cons_succ]
    refine wpAnyH_take (i := 13) (oi := rq13) (v := undef) rfl (by kernel_rfl) (by kernel_rfl) (by kernel_rfl) (fun c _ w h => hQP c _ _ _ w h) (Or.inr ⟨by rfl, rfl⟩) hS ?_
    simp only [rq13d, Act.put, List.setIfInBounds_toArray, List.set_cons_zero, List.set_cons_succ]
    refine wpAnyH_take (i := 14) (oi := rq14) (v := undef) rfl (by kernel_rfl) (by kernel_rfl) (by kernel_rfl) (fun c _ w h => hQP c _ _ _ w h) (Or.inr ⟨by rfl, rfl⟩) hS ?_
    simp only [rq14d, Act.put, List.setIfInBounds_toArray, List.set_cons_zero, List.set_cons_succ]
    refine wpAnyH_take (i := 15) (oi := rq15) (v := .bool true) rfl (by kernel_rfl) (by kernel_rfl) (by kernel_rfl) (fun c _ w h => hQP c _ _ _ w h) (Or.inl ⟨by rfl, ?_⟩) hS ?_
    · rintro w ⟨z1, z2, z3, z4, z5, z6, z7⟩
      unfold rq15
      go_simp
    simp only [rq15d, Act.put, List.setIfInBounds_toArray, List.set_cons_zero, List.set_cons_succ]
    refine wpAnyH_take (i := 16) (oi := rq16) (v := .bool true) rfl (by kernel_rfl) (by kernel_rfl) (by kernel_rfl) (fun c _ w h => hQP c _ _ _ w h) (Or.inl ⟨by rfl, ?_⟩) hS ?_
    · rintro w ⟨z1, z2, z3, z4, z5, z6, z7⟩
      unfold rq16
      go_simp
    simp only [rq16d, Act.put, List.setIfInBounds_toArray, List.set_cons_zero, List.set_cons_succ]
    refine wpAnyH_take (i := 17) (oi := rq17) (v := undef) rfl (by kernel_rfl) (by kernel_rfl) (by kernel_rfl) (fun c _ w h => hQP c _ _ _ w h) (Or.inr ⟨by rfl, rfl⟩) hS ?_
    simp only [rq17d, Act.put, List.setIfInBounds_toArray, List.set_cons_zero, List.set_cons_succ]
    refine wpAnyH_take (i := 18) (oi := rq18) (v := undef) rfl (by kernel_rfl) (by kernel_rfl) (by kernel_rfl) (fun c _ w h => hQP c _ _ _ w h) (Or.inr ⟨by rfl, rfl⟩) hS ?_
    simp only [rq18d, Act.put, List.setIfInBounds_toArray, List.set_cons_zero, List.set_cons_succ]
    refine wpAnyH_take (i := 19) (oi := rq19) (v := undef) rfl (by kernel_rfl) (by kernel_rfl) (by kernel_rfl) (fun c _ w h => hQP c _ _ _ w h) (Or.inr ⟨by rfl, rfl⟩) hS ?_
    simp only [rq19d, Act.put, List.setIfInBounds_toArray, List.set_cons_zero, List.set_cons_succ]
    refine wpAnyH_take (i := 20) (oi := rq20) (v := undef) rfl (by kernel_rfl) (by kernel_rfl) (by kernel_rfl) (fun c _ w h => hQP c _ _ _ w h) (Or.inr ⟨by rfl, rfl⟩) hS ?_
    simp only [rq20d, Act.put, List.setIfInBounds_toArray, List.set_cons_zero, List.set_cons_succ]
    refine wpAnyH_take (i := 21) (oi := rq21) (v := undef) rfl (by kernel_rfl) (by kernel_rfl) (by kernel_rfl) (fun c _ w h => hQP c _ _ _ w h) (Or.inr ⟨by rfl, rfl⟩) hS ?_
    simp only [rq21d, Act.put, List.setIfInBounds_toArray, List.set_cons_zero, List.set_cons_succ]
    refine wpAnyH_take (i := 22) (oi := rq22) (v := undef) rfl (by kernel_rfl) (by kernel_rfl) (by kernel_rfl) (fun c _ w h => hQP c _ _ _ w h) (Or.inr ⟨by rfl, rfl⟩) hS ?_
    simp only [rq22d, Act.put, List.setIfInBounds_toArray, List.set_cons_zero, List.set_cons_succ]
    refine wpAnyH_take (i := 23) (oi := rq23) (v := undef) rfl (by kernel_rfl) (by kernel_rfl) (by kernel_rfl) (fun c _ w h => hQP c _ _ _ w h) (Or.inr ⟨by rfl, rfl⟩) hS ?_
    simp only [rq23d, Act.put, List.setIfInBounds_toArray, List.set_cons_zero, List.set_cons_succ]
    refine wpAnyH_take (i := 24) (oi := rq24) (v := .bool true) rfl (by kernel_rfl) (by kernel_rfl) (by kernel_rfl) (fun c _ w h => hQP c _ _ _ w h) (Or.inl ⟨by rfl, ?_⟩) hS ?_
    · rintro w ⟨z1, z2, z3, z4, z5, z6, z7⟩
      unfold rq24
      go_simp
    simp only [rq24d, Act.put, List.setIfInBounds_toArray, List.set_cons_zero, List.set_cons_succ]
    refine wpAnyH_take (i := 25) (oi := rq25) (v := .bool true) rfl (by kernel_rfl) (by kernel_rfl) (by kernel_rfl) (fun c _ w h => hQP c _ _ _ w h) (Or.inl ⟨by rfl, ?_⟩) hS ?_
    · rintro w ⟨z1, z2, z3, z4, z5, z6, z7⟩
      unfold rq25
      go_simp
    simp only [rq25d, Act.put, List.setIfInBounds_toArray, List.set_cons_zero, List.set_cons_succ]
    refine wpAnyH_take (i := 26) (oi := rq26) (v := undef) rfl (by kernel_rfl) (by kernel_rfl) (by kernel_rfl) (fun c _ w h => hQP c _ _ _ w h) (Or.inr ⟨by rfl, rfl⟩) hS ?_
    simp only [rq26d, Act.put, List.setIfInBounds_toArray, List.set_cons_zero, List.set_cons_succ]
    refine wpAnyH_take (i := 27) (oi := rq27) (v := undef) rfl (by kernel_rfl) (by kernel_rfl) (by kernel_rfl) (fun c _ w h => hQP c _ _ _ w h) (Or.inr ⟨by rfl, rfl⟩) hS ?_
    simp only [rq27d, Act.put, List.setIfInBounds_toArray, List.set_cons_zero, List.set_cons_succ]
    refine wpAnyH_take (i := 28) (oi := rq28) (v := undef) rfl (by kernel_rfl) (by kernel_rfl) (by kernel_rfl) (fun c _ w h => hQP c _ _ _ w h) (Or.inr ⟨by rfl, rfl⟩) hS ?_
    simp only [rq28d, Act.put, List.setIfInBounds_toArray, List.set_cons_zero, List.set_cons_succ]
    refine wpAnyH_take (i := 29) (oi := rq29) (v := undef) rfl (by kernel_rfl) (by kernel_rfl) (by kernel_rfl) (fun c _ w h => hQP c _ _ _ w h) (Or.inr ⟨by rfl, rfl⟩) hS ?_
    simp only [rq29d, Act.put, List.setIfInBounds_toArray, List.set_cons_zero, List.set_cons_succ]
    refine wpAnyH_take (i := 30) (oi := rq30) (v := undef) rfl (by kernel_rfl) (by kernel_rfl) (by kernel_rfl) (fun c _ w h => hQP c _ _ _ w h) (Or.inr ⟨by rfl, rfl⟩) hS ?_
    simp only [rq30d, Act.put, List.setIfInBounds_toArray, List.set_cons_zero, List.set_cons_succ]
    refine wpAnyH_take (i := 31) (oi := rq31) (v := undef) rfl (by kernel_rfl) (by kernel_rfl) (by kernel_rfl) (fun c _ w h => hQP c _ _ _ w h) (Or.inr ⟨by rfl, rfl⟩) hS ?_
    simp only [rq31d, Act.put, List.setIfInBounds_toArray, List.set_cons_zero, List.set_cons_succ]
    refine wpAnyH_take (i := 32) (oi := rq32) (v := undef) rfl (by kernel_rfl) (by kernel_rfl) (by kernel_rfl) (fun c _ w h => hQP c _ _ _ w h) (Or.inr ⟨by rfl, rfl⟩) hS ?_
    simp only [rq32d, Act.put, List.setIfInBounds_toArray, List.set_cons_zero, List.set_cons_succ]
    refine wpAnyH_take (i := 33) (oi := rq33) (v := .bool true) rfl (by kernel_rfl) (by kernel_rfl) (by kernel_rfl) (fun c _ w h => hQP c _ _ _ w h) (Or.inl ⟨by rfl, ?_⟩) hS ?_
    · rintro w ⟨z1, z2, z3, z4, z5, z6, z7⟩
      unfold rq33
      go_simp
    simp only [rq33d, Act.put, List.setIfInBounds_toArray, List.set_cons_zero, List.set_cons_succ]
    refine wpAnyH_take (i := 34) (oi := rq34) (v := .bool true) rfl (by kernel_rfl) (by kernel_rfl) (by kernel_rfl) (fun c _ w h => hQP c _ _ _ w h) (Or.inl ⟨by rfl, ?_⟩) hS ?_
    · rintro w ⟨z1, z2, z3, z4, z5, z6, z7⟩
      unfold rq34
      go_simp
    simp only [rq34d, Act.put, List.setIfInBounds_toArray, List.set_cons_zero, List.set_cons_succ]
    refine wpAnyH_take (i := 35) (oi := rq35) (v := undef) rfl (by kernel_rfl) (by kernel_rfl) (by kernel_rfl) (fun c _ w h => hQP c _ _ _ w h) (Or.inr ⟨by rfl, rfl⟩) hS ?_
    simp only [rq35d, Act.put, List.setIfInBounds_toArray, List.set_cons_zero, List.set_cons_succ]
    refine wpAnyH_take (i := 36) (oi := rq36) (v := undef) rfl (by kernel_rfl) (by kernel_rfl) (by kernel_rfl) (fun c _ w h => hQP c _ _ _ w h) (Or.inr ⟨by rfl, rfl⟩) hS ?_
    simp only [rq36d, Act.put, List.setIfInBounds_toArray, List.set_cons_zero, List.set_cons_succ]
    refine wpAnyH_take (i := 37) (oi := rq37) (v := undef) rfl (by kernel_rfl) (by kernel_rfl) (by kernel_rfl) (fun c _ w h => hQP c _ _ _ w h) (Or.inr ⟨by rfl, rfl⟩) hS ?_
    simp only [rq37d, Act.put, List.setIfInBounds_toArray, List.set_cons_zero, List.set_cons_succ]
    refine wpAnyH_take (i := 38) (oi := rq38) (v := undef) rfl (by kernel_rfl) (by kernel_rfl) (by kernel_rfl) (fun c _ w h => hQP c _ _ _ w h) (Or.inr ⟨by rfl, rfl⟩) hS ?_
    simp only [rq38d, Act.put, List.setIfInBounds_toArray, List.set_cons_zero, List.set_cons_succ]
    refine wpAnyH_take (i := 39) (oi := rq39) (v := undef) rfl (by kernel_rfl) (by kernel_rfl) (by kernel_rfl) (fun c _ w h => hQP c _ _ _ w h) (Or.inr ⟨by rfl, rfl⟩) hS ?_
    simp only [rq39d, Act.put, List.setIfInBounds_toArray, List.set_cons_zero, List.set_cons_succ]
    refine wpAnyH_take (i := 40) (oi := rq40) (v := undef) rfl (by kernel_rfl) (by kernel_rfl) (by kernel_rfl) (fun c _ w h => hQP c _ _ _ w h) (Or.inr ⟨by rfl, rfl⟩) hS ?_
    simp only [rq40d, Act.put, List.setIfInBounds_toArray, List.set_cons_zero, List.set_cons_succ]
    refine wpAnyH_take (i := 41) (oi := rq41) (v := undef) rfl (by kernel_rfl) (by kernel_rfl) (by kernel_rfl) (fun c _ w h => hQP c _ _ _ w h) (Or.inr ⟨by rfl, rfl⟩) hS ?_
    simp only [rq41d, Act.put, List.setIfInBounds_toArray, List.set_cons_zero, List.set_cons_succ]
    refine wpAnyH_take (i := 42) (oi := rq42) (v := undef) rfl (by kernel_rfl) (by kernel_rfl) (by kernel_rfl) (fun c _ w h => hQP c _ _ _ w h) (Or.inr ⟨by rfl, rfl⟩) hS ?_
    simp only [rq42d, Act.put, List.setIfInBounds_toArray, List.set_cons_zero, List.set_cons_succ]
    refine wpAnyH_take (i := 43) (oi := rq43) (v := undef) rfl (by kernel_rfl) (by kernel_rfl) (by kernel_rfl) (fun c _ w h => hQP c _ _ _ w h) (Or.inr ⟨by rfl, rfl⟩) hS ?_
    simp only [rq43d, Act.put, List.setIfInBounds_toArray, List.set_cons_zero, List.set_cons_succ]
    refine wpAnyH_take (i := 44) (oi := rq44) (v := .bool true) rfl (by kernel_rfl) (by kernel_rfl) (by kernel_rfl) (fun c _ w h => hQP c _ _ _ w h) (Or.inl ⟨by rfl, ?_⟩) hS ?_
    · rintro w ⟨z1, z2, z3, z4, z5, z6, z7⟩
      unfold rq44
      go_simp
    simp only [rq44d, Act.put, List.setIfInBounds_toArray, List.set_cons_zero, List.set_cons_succ]
    refine wpAnyH_take (i := 45) (oi := rq45) (v := .bool true) rfl (by kernel_rfl) (by kernel_rfl) (by kernel_rfl) (fun c _ w h => hQP c _ _ _ w h) (Or.inl ⟨by rfl, ?_⟩) hS ?_
    · rintro w ⟨z1, z2, z3, z4, z5, z6, z7⟩
      unfold rq45
      go_simp
    simp only [rq45d, Act.put, List.setIfInBounds_toArray, List.set_cons_zero, List.set_cons_succ]
    refine wpAnyH_take (i := 46) (oi := rq46) (v := undef) rfl (by kernel_rfl) (by kernel_rfl) (by kernel_rfl) (fun c _ w h => hQP c _ _ _ w h) (Or.inr ⟨by rfl, rfl⟩) hS ?_
    simp only [rq46d, Act.put, List.setIfInBounds_toArray, List.set_cons_zero, List.set_cons_succ]
    refine wpAnyH_take (i := 47) (oi := rq47) (v := undef) rfl (by kernel_rfl) (by kernel_rfl) (by kernel_rfl) (fun c _ w h => hQP c _ _ _ w h) (Or.inr ⟨by rfl, rfl⟩) hS ?_
    simp only [rq47d, Act.put, List.setIfInBounds_toArray, List.set_cons_zero, List.set_cons_succ]
    refine wpAnyH_take (i := 48) (oi := rq48) (v := undef) rfl (by kernel_rfl) (by kernel_rfl) (by kernel_rfl) (fun c _ w h => hQP c _ _ _ w h) (Or.inr ⟨by rfl, rfl⟩) hS ?_
    simp only [rq48d, Act.put, List.setIfInBounds_toArray, List.set_cons_zero, List.set_cons_succ]
    refine wpAnyH_take (i := 49) (oi := rq49) (v := undef) rfl (by kernel_rfl) (by kernel_rfl) (by kernel_rfl) (fun c _ w h => hQP c _ _ _ w h) (Or.inr ⟨by rfl, rfl⟩) hS ?_
    simp only [rq49d, Act.put, List.setIfInBounds_toArray, List.set_cons_zero, List.set_cons_succ]
    refine wpAnyH_take (i := 50) (oi := rq50) (v := undef) rfl (by kernel_rfl) (by kernel_rfl) (by kernel_rfl) (fun c _ w h => hQP c _ _ _ w h) (Or.inr ⟨by rfl, rfl⟩) hS ?_
    simp only [rq50d, Act.put, List.setIfInBounds_toArray, List.set_cons_zero, List.set_cons_succ]
    refine wpAnyH_take (i := 51) (oi := rq51) (v := undef) rfl (by kernel_rfl) (by kernel_rfl) (by kernel_rfl) (fun c _ w h => hQP c _ _ _ w h) (Or.inr ⟨by rfl, rfl⟩) hS ?_
    simp only [rq51d, Act.put, List.setIfInBounds_toArray, List.set_cons_zero, List.set_cons_succ]
    refine wpAnyH_take (i := 52) (oi := rq52) (v := undef) rfl (by kernel_rfl) (by kernel_rfl) (by kernel_rfl) (fun c _ w h => hQP c _ _ _ w h) (Or.inr ⟨by rfl, rfl⟩) hS ?_
    simp only [rq52d, Act.put, List.setIfInBounds_toArray, List.set_cons_zero, List.set_cons_succ]
    refine wpAnyH_take (i := 53) (oi := rq53) (v := undef) rfl (by kernel_rfl) (by kernel_rfl) (by kernel_rfl) (fun c _ w h => hQP c _ _ _ w h) (Or.inr ⟨by rfl, rfl⟩) hS ?_
    simp only [rq53d, Act.put, List.setIfInBounds_toArray, List.set_cons_zero, List.set_cons_succ]
    refine wpAnyH_take (i := 54) (oi := rq54) (v := undef) rfl (by kernel_rfl) (by kernel_rfl) (by kernel_rfl) (fun c _ w h => hQP c _ _ _ w h) (Or.inr ⟨by rfl, rfl⟩) hS ?_
    simp only [rq54d, Act.put, List.setIfInBounds_toArray, List.set_cons_zero, List.set_cons_succ]
    refine wpAnyH_take (i := 55) (oi := rq55) (v := .bool true) rfl (by kernel_rfl) (by kernel_rfl) (by kernel_rfl) (fun c _ w h => hQP c _ _ _ w h) (Or.inl ⟨by rfl, ?_⟩) hS ?_
    · rintro w ⟨z1, z2, z3, z4, z5, z6, z7⟩
      unfold rq55
      go_simp
    simp only [rq55d, Act.put, List.setIfInBounds_toArray, List.set_cons_zero, List.set_cons_succ]
    refine wpAnyH_take (i := 56) (oi := rq56) (v := .bool true) rfl (by kernel_rfl) (by kernel_rfl) (by kernel_rfl) (fun c _ w h => hQP c _ _ _ w h) (Or.inl ⟨by rfl, ?_⟩) hS ?_
    · rintro w ⟨z1, z2, z3, z4, z5, z6, z7⟩
      unfold rq56
      go_simp
    simp only [rq56d, Act.put, List.setIfInBounds_toArray, List.set_cons_zero, List.set_cons_succ]
    refine wpAnyH_take (i := 57) (oi := rq57) (v := undef) rfl (by kernel_rfl) (by kernel_rfl) (by kernel_rfl) (fun c _ w h => hQP c _ _ _ w h) (Or.inr ⟨by rfl, rfl⟩) hS ?_
    simp only [rq57d, Act.put, List.setIfInBounds_toArray, List.set_cons_zero, List.set_cons_succ]
    refine wpAnyH_take (i := 58) (oi := rq58) (v := undef) rfl (by kernel_rfl) (by kernel_rfl) (by kernel_rfl) (fun c _ w h => hQP c _ _ _ w h) (Or.inr ⟨by rfl, rfl⟩) hS ?_
    simp only [rq58d, Act.put, List.setIfInBounds_toArray, List.set_cons_zero, List.set_cons_succ]
    refine wpAnyH_take (i := 59) (oi := rq59) (v := undef) rfl (by kernel_rfl) (by kernel_rfl) (by kernel_rfl) (fun c _ w h => hQP c _ _ _ w h) (Or.inr ⟨by rfl, rfl⟩) hS ?_
    simp only [rq59d, Act.put, List.setIfInBounds_toArray, List.set_cons_zero, List.set_cons_succ]
    refine wpAnyH_take (i := 60) (oi := rq60) (v := .bool true) rfl (by kernel_rfl) (by kernel_rfl) (by kernel_rfl) (fun c _ w h => hQP c _ _ _ w h) (Or.inl ⟨by rfl, ?_⟩) hS ?_
    · rintro w ⟨z1, z2, z3, z4, z5, z6, z7⟩
      unfold rq60
      go_simp
    simp only [rq60d, Act.put, List.setIfInBounds_toArray, List.set_cons_zero, List.set_cons_succ]
    refine wpAnyH_take (i := 61) (oi := rq61) (v := .bool true) rfl (by kernel_rfl) (by kernel_rfl) (by kernel_rfl) (fun c _ w h => hQP c _ _ _ w h) (Or.inl ⟨by rfl, ?_⟩) hS ?_
    · rintro w ⟨z1, z2, z3, z4, z5, z6, z7⟩
      unfold rq61
      go_simp
    simp only [rq61d, Act.put, List.setIfInBounds_toArray, List.set_cons_zero, List.set_cons_succ]
    refine wpAnyH_take (i := 62) (oi := rq62) (v := undef) rfl (by kernel_rfl) (by kernel_rfl) (by kernel_rfl) (fun c _ w h => hQP c _ _ _ w h) (Or.inr ⟨by rfl, rfl⟩) hS ?_
    simp only [rq62d, Act.put, List.setIfInBounds_toArray, List.set_cons_zero, List.set_cons_succ]
    refine wpAnyH_take (i := 63) (oi := rq63) (v := undef) rfl (by kernel_rfl) (by kernel_rfl) (by kernel_rfl) (fun c _ w h => hQP c _ _ _ w h) (Or.inr ⟨by rfl, rfl⟩) hS ?_
    simp only [rq63d, Act.put, List.setIfInBounds_toArray, List.set_cons_zero, List.set_cons_succ]
    refine wpAnyH_take (i := 64) (oi := rq64) (v := undef) rfl (by kernel_rfl) (by kernel_rfl) (by kernel_rfl) (fun c _ w h => hQP c _ _ _ w h) (Or.inr ⟨by rfl, rfl⟩) hS ?_
    simp only [rq64d, Act.put, List.setIfInBounds_toArray, List.set_cons_zero, List.set_cons_succ]
    refine wpAnyH_take (i := 65) (oi := rq65) (v := undef) rfl (by kernel_rfl) (by kernel_rfl) (by kernel_rfl) (fun c _ w h => hQP c _ _ _ w h) (Or.inr ⟨by rfl, rfl⟩) hS ?_
    simp only [rq65d, Act.put, List.setIfInBounds_toArray, List.set_cons_zero, List.set_cons_succ]
    refine wpAnyH_take (i := 66) (oi := rq66) (v := undef) rfl (by kernel_rfl) (by kernel_rfl) (by kernel_rfl) (fun c _ w h => hQP c _ _ _ w h) (Or.inr ⟨by rfl, rfl⟩) hS ?_
    simp only [rq66d, Act.put, List.setIfInBounds_toArray, List.set_cons_zero, List.set_cons_succ]
    refine wpAnyH_take (i := 67) (oi := rq67) (v := undef) rfl (by kernel_rfl) (by kernel_rfl) (by kernel_rfl) (fun c _ w h => hQP c _ _ _ w h) (Or.inr ⟨by rfl, rfl⟩) hS ?_
    simp only [rq67d, Act.put, List.setIfInBounds_toArray, List.set_cons_zero, List.set_cons_succ]
    refine wpAnyH_take (i := 68) (oi := rq68) (v := undef) rfl (by kernel_rfl) (by kernel_rfl) (by kernel_rfl) (fun c _ w h => hQP c _ _ _ w h) (Or.inr ⟨by rfl, rfl⟩) hS ?_
    simp only [rq68d, Act.put, List.setIfInBounds_toArray, List.set_cons_zero, List.set_cons_succ]
    refine wpAnyH_take (i := 69) (oi := rq69) (v := undef) rfl (by kernel_rfl) (by kernel_rfl) (by kernel_rfl) (fun c _ w h => hQP c _ _ _ w h) (Or.inr ⟨by rfl, rfl⟩) hS ?_
    simp only [rq69d, Act.put, List.setIfInBounds_toArray, List.set_cons_zero, List.set_cons_succ]
    refine wpAnyH_take (i := 70) (oi := rq70) (v := undef) rfl (by kernel_rfl) (by kernel_rfl) (by kernel_rfl) (fun c _ w h => hQP c _ _ _ w h) (Or.inr ⟨by rfl, rfl⟩) hS ?_
    simp only [rq70d, Act.put, List.setIfInBounds_toArray, List.set_cons_zero, List.set_cons_succ]
    refine wpAnyH_take (i := 71) (oi := rq71) (v := .bool true) rfl (by kernel_rfl) (by kernel_rfl) (by kernel_rfl) (fun c _ w h => hQP c _ _ _ w h) (Or.inl ⟨by rfl, ?_⟩) hS ?_
    · rintro w ⟨z1, z2, z3, z4, z5, z6, z7⟩
      unfold rq71
      go_simp
    simp only [rq71d, Act.put, List.setIfInBounds_toArray, List.set_cons_zero, List.set_cons_succ]
    exact wpAnyH_done (by kernel_rfl) (hQ _ _ _ _ _ _ _ _ _ _ _ _ _ _ _ _ _ _ _ _ _ _ _ _ _ _ _ _ _ _ _ _ _ _ _ _ _ _ _ _ _ _ _ _ _ _ _ _ _ _ _ _ _ _ _ _ _ _ _ _ _ _ _ _ _ _ _ _ _ _ _ _ _ (by first | rfl | (simp only [q1]; rfl) | simp [q1]) B) _
end Go.Proofs.YtijeiiiiplkfaaaDoor
namespace Go.Proofs.YtijeiiiiplkfaaaDoor
open Go.RowKit
set_option maxRecDepth 100000 in
set_option maxHeartbeats 64000000 in
theorem reg6n {Q : Exit → Act → World → Prop} (t0 t1 t2 t3 t4 t5 t6 t7 t9 t10 t11 t12 t13 t14 t15 t16 t17 t18 t19 t20 t21 t22 t23 t24 t25 t26 t27 t28 t29 t30 t31 t32 t33 t34 t35 t36 t37 t38 t39 t40 t41 t42 t43 t44 t45 t46 t47 t48 t49 t50 t51 t52 t53 t54 t55 t56 t57 t58 t59 t60 t61 t62 t63 t64 t65 t66 t67 t68 t69 t70 t71 t72 t73 t74 t75 t76 t77 t78 t79 t80 t81 t82 t83 t84 t85 t86 t87 t88 t89 t90 t91 t92 t93 t94 t95 t96 t97 t98 t99 t100 t101 t102 t103 t104 t105 t106 t107 t108 t109 t110 t111 t112 t113 t114 t115 t116 t117 t118 t119 t120 t121 t122 t123 t124 t125 t126 t127 t128 t129 t130 t131 t132 t133 t134 : Value) (W : World)
    (hQP : ∀ c a d v w, Q (.panic c) (Act.put a d v) w → Q (.panic c) a w)
    (hQ : ∀ u28 u29 u30 u31 u32 u33 u34 u35 u36 u37 u38 u39 u40 u41 u42 u43 u44 u45 u46 u47 u48 u49 u50 u51 u52 u53 u54 u55 u56 u57 u58 u59 u60 u61 u62 u63 u64 u65 u66 u67 u68 u69 u70 u71 u72 u73 u74 u75 u76 u77 u78 u79 u80 u81 u82 u83 u84 u85 u86 u87 u88 u89 u90 u91 u92 u93 u94 u95 u96 u97 u98, Q .normal { tmps := #[t0, t1, t2, t3, t4, t5, t6, t7, .bool false, t9, t10, t11, t12, t13, t14, t15, t16, t17, t18, t19, t20, t21, t22, t23, t24, t25, t26, t27, u28, u29, u30, u31, u32, u33, u34, u35, u36, u37, u38, u39, u40, u41, u42, u43, u44, u45, u46, u47, u48, u49, u50, u51, u52, u53, u54, u55, u56, u57, u58, u59, u60, u61, u62, u63, u64, u65, u66, u67, u68, u69, u70, u71, u72, u73, u74, u75, u76, u77, u78, u79, u80, u81, u82, u83, u84, u85, u86, u87, u88, u89, u90, u91, u92, u93, u94, u95, u96, u97, u98, .bool true, t100, t101, t102, t103, t104, t105, t106, t107, t108, t109, t110, t111, t112, t113, t114, t115, t116, t117, t118, t119, t120, t121, t122, t123, t124, t125, t126, t127, t128, t129, t130, t131, t132, t133, t134], defers := [] } W.drew) :
    (Code.region 6 r6Ops true).wp Tryd.prog Q { tmps := #[t0, t1, t2, t3, t4, t5, t6, t7, .bool false, t9, t10, t11, t12, t13, t14, t15, t16, t17, t18, t19, t20, t21, t22, t23, t24, t25, t26, t27, t28, t29, t30, t31, t32, t33, t34, t35, t36, t37, t38, t39, t40, t41, t42, t43, t44, t45, t46, t47, t48, t49, t50, t51, t52, t53, t54, t55, t56, t57, t58, t59, t60, t61, t62, t63, t64, t65, t66, t67, t68, t69, t70, t71, t72, t73, t74, t75, t76, t77, t78, t79, t80, t81, t82, t83, t84, t85, t86, t87, t88, t89, t90, t91, t92, t93, t94, t95, t96, t97, t98, t99, t100, t101, t102, t103, t104, t105, t106, t107, t108, t109, t110, t111, t112, t113, t114, t115, t116, t117, t118, t119, t120, t121, t122, t123, t124, t125, t126, t127, t128, t129, t130, t131, t132, t133, t134], defers := [] } W := by
  dsimp only at hQ ⊢
  refine wp_region_held_drew (S := fun _ => True) mixedQ trivial (fun hS => ?_)
  show wpAnyH Tryd.prog .any r6Ops Q _ 72 #[false, false, false, false, false, false, false, false, false, false, false, false, false, false, false, false, false, false, false, false, false, false, false, false, false, false, false, false, false, false, false, false, false, false, false, false, false, false, false, false, false, false, false, false, false, false, false, false, false, false, false, false, false, false, false, false, false, false, false, false, false, false, false, false, false, false, false, false, false, false, false, false] _ _
  refine wpAnyH_take (i := 0) (oi := rq0) (v := .bool false) rfl (by kernel_rfl) (by kernel_rfl) (by kernel_rfl) (fun c _ w h => hQP c _ _ _ w h) (Or.inl ⟨by rfl, ?_⟩) hS ?_
  · rintro w -
    unfold rq0
    go_simp
  simp only [rq0d, Act.put, List.setIfInBounds_toArray, List.set_cons_zero, List.set_cons_succ]
  refine wpAnyH_take (i := 1) (oi := rq1) (v := .bool true) rfl (by kernel_rfl) (by kernel_rfl) (by kernel_rfl) (fun c _ w h => hQP c _ _ _ w h) (Or.inl ⟨by rfl, ?_⟩) hS ?_
  · rintro w -
    unfold rq1
    go_simp
  simp only [rq1d, Act.put, List.setIfInBounds_toArray, List.set_cons_zero, List.set_cons_succ]
  refine wpAnyH_take (i := 2) (oi := rq2) (v := .bool true) rfl (by kernel_rfl) (by kernel_rfl) (by kernel_rfl) (fun c _ w h => hQP c _ _ _ w h) (Or.inl ⟨by rfl, ?_⟩) hS ?_
  · rintro w -
    unfold rq2
    go_simp
  simp only [rq2d, Act.put, List.setIfInBounds_toArray, List.set_cons_zero, List.set_cons_succ]
  refine wpAnyH_take (i := 3) (oi := rq3) (v := undef) rfl (by kernel_rfl) (by kernel_rfl) (by kernel_rfl) (fun c _ w h => hQP c _ _ _ w h) (Or.inr ⟨by rfl, rfl⟩) hS ?_
  simp only [rq3d, Act.put, List.setIfInBounds_toArray, List.set_cons_zero, List.set_cons_succ]
  refine wpAnyH_take (i := 4) (oi := rq4) (v := undef) rfl (by kernel_rfl) (by kernel_rfl) (by kernel_rfl) (fun c _ w h => hQP c _ _ _ w h) (Or.inr ⟨by rfl, rfl⟩) hS ?_
  simp only [rq4d, Act.put, List.setIfInBounds_toArray, List.set_cons_zero, List.set_cons_succ]
  refine wpAnyH_take (i := 5) (oi := rq5) (v := undef) rfl (by kernel_rfl) (by kernel_rfl) (by kernel_rfl) (fun c _ w h => hQP c _ _ _ w h) (Or.inr ⟨by rfl, rfl⟩) hS ?_
  simp only [rq5d, Act.put, List.setIfInBounds_toArray, List.set_cons_zero, List.set_cons_succ]
  refine wpAnyH_take (i := 6) (oi := rq6) (v := undef) rfl (by kernel_rfl) (by kernel_rfl) (by kernel_rfl) (fun c _ w h => hQP c _ _ _ w h) (Or.inr ⟨by rfl, rfl⟩) hS ?_
  simp only [rq6d, Act.put, List.setIfInBounds_toArray, List.set_cons_zero, List.set_cons_succ]
  refine wpAnyH_take (i := 7) (oi := rq7) (v := undef) rfl (by kernel_rfl) (by kernel_rfl) (by kernel_rfl) (fun c _ w h => hQP c _ _ _ w h) (Or.inr ⟨by rfl, rfl⟩) hS ?_
  simp only [rq7d, Act.put, List.setIfInBounds_toArray, List.set_cons_zero, List.set_cons_succ]
  refine wpAnyH_take (i := 8) (oi := rq8) (v := .bool true) rfl (by kernel_rfl) (by kernel_rfl) (by kernel_rfl) (fun c _ w h => hQP c _ _ _ w h) (Or.inl ⟨by rfl, ?_⟩) hS ?_
  · rintro w -
    unfold rq8
    go_simp
  simp only [rq8d, Act.put, List.setIfInBounds_toArray, List.set_cons_zero, List.set_cons_succ]
  refine wpAnyH_take (i := 9) (oi := rq9) (v := .bool true) rfl (by kernel_rfl) (by kernel_rfl) (by kernel_rfl) (fun c _ w h => hQP c _ _ _ w h) (Or.inl ⟨by rfl, ?_⟩) hS ?_
  · rintro w -
    unfold rq9
    go_simp
  simp only [rq9d, Act.put, List.setIfInBounds_toArray, List.set_cons_zero, List.set_cons_succ]
  refine wpAnyH_take (i := 10) (oi := rq10) (v := undef) rfl (by kernel_rfl) (by kernel_rfl) (by kernel_rfl) (fun c _ w h => hQP c _ _ _ w h) (Or.inr ⟨by rfl, rfl⟩) hS ?_
  simp only [rq10d, Act.put, List.setIfInBounds_toArray, List.set_cons_zero, List.set_cons_succ]
  refine wpAnyH_take (i := 11) (oi := rq11) (v := undef) rfl (by kernel_rfl) (by kernel_rfl) (by kernel_rfl) (fun c _ w h => hQP c _ _ _ w h) (Or.inr ⟨by rfl, rfl⟩) hS ?_
  simp only [rq11d, Act.put, List.setIfInBounds_toArray, List.set_cons_zero, List.set_cons_succ]
  refine wpAnyH_take (i := 12) (oi := rq12) (v := undef) rfl (by kernel_rfl) (by kernel_rfl) (by kernel_rfl) (fun c _ w h => hQP c _ _ _ w h) (Or.inr ⟨by rfl, rfl⟩) hS ?_
  simp only [rq12d, Act.put, List.setIfInBounds_toArray, List.set_cons_zero, List.set_cons_succ]
  refine wpAnyH_take (i := 13) (oi := rq13) (v := undef) rfl (by kernel_rfl) (by kernel_rfl) (by kernel_rfl) (fun c _ w h => hQP c _ _ _ w h) (Or.inr ⟨by rfl, rfl⟩) hS ?_
  simp only [rq13d, Act.put, List.setIfInBounds_toArray, List.set_cons_zero, List.set_cons_succ]
  refine wpAnyH_take (i := 14) (oi := rq14) (v := undef) rfl (by kernel_rfl) (by kernel_rfl) (by kernel_rfl) (fun c _ w h => hQP c _ _ _ w h) (Or.inr ⟨by rfl, rfl⟩) hS ?_
  simp only [rq14d, Act.put, List.setIfInBounds_toArray, List.set_cons_zero, List.set_cons_succ]
  refine wpAnyH_take (i := 15) (oi := rq15) (v := .bool true) rfl (by kernel_rfl) (by kernel_rfl) (by kernel_rfl) (fun c _ w h => hQP c _ _ _ w h) (Or.inl ⟨by rfl, ?_⟩) hS ?_
  · rintro w -
    unfold rq15
    go_simp
  simp only [rq15d, Act.put, List.setIfInBounds_toArray, List.set_cons_zero, List.set_cons_succ]
  refine wpAnyH_take (i := 16) (oi := rq16) (v := .bool true) rfl (by kernel_rfl) (by kernel_rfl) (by kernel_rfl) (fun c _ w h => hQP c _ _ _ w h) (Or.inl ⟨by rfl, ?_⟩) hS ?_
  · rintro w -
    unfold rq16
    go_simp
  simp only [rq16d, Act.put, List.setIfInBounds_toArray, List.set_cons_zero, List.set_cons_succ]
  refine wpAnyH_take (i := 17) (oi := rq17) (v := undef) rfl (by kernel_rfl) (by kernel_rfl) (by kernel_rfl) (fun c _ w h => hQP c _ _ _ w h) (Or.inr ⟨by rfl, rfl⟩) hS ?_
  simp only [rq17d, Act.put, List.setIfInBounds_toArray, List.set_cons_zero, List.set_cons_succ]
  refine wpAnyH_take (i := 18) (oi := rq18) (v := undef) rfl (by kernel_rfl) (by kernel_rfl) (by kernel_rfl) (fun c _ w h => hQP c _ _ _ w h) (Or.inr ⟨by rfl, rfl⟩) hS ?_
  simp only [rq18d, Act.put, List.setIfInBounds_toArray, List.set_cons_zero, List.set_cons_succ]
  refine wpAnyH_take (i := 19) (oi := rq19) (v := undef) rfl (by kernel_rfl) (by kernel_rfl) (by kernel_rfl) (fun c _ w h => hQP c _ _ _ w h) (Or.inr ⟨by rfl, rfl⟩) hS ?_
  simp only [rq19d, Act.put, List.setIfInBounds_toArray, List.set_cons_zero, List.set_cons_succ]
  refine wpAnyH_take (i := 20) (oi := rq20) (v := undef) rfl (by kernel_rfl) (by kernel_rfl) (by kernel_rfl) (fun c _ w h => hQP c _ _ _ w h) (Or.inr ⟨by rfl, rfl⟩) hS ?_
  simp only [rq20d, Act.put, List.setIfInBounds_toArray, List.set_cons_zero, List.set_cons_succ]
  refine wpAnyH_take (i := 21) (oi := rq21) (v := undef) rfl (by kernel_rfl) (by kernel_rfl) (by kernel_rfl) (fun c _ w h => hQP c _ _ _ w h) (Or.inr ⟨by rfl, rfl⟩) hS ?_
  simp only [rq21d, Act.put, List.setIfInBounds_toArray, List.set_cons_zero, List.set_cons_succ]
  refine wpAnyH_take (i := 22) (oi := rq22) (v := undef) rfl (by kernel_rfl) (by kernel_rfl) (by kernel_rfl) (fun c _ w h => hQP c _ _ _ w h) (Or.inr ⟨by rfl, rfl⟩) hS ?_
  simp only [rq22d, Act.put, List.setIfInBounds_toArray, List.set_cons_zero, List.set_cons_succ]
  refine wpAnyH_take (i := 23) (oi := rq23) (v := undef) rfl (by kernel_rfl) (by kernel_rfl) (by kernel_rfl) (fun c _ w h => hQP c _ _ _ w h) (Or.inr ⟨by rfl, rfl⟩) hS ?_
  simp only [rq23d, Act.put, List.setIfInBounds_toArray, List.set_cons_zero, List.set_cons_succ]
  refine wpAnyH_take (i := 24) (oi := rq24) (v := .bool true) rfl (by kernel_rfl) (by kernel_rfl) (by kernel_rfl) (fun c _ w h => hQP c _ _ _ w h) (Or.inl ⟨by rfl, ?_⟩) hS ?_
  · rintro w -
    unfold rq24
    go_simp
  simp only [rq24d, Act.put, List.setIfInBounds_toArray, List.set_cons_zero, List.set_cons_succ]
  refine wpAnyH_take (i := 25) (oi := rq25) (v := .bool true) rfl (by kernel_rfl) (by kernel_rfl) (by kernel_rfl) (fun c _ w h => hQP c _ _ _ w h) (Or.inl ⟨by rfl, ?_⟩) hS ?_
  · rintro w -
    unfold rq25
    go_simp
  simp only [rq25d, Act.put, List.setIfInBounds_toArray, List.set_cons_zero, List.set_cons_succ]
  refine wpAnyH_take (i := 26) (oi := rq26) (v := undef) rfl (by kernel_rfl) (by kernel_rfl) (by kernel_rfl) (fun c _ w h => hQP c _ _ _ w h) (Or.inr ⟨by rfl, rfl⟩) hS ?_
  simp only [rq26d, Act.put, List.setIfInBounds_toArray, List.set_cons_zero, List.set_cons_succ]
  refine wpAnyH_take (i := 27) (oi := rq27) (v := undef) rfl (by kernel_rfl) (by kernel_rfl) (by kernel_rfl) (fun c _ w h => hQP c _ _ _ w h) (Or.inr ⟨by rfl, rfl⟩) hS ?_
  simp only [rq27d, Act.put, List.setIfInBounds_toArray, List.set_cons_zero, List.set_cons_succ]
  refine wpAnyH_take (i := 28) (oi := rq28) (v := undef) rfl (by kernel_rfl) (by kernel_rfl) (by kernel_rfl) (fun c _ w h => hQP c _ _ _ w h) (Or.inr ⟨by rfl, rfl⟩) hS ?_
  simp only [rq28d, Act.put, List.setIfInBounds_toArray, List.set_cons_zero, List.set_cons_succ]
  refine wpAnyH_take (i := 29) (oi := rq29) (v := undef) rfl (by kernel_rfl) (by kernel_rfl) (by kernel_rfl) (fun c _ w h => hQP c _ _ _ w h) (Or.inr ⟨by rfl, rfl⟩) hS ?_
  simp only [rq29d, Act.put, List.setIfInBounds_toArray, List.set_cons_zero, List.set_cons_succ]
  refine wpAnyH_take (i := 30) (oi := rq30) (v := undef) rfl (by kernel_rfl) (by kernel_rfl) (by kernel_rfl) (fun c _ w h => hQP c _ _ _ w h) (Or.inr ⟨by rfl, rfl⟩) hS ?_
  simp only [rq30d, Act.put, List.setIfInBounds_toArray, List.set_cons_zero, List.set_cons_succ]
  refine wpAnyH_take (i := 31) (oi := rq31) (v := undef) rfl (by kernel_rfl) (by kernel_rfl) (by kernel_rfl) (fun c _ w h => hQP c _ _ _ w h) (Or.inr ⟨by rfl, rfl⟩) hS ?_
  simp only [rq31d, Act.put, List.setIfInBounds_toArray, List.set_cons_zero, List.set_cons_succ]
  refine wpAnyH_take (i := 32) (oi := rq32) (v := undef) rfl (by kernel_rfl) (by kernel_rfl) (by kernel_rfl) (fun c _ w h => hQP c _ _ _ w h) (Or.inr ⟨by rfl, rfl⟩) hS ?_
  simp only [rq32d, Act.put, List.setIfInBounds_toArray, List.set_cons_zero, List.set_cons_succ]
  refine wpAnyH_take (i := 33) (oi := rq33) (v := .bool true) rfl (by kernel_rfl) (by kernel_rfl) (by kernel_rfl) (fun c _ w h => hQP c _ _ _ w h) (Or.inl ⟨by rfl, ?_⟩) hS ?_
  · rintro w -
    unfold rq33
    go_simp
  simp only [rq33d, Act.put, List.setIfInBounds_toArray, List.set_cons_zero, List.set_cons_succ]
  refine wpAnyH_take (i := 34) (oi := rq34) (v := .bool true) rfl (by kernel_rfl) (by kernel_rfl) (by kernel_rfl) (fun c _ w h => hQP c _ _ _ w h) (Or.inl ⟨by rfl, ?_⟩) hS ?_
  · rintro w -
    unfold rq34
    go_simp
  simp only [rq34d, Act.put, List.setIfInBounds_toArray, List.set_cons_zero, List.set_cons_succ]
  refine wpAnyH_take (i := 35) (oi := rq35) (v := undef) rfl (by kernel_rfl) (by kernel_rfl) (by kernel_rfl) (fun c _ w h => hQP c _ _ _ w h) (Or.inr ⟨by rfl, rfl⟩) hS ?_
  simp only [rq35d, Act.put, List.setIfInBounds_toArray, List.set_cons_zero, List.set_cons_succ]
  refine wpAnyH_take (i := 36) (oi := rq36) (v := undef) rfl (by kernel_rfl) (by kernel_rfl) (by kernel_rfl) (fun c _ w h => hQP c _ _ _ w h) (Or.inr ⟨by rfl, rfl⟩) hS ?_
  simp only [rq36d, Act.put, List.setIfInBounds_toArray, List.set_cons_zero, List.set_cons_succ]
  refine wpAnyH_take (i := 37) (oi := rq37) (v := undef) rfl (by kernel_rfl) (by kernel_rfl) (by kernel_rfl) (fun c _ w h => hQP c _ _ _ w h) (Or.inr ⟨by rfl, rfl⟩) hS ?_
  simp only [rq37d, Act.put, List.setIfInBounds_toArray, List.set_cons_zero, List.set_cons_succ]
  refine wpAnyH_take (i := 38) (oi := rq38) (v := undef) rfl (by kernel_rfl) (by kernel_rfl) (by kernel_rfl) (fun c _ w h => hQP c _ _ _ w h) (Or.inr ⟨by rfl, rfl⟩) hS ?_
  simp only [rq38d, Act.put, List.setIfInBounds_toArray, List.set_cons_zero, List.set_cons_succ]
  refine wpAnyH_take (i := 39) (oi := rq39) (v := undef) rfl (by kernel_rfl) (by kernel_rfl) (by kernel_rfl) (fun c _ w h => hQP c _ _ _ w h) (Or.inr ⟨by rfl, rfl⟩) hS ?_
  simp only [rq39d, Act.put, List.setIfInBounds_toArray, List.set_cons_zero, List.set_cons_succ]
  refine wpAnyH_take (i := 40) (oi := rq40) (v := undef) rfl (by kernel_rfl) (by kernel_rfl) (by kernel_rfl) (fun c _ w h => hQP c _ _ _ w h) (Or.inr ⟨by rfl, rfl⟩) hS ?_
  simp only [rq40d, Act.put, List.setIfInBounds_toArray, List.set_cons_zero, List.set_cons_succ]
  refine wpAnyH_take (i := 41) (oi := rq41) (v := undef) rfl (by kernel_rfl) (by kernel_rfl) (by kernel_rfl) (fun c _ w h => hQP c _ _ _ w h) (Or.inr ⟨by rfl, rfl⟩) hS ?_
  simp only [rq41d, Act.put, List.setIfInBounds_toArray, List.set_cons_zero, List.set_cons_succ]
  refine wpAnyH_take (i := 42) (oi := rq42) (v := undef) rfl (by kernel_rfl) (by kernel_rfl) (by kernel_rfl) (fun c _ w h => hQP c _ _ _ w h) (Or.inr ⟨by rfl, rfl⟩) hS ?_
  simp only [rq42d, Act.put, List.setIfInBounds_toArray, List.set_cons_zero, List.set_cons_succ]
  refine wpAnyH_take (i := 43) (oi := rq43) (v := undef) rfl (by kernel_rfl) (by kernel_rfl) (by kernel_rfl) (fun c _ w h => hQP c _ _ _ w h) (Or.inr ⟨by rfl, rfl⟩) hS ?_
  simp only [rq43d, Act.put, List.setIfInBounds_toArray, List.set_cons_zero, List.set_cons_succ]
  refine wpAnyH_take (i := 44) (oi := rq44) (v := .bool true) rfl (by kernel_rfl) (by kernel_rfl) (by kernel_rfl) (fun c _ w h => hQP c _ _ _ w h) (Or.inl ⟨by rfl, ?_⟩) hS ?_
  · rintro w -
    unfold rq44
    go_simp
  simp only [rq44d, Act.put, List.setIfInBounds_toArray, List.set_cons_zero, List.set_cons_succ]
  refine wpAnyH_take (i := 45) (oi := rq45) (v := .bool true) rfl (by kernel_rfl) (by kernel_rfl) (by kernel_rfl) (fun c _ w h => hQP c _ _ _ w h) (Or.inl ⟨by rfl, ?_⟩) hS ?_
  · rintro w -
    unfold rq45
    go_simp
  simp only [rq45d, Act.put, List.setIfInBounds_toArray, List.set_cons_zero, List.set_cons_succ]
  refine wpAnyH_take (i := 46) (oi := rq46) (v := undef) rfl (by kernel_rfl) (by kernel_rfl) (by kernel_rfl) (fun c _ w h => hQP c _ _ _ w h) (Or.inr ⟨by rfl, rfl⟩) hS ?_
  simp only [rq46d, Act.put, List.setIfInBounds_toArray, List.set_cons_zero, List.set_cons_succ]
  refine wpAnyH_take (i := 47) (oi := rq47) (v := undef) rfl (by kernel_rfl) (by kernel_rfl) (by kernel_rfl) (fun c _ w h => hQP c _ _ _ w h) (Or.inr ⟨by rfl, rfl⟩) hS ?_
  simp only [rq47d, Act.put, List.setIfInBounds_toArray, List.set_cons_zero, List.set_cons_succ]
  refine wpAnyH_take (i := 48) (oi := rq48) (v := undef) rfl (by kernel_rfl) (by kernel_rfl) (by kernel_rfl) (fun c _ w h => hQP c _ _ _ w h) (Or.inr ⟨by rfl, rfl⟩) hS ?_
  simp only [rq48d, Act.put, List.setIfInBounds_toArray, List.set_cons_zero, List.set_cons_succ]
  refine wpAnyH_take (i := 49) (oi := rq49) (v := undef) rfl (by kernel_rfl) (by kernel_rfl) (by kernel_rfl) (fun c _ w h => hQP c _ _ _ w h) (Or.inr ⟨by rfl, rfl⟩) hS ?_
  simp only [rq49d, Act.put, List.setIfInBounds_toArray, List.set_cons_zero, List.set_cons_succ]
  refine wpAnyH_take (i := 50) (oi := rq50) (v := undef) rfl (by kernel_rfl) (by kernel_rfl) (by kernel_rfl) (fun c _ w h => hQP c _ _ _ w h) (Or.inr ⟨by rfl, rfl⟩) hS ?_
  simp only [rq50d, Act.put, List.setIfInBounds_toArray, List.set_cons_zero, List.set_cons_succ]
  refine wpAnyH_take (i := 51) (oi := rq51) (v := undef) rfl (by kernel_rfl) (by kernel_rfl) (by kernel_rfl) (fun c _ w h => hQP c _ _ _ w h) (Or.inr ⟨by rfl, rfl⟩) hS ?_
  simp only [rq51d, Act.put, List.setIfInBounds_toArray, List.set_cons_zero, List.set_cons_succ]
  refine wpAnyH_take (i := 52) (oi := rq52) (v := undef) rfl (by kernel_rfl) (by kernel_rfl) (by kernel_rfl) (fun c _ w h => hQP c _ _ _ w h) (Or.inr ⟨by rfl, rfl⟩) hS ?_
  simp only [rq52d, Act.put, List.setIfInBounds_toArray, List.set_cons_zero, List.set_cons_succ]
  refine wpAnyH_take (i := 53) (oi := rq53) (v := undef) rfl (by kernel_rfl) (by kernel_rfl) (by kernel_rfl) (fun c _ w h => hQP c _ _ _ w h) (Or.inr ⟨by rfl, rfl⟩) hS ?_
  simp only [rq53d, Act.put, List.setIfInBounds_toArray, List.set_cons_zero, List.set_cons_succ]
  refine wpAnyH_take (i := 54) (oi := rq54) (v := undef) rfl (by kernel_rfl) (by kernel_rfl) (by kernel_rfl) (fun c _ w h => hQP c _ _ _ w h) (Or.inr ⟨by rfl, rfl⟩) hS ?_
  simp only [rq54d, Act.put, List.setIfInBounds_toArray, List.set_cons_zero, List.set_cons_succ]
  refine wpAnyH_take (i := 55) (oi := rq55) (v := .bool true) rfl (by kernel_rfl) (by kernel_rfl) (by kernel_rfl) (fun c _ w h => hQP c _ _ _ w h) (Or.inl ⟨by rfl, ?_⟩) hS ?_
  · rintro w -
    unfold rq55
    go_simp
  simp only [rq55d, Act.put, List.setIfInBounds_toArray, List.set_cons_zero, List.set_cons_succ]
  refine wpAnyH_take (i := 56) (oi := rq56) (v := .bool true) rfl (by kernel_rfl) (by kernel_rfl) (by kernel_rfl) (fun c _ w h => hQP c _ _ _ w h) (Or.inl ⟨by rfl, ?_⟩) hS ?_
  · rintro w -
    unfold rq56
    go_simp
  simp only [rq56d, Act.put, List.setIfInBounds_toArray, List.set_cons_zero, List.set_cons_succ]
  refine wpAnyH_take (i := 57) (oi := rq57) (v := undef) rfl (by kernel_rfl) (by kernel_rfl) (by kernel_rfl) (fun c _ w h => hQP c _ _ _ w h) (Or.inr ⟨by rfl, rfl⟩) hS ?_
  simp only [rq57d, Act.put, List.setIfInBounds_toArray, List.set_cons_zero, List.set_cons_succ]
  refine wpAnyH_take (i := 58) (oi := rq58) (v := undef) rfl (by kernel_rfl) (by kernel_rfl) (by kernel_rfl) (fun c _ w h => hQP c _ _ _ w h) (Or.inr ⟨by rfl, rfl⟩) hS ?_
  simp only [rq58d, Act.put, List.setIfInBounds_toArray, List.set_cons_zero, List.set_cons_succ]
  refine wpAnyH_take (i := 59) (oi := rq59) (v := undef) rfl (by kernel_rfl) (by kernel_rfl) (by kernel_rfl) (fun c _ w h => hQP c _ _ _ w h) (Or.inr ⟨by rfl, rfl⟩) hS ?_
  simp only [rq59d, Act.put, List.setIfInBounds_toArray, List.set_cons_zero, List.set_cons_succ]
  refine wpAnyH_take (i := 60) (oi := rq60) (v := .bool true) rfl (by kernel_rfl) (by kernel_rfl) (by kernel_rfl) (fun c _ w h => hQP c _ _ _ w h) (Or.inl ⟨by rfl, ?_⟩) hS ?_
  · rintro w -
    unfold rq60
    go_simp
  simp only [rq60d, Act.put, List.setIfInBounds_toArray, List.set_cons_zero, List.set_cons_succ]
  refine wpAnyH_take (i := 61) (oi := rq61) (v := .bool true) rfl (by kernel_rfl) (by kernel_rfl) (by kernel_rfl) (fun c _ w h => hQP c _ _ _ w h) (Or.inl ⟨by rfl, ?_⟩) hS ?_
  · rintro w -
    unfold rq61
    go_simp
  simp only [rq61d, Act.put, List.setIfInBounds_toArray, List.set_cons_zero, List.set_cons_succ]
  refine wpAnyH_take (i := 62) (oi := rq62) (v := undef) rfl (by kernel_rfl) (by kernel_rfl) (by kernel_rfl) (fun c _ w h => hQP c _ _ _ w h) (Or.inr ⟨by rfl, rfl⟩) hS ?_
  simp only [rq62d, Act.put, List.setIfInBounds_toArray, List.set_cons_zero, List.set_cons_succ]
  refine wpAnyH_take (i := 63) (oi := rq63) (v := undef) rfl (by kernel_rfl) (by kernel_rfl) (by kernel_rfl) (fun c _ w h => hQP c _ _ _ w h) (Or.inr ⟨by rfl, rfl⟩) hS ?_
  simp only [rq63d, Act.put, List.setIfInBounds_toArray, List.set_cons_zero, List.set_cons_succ]
  refine wpAnyH_take (i := 64) (oi := rq64) (v := undef) rfl (by kernel_rfl) (by kernel_rfl) (by kernel_rfl) (fun c _ w h => hQP c _ _ _ w h) (Or.inr ⟨by rfl, rfl⟩) hS ?_
  simp only [rq64d, Act.put, List.setIfInBounds_toArray, List.set_cons_zero, List.set_cons_succ]
  refine wpAnyH_take (i := 65) (oi := rq65) (v := undef) rfl (by kernel_rfl) (by kernel_rfl) (by kernel_rfl) (fun c _ w h => hQP c _ _ _ w h) (Or.inr ⟨by rfl, rfl⟩) hS ?_
  simp only [rq65d, Act.put, List.setIfInBounds_toArray, List.set_cons_zero, List.set_cons_succ]
  refine wpAnyH_take (i := 66) (oi := rq66) (v := undef) rfl (by kernel_rfl) (by kernel_rfl) (by kernel_rfl) (fun c _ w h => hQP c _ _ _ w h) (Or.inr ⟨by rfl, rfl⟩) hS ?_
  simp only [rq66d, Act.put, List.setIfInBounds_toArray, List.set_cons_zero, List.set_cons_succ]
  refine wpAnyH_take (i := 67) (oi := rq67) (v := undef) rfl (by kernel_rfl) (by kernel_rfl) (by kernel_rfl) (fun c _ w h => hQP c _ _ _ w h) (Or.inr ⟨by rfl, rfl⟩) hS ?_
  simp only [rq67d, Act.put, List.setIfInBounds_toArray, List.set_cons_zero, List.set_cons_succ]
  refine wpAnyH_take (i := 68) (oi := rq68) (v := undef) rfl (by kernel_rfl) (by kernel_rfl) (by kernel_rfl) (fun c _ w h => hQP c _ _ _ w h) (Or.inr ⟨by rfl, rfl⟩) hS ?_
  simp only [rq68d, Act.put, List.setIfInBounds_toArray, List.set_cons_zero, List.set_cons_succ]
  refine wpAnyH_take (i := 69) (oi := rq69) (v := undef) rfl (by kernel_rfl) (by kernel_rfl) (by kernel_rfl) (fun c _ w h => hQP c _ _ _ w h) (Or.inr ⟨by rfl, rfl⟩) hS ?_
  simp only [rq69d, Act.put, List.setIfInBounds_toArray, List.set_cons_zero, List.set_cons_succ]
  refine wpAnyH_take (i := 70) (oi := rq70) (v := undef) rfl (by kernel_rfl) (by kernel_rfl) (by kernel_rfl) (fun c _ w h => hQP c _ _ _ w h) (Or.inr ⟨by rfl, rfl⟩) hS ?_
  simp only [rq70d, Act.put, List.setIfInBounds_toArray, List.set_cons_zero, List.set_cons_succ]
  refine wpAnyH_take (i := 71) (oi := rq71) (v := .bool true) rfl (by kernel_rfl) (by kernel_rfl) (by kernel_rfl) (fun c _ w h => hQP c _ _ _ w h) (Or.inl ⟨by rfl, ?_⟩) hS ?_
  · rintro w -
    unfold rq71
    go_simp
  simp only [rq71d, Act.put, List.setIfInBounds_toArray, List.set_cons_zero, List.set_cons_succ]
  exact wpAnyH_done (by kernel_rfl) (hQ _ _ _ _ _ _ _ _ _ _ _ _ _ _ _ _ _ _ _ _ _ _ _ _ _ _ _ _ _ _ _ _ _ _ _ _ _ _ _ _ _ _ _ _ _ _ _ _ _ _ _ _ _ _ _ _ _ _ _ _ _ _ _ _ _ _ _ _ _ _ _) _
end Go.Proofs.YtijeiiiiplkfaaaDoor
namespace Go.Proofs.YtijeiiiiplkfaaaDoor
open Go.RowKit
theorem below_drew' {B : Nat} {w w' : World} (h : Below B w w') : Below B w w'.drew := ⟨h.os, h.tape, h.output, h.size, h.block⟩
theorem StBox.keep {W W' : World} {b : Nat} {s : St} (h : StBox W b s) (hb : Below W.heap.size W W') : StBox W' b s := (hb.block b h.lt).trans h
theorem four_keep {W W' : World} {b : Nat} {c0 c1 c2 c3 : Bool} (h : W.heap[b]? = some (.cells #[.bool c0, .bool c1, .bool c2, .bool c3] 4 (0, 0))) (hb : Below W.heap.size W W') : W'.heap[b]? = some (.cells #[.bool c0, .bool c1, .bool c2, .bool c3] 4 (0, 0)) :=
  (hb.block b (Array.getElem?_eq_some_iff.1 h).1).trans h
theorem four_cells {W : World} {b : Nat} {c0 c1 c2 c3 : Bool} (h : W.heap[b]? = some (.cells #[.bool c0, .bool c1, .bool c2, .bool c3] 4 (0, 0))) : W.cell? ⟨b, 0, none⟩ = some (.bool c0) ∧ W.cell? ⟨b, 1, none⟩ = some (.bool c1) ∧ W.cell? ⟨b, 2, none⟩ = some (.bool c2) ∧ W.cell? ⟨b, 3, none⟩ = some (.bool c3) :=
  ⟨cell_of' h 0, cell_of' h 1, cell_of' h 2, cell_of' h 3⟩
set_option maxRecDepth 100000 in
set_option maxHeartbeats 16000000 in
theorem isStmts_step (n₀ : Nat) (ad : Option Addr) (cap : Nat) (body : List St)
    (ih : ∀ s ∈ body, ∀ b ∈ s.blocks, ∀ w : World, n₀ ≤ w.heap.size → b.Is n₀ w → Calls Tryd.prog 52 #[b.slice] w fun r w' => r = .returned (.bool b.ok) ∧ Below w.heap.size w w')
    (w : World) (hn : n₀ ≤ w.heap.size) (hI : (Bl.mk ad cap body).Is n₀ w) : Calls Tryd.prog 52 #[.slice ad body.length cap] w fun r w' => r = .returned (.bool (Bl.mk ad cap body).ok) ∧ Below w.heap.size w w' := by
  have HR := hid (Bl.ok_mk ad cap body)
  have hd := hI.down
  have hl1 := hd.1.1; have hl2 := hd.1.2.1
  unfold maxLen at hl2
  go_enter Tryd.func52, Tryd.ntmps52
  go_wp2
  go_loopw [3] (fun i wr => ∃ j : Nat, j ≤ body.length ∧ i = .int .i64 j ∧ Hid ((body.take j).all (fun s => s.subs.all St.ok1) = true) ∧ Below w.heap.size w wr)
    (fun i _ => body.length - (intOf i).toNat)
  case atStart => exact ⟨0, by omega, rfl, rfl, Below.refl _ _⟩
  case round =>
    obtain ⟨wo, hwo⟩ : ∃ wo : World, wo = wr := ⟨_, rfl⟩
    subst hwo
    obtain ⟨j, hj, rfl, HA, hbw⟩ := hrel
    have hz := hbw.size
    by_cases hlt : j < body.length
    · rcases hd.1.2.2 with h | ⟨b, off, rfl, hbn, hrow⟩
      · subst h; simp at hlt
      have hb0 := hbw.mono hn
      have hbn2 : b < wo.heap.size := by omega
      have hr := hrow.below hb0 hbn
      have hIj := (hd.2 _ (List.getElem_mem hlt)).below hb0
      have hih := ih _ (List.getElem_mem hlt)
      have HX : Hid (body[j].subs.all St.ok1 = false → (Bl.mk (some ⟨b, off, none⟩) cap body).ok = false) := fun h => by
        rw [HR.out]; exact allL_cut (fun s : St => s.subs.all St.ok1) body j hlt h
      have HY : Hid (body[j].subs.all St.ok1 = true → (body.take (j + 1)).all (fun s => s.subs.all St.ok1) = true) := fun h => by
        rw [allL_snoc (fun s : St => s.subs.all St.ok1) body j hlt, HA.out, Bool.true_and]; exact h
      clear ih
      rcases he' : body[j] with ⟨kind, mon, name, n, e, ad', cap', blocks, pos⟩
      rcases hee : e with ⟨eop, emon, ename, en, ead, ecap, ekids, epos⟩
      obtain ⟨c0, c1, c2, c3, c4, c5, c6, c7, c8, c9, c10, c11⟩ := row12 hr j hlt (by rw [he', hee]; rfl)
      rw [he'] at hIj hih HX HY
      have hIs := hIj.down
      have hsm := hIs.1.2.2.2.1; have hsn := hIs.1.2.2.2.2
      unfold Len at hsm hsn
      have hlb1 := hIs.2.2.1.1; have hlb2 := hIs.2.2.1.2.1
      unfold maxLen at hlb2
      clear he' hIj
      have hih : ∀ b ∈ blocks, ∀ w : World, n₀ ≤ w.heap.size → b.Is n₀ w → Calls Tryd.prog 52 #[b.slice] w fun r w' => r = .returned (.bool b.ok) ∧ Below w.heap.size w w' := hih
      by_cases hkr : 1 ≤ kind ∧ kind ≤ 11
      · obtain ⟨k, rfl⟩ : ∃ k : Nat, kind = (k : Int) := ⟨kind.toNat, by omega⟩
        have hk1 : 1 ≤ k := by omega
        have hk2 : k ≤ 11 := by omega
        have HD := hid (stok_doc k mon name n e ad' cap' blocks pos hk1 hk2)
        have HO := hid (St.sok_mk (k : Int) mon name n e ad' cap' blocks pos)
        have hform := fun W => form_yes k W hk1 hk2
        obtain ⟨fm, hfm⟩ : ∃ fm, stMon k = fm := ⟨_, rfl⟩
        obtain ⟨fn, hfn⟩ : ∃ fn, stName k = fn := ⟨_, rfl⟩
        obtain ⟨fu, hfu⟩ : ∃ fu, stNumber k = fu := ⟨_, rfl⟩
        obtain ⟨fe, hfe⟩ : ∃ fe, stExpr k = fe := ⟨_, rfl⟩
        obtain ⟨ll, hll⟩ : ∃ ll, stLeast k = ll := ⟨_, rfl⟩
        obtain ⟨mm, hmm⟩ : ∃ mm, stMost k = mm := ⟨_, rfl⟩
        rw [hfm, hfn, hfu, hfe, hll, hmm] at HD
        simp only [hfm, hfn, hfu, hfe, hll, hmm] at hform
        clear hfm hfn hfu hfe hll hmm hkr
        go_upto_region 6 with (go_at_call 69; refine (hform _).mono ?_; rintro r w' ⟨rfl, hw'⟩; subst hw')
        have hBx : StBox ((wo.alloc (.cells #[.int .i64 (k : Int), .string mon, .string name, .int .i64 n, .int .i64 eop, .string emon, .string ename, .int .i64 en, .slice ead ekids.length ecap, .int .i64 epos, .slice ad' blocks.length cap', .int .i64 pos] 56)).alloc (.cells #[.bool fm, .bool fn, .bool fu, .bool fe] 4)) wo.heap.size (St.mk (k : Int) mon name n (.mk eop emon ename en ead ecap ekids epos) ad' cap' blocks pos) :=
          StBox.keep (StBox.new wo (St.mk (k : Int) mon name n (.mk eop emon ename en ead ecap ekids epos) ad' cap' blocks pos)) ((Below.refl _ _).al le_rfl' _)
        have hFx : ((wo.alloc (.cells #[.int .i64 (k : Int), .string mon, .string name, .int .i64 n, .int .i64 eop, .string emon, .string ename, .int .i64 en, .slice ead ekids.length ecap, .int .i64 epos, .slice ad' blocks.length cap', .int .i64 pos] 56)).alloc (.cells #[.bool fm, .bool fn, .bool fu, .bool fe] 4)).heap[wo.heap.size + 1]? = some (.cells #[.bool fm, .bool fn, .bool fu, .bool fe] 4 (0, 0)) := heapAt _ (by simp)
        have hB2 := (hbw.al le_rfl' (.cells #[.int .i64 (k : Int), .string mon, .string name, .int .i64 n, .int .i64 eop, .string emon, .string ename, .int .i64 en, .slice ead ekids.length ecap, .int .i64 epos, .slice ad' blocks.length cap', .int .i64 pos] 56)).al le_rfl' (.cells #[.bool fm, .bool fn, .bool fu, .bool fe] 4)
        have hBn := ((Below.refl wo.heap.size wo).al le_rfl' (.cells #[.int .i64 (k : Int), .string mon, .string name, .int .i64 n, .int .i64 eop, .string emon, .string ename, .int .i64 en, .slice ead ekids.length ecap, .int .i64 epos, .slice ad' blocks.length cap', .int .i64 pos] 56)).al le_rfl' (.cells #[.bool fm, .bool fn, .bool fu, .bool fe] 4)
        obtain ⟨W2, hW2⟩ : ∃ W2, (wo.alloc (.cells #[.int .i64 (k : Int), .string mon, .string name, .int .i64 n, .int .i64 eop, .string emon, .string ename, .int .i64 en, .slice ead ekids.length ecap, .int .i64 epos, .slice ad' blocks.length cap', .int .i64 pos] 56)).alloc (.cells #[.bool fm, .bool fn, .bool fu, .bool fe] 4) = W2 := ⟨_, rfl⟩
        rw [hW2] at hBx hFx hB2 hBn ⊢
        clear hW2 c0 c1 c2 c3 c4 c5 c6 c7 c8 c9 c10 c11 hform
        have hz2 := hBn.size
        obtain ⟨⟨b0, b1, b2, b3⟩, -, b10, -⟩ := hBx.cells
        obtain ⟨f0, f1, f2, f3⟩ := four_cells hFx
        refine reg6 _ _ _ _ _ _ _ _ _ _ _ _ _ _ _ _ _ _ _ _ _ _ _ _ _ _ _ _ _ _ _ _ _ _ _ _ _ _ _ _ _ _ _ _ _ _ _ _ _ _ _ _ _ _ _ _ _ _ _ _ _ _ _ _ _ _ _ _ _ _ _ _ _ _ _ _ _ _ _ _ _ _ _ _ _ _ _ _ _ _ _ _ _ _ _ _ _ _ _ _ _ _ _ _ _ _ _ _ _ _ _ _ _ _ _ _ _ _ _ _ _ _ _ _ _ _ _ _ _ _ wo.heap.size (wo.heap.size + 1) ll mm blocks.length cap' ad' mon name n fm fn fu W2 hsm hsn ⟨b1, b2, b3, b10, f0, f1, f2⟩ (fun _ _ d _ _ h => by cases d <;> exact h) ?_
        intro v28 v29 v30 v31 v32 v33 v34 v35 v36 v37 v38 v39 v40 v41 v42 v43 v44 v45 v46 v47 v48 v49 v50 v51 v52 v53 v54 v55 v56 v57 v58 v59 v60 v61 v62 v63 v64 v65 v66 v67 v68 v69 v70 v71 v72 v73 v74 v75 v76 v77 v78 v79 v80 v81 v82 v83 v84 v85 v86 v87 v88 v89 v90 v91 v92 v93 v94 v95 v96 v97 v98 T W3 hT B3
        have HP : Hid ((St.mk (k : Int) mon name n e ad' cap' blocks pos).ok1 = (!T && !(fe && !e.ok || !fe && !e.none))) := by
          show _ = _
          rw [HD.out, ← hT]
          simp only [Bool.not_or, Bool.and_assoc]
        clear hT HD b0 b1 b2 b3 b10 f0 f1 f2 f3
        have hE := (hIs.2.1.below (hBn.mono (by omega) : Below n₀ wo W2)).below (B3.mono (by omega))
        have hz3 := B3.size
        have h14 := refIsExpr_any n₀ e W3 (by omega) hE
        have h60 := empty_any n₀ e W3 hE
        obtain ⟨eo, heo⟩ : ∃ eo, e.ok = eo := ⟨_, rfl⟩
        obtain ⟨ez, hez⟩ : ∃ ez, e.none = ez := ⟨_, rfl⟩
        rw [heo] at HP h14
        rw [hez] at HP h60
        clear heo hez hE
        rw [hee] at HP HO h14 h60 HX HY
        simp only [Ex.val, Ex.cells] at h14 h60
        obtain ⟨-, ⟨g0, g1, g2, g3, g4, g5⟩, b10, -⟩ := (hBx.keep B3).cells
        obtain ⟨-, -, -, f3⟩ := four_cells (four_keep hFx B3)
        have HX := HX.out
        cases T
        · cases fe
          · cases ez
            · go_wp2_with (go_at_call 71; refine h60.mono ?_; rintro r w4 ⟨rfl, bb4⟩)
              go_ret
              exact ⟨ret_bool (HX (by rw [HO.out, HP.out]; rfl)).symm, hB2.tr le_rfl' (B3.tr le_rfl' bb4)⟩
            · go_wp2_with (go_at_call 71; refine h60.mono ?_; rintro r w4 ⟨rfl, bb4⟩)
              have BE := B3.tr le_rfl' bb4
              go_loopw [9] (fun i wr => ∃ m : Nat, m ≤ blocks.length ∧ i = .int .i64 m ∧ Hid ((blocks.take m).all Bl.ok = true) ∧ Below W2.heap.size W2 wr)
                (fun i _ => blocks.length - (intOf i).toNat)
              case atStart => exact ⟨0, by omega, rfl, rfl, BE⟩
              case round =>
                obtain ⟨m, hm, rfl, HM, hbm⟩ := hrel
                obtain ⟨-, -, b10, -⟩ := (hBx.keep hbm).cells
                have hzm := hbm.size
                by_cases hlt2 : m < blocks.length
                · rcases hIs.2.2.1.2.2 with h | ⟨b3, off3, rfl, hbn3, hrow3⟩
                  · subst h; simp at hlt2
                  have hB3 : Below n₀ wo wr := (hBn.mono (by omega)).trans (hbm.mono (by omega))
                  have hr3 := hrow3.below hB3 hbn3
                  have hb3l : b3 < wr.heap.size := by omega
                  have hq := hih blocks[m] (by exact List.getElem_mem hlt2) wr (by omega) ((hIs.2.2.2 _ (List.getElem_mem hlt2)).below hB3)
                  have HS2 := hid (allL_snoc Bl.ok blocks m hlt2)
                  have HC2 := hid (fun h => allL_cut Bl.ok blocks m hlt2 h)
                  obtain ⟨okb, hokb⟩ : ∃ okb, blocks[m].ok = okb := ⟨_, rfl⟩
                  rw [hokb] at hq HS2
                  have HB2 := hid hokb
                  clear hokb
                  rcases he2 : blocks[m] with ⟨bad, bcap, bbody⟩
                  have d0 := row1 hr3 m hlt2 (by rw [he2]; rfl)
                  simp only [he2, Bl.slice] at hq d0
                  clear he2
                  cases okb
                  · go_wp2_with (go_at_call 52; refine hq.mono ?_; rintro r w5 ⟨rfl, bb5⟩)
                    go_ret
                    exact ⟨ret_bool (HX (by rw [HO.out, HC2.out HB2.out, Bool.and_false])).symm, hB2.tr le_rfl' (hbm.tr le_rfl' bb5)⟩
                  · go_wp2_with (go_at_call 52; refine hq.mono ?_; rintro r w5 ⟨rfl, bb5⟩)
                    go_roundw
                    case rel => exact ⟨m + 1, by omega, by go_num, by show _ = _; rw [HS2.out, HM.out]; rfl, hbm.tr le_rfl' bb5⟩
                    case measure => simp [intOf]; omega
                · have hmb : m = blocks.length := by omega
                  have hmd : decide ((m : Int) < (blocks.length : Int)) = false := by simp; omega
                  go_wp2
                  go_roundw
                  case rel =>
                    refine ⟨j + 1, by omega, by go_num, HY.out ?_, hB2.tr le_rfl' hbm⟩
                    have h1 := HM.out
                    rw [hmb, List.take_length] at h1
                    rw [HO.out, h1, Bool.and_true, HP.out]
                    rfl
                  case measure => simp [intOf]; omega
          · cases eo
            · go_wp2_with (go_at_call 70; refine h14.mono ?_; rintro r w4 ⟨rfl, bb4⟩)
              go_ret
              exact ⟨ret_bool (HX (by rw [HO.out, HP.out]; rfl)).symm, hB2.tr le_rfl' (B3.tr le_rfl' bb4)⟩
            · go_wp2_with (go_at_call 70; refine h14.mono ?_; rintro r w4 ⟨rfl, bb4⟩; have BE := B3.tr le_rfl' bb4; obtain ⟨-, -, -, f3⟩ := four_cells (four_keep hFx BE))
              go_loopw [9] (fun i wr => ∃ m : Nat, m ≤ blocks.length ∧ i = .int .i64 m ∧ Hid ((blocks.take m).all Bl.ok = true) ∧ Below W2.heap.size W2 wr)
                (fun i _ => blocks.length - (intOf i).toNat)
              case atStart => exact ⟨0, by omega, rfl, rfl, BE⟩
              case round =>
                obtain ⟨m, hm, rfl, HM, hbm⟩ := hrel
                obtain ⟨-, -, b10, -⟩ := (hBx.keep hbm).cells
                have hzm := hbm.size
                by_cases hlt2 : m < blocks.length
                · rcases hIs.2.2.1.2.2 with h | ⟨b3, off3, rfl, hbn3, hrow3⟩
                  · subst h; simp at hlt2
                  have hB3 : Below n₀ wo wr := (hBn.mono (by omega)).trans (hbm.mono (by omega))
                  have hr3 := hrow3.below hB3 hbn3
                  have hb3l : b3 < wr.heap.size := by omega
                  have hq := hih blocks[m] (by exact List.getElem_mem hlt2) wr (by omega) ((hIs.2.2.2 _ (List.getElem_mem hlt2)).below hB3)
                  have HS2 := hid (allL_snoc Bl.ok blocks m hlt2)
                  have HC2 := hid (fun h => allL_cut Bl.ok blocks m hlt2 h)
                  obtain ⟨okb, hokb⟩ : ∃ okb, blocks[m].ok = okb := ⟨_, rfl⟩
                  rw [hokb] at hq HS2
                  have HB2 := hid hokb
                  clear hokb
                  rcases he2 : blocks[m] with ⟨bad, bcap, bbody⟩
                  have d0 := row1 hr3 m hlt2 (by rw [he2]; rfl)
                  simp only [he2, Bl.slice] at hq d0
                  clear he2
                  cases okb
                  · go_wp2_with (go_at_call 52; refine hq.mono ?_; rintro r w5 ⟨rfl, bb5⟩)
                    go_ret
                    exact ⟨ret_bool (HX (by rw [HO.out, HC2.out HB2.out, Bool.and_false])).symm, hB2.tr le_rfl' (hbm.tr le_rfl' bb5)⟩
                  · go_wp2_with (go_at_call 52; refine hq.mono ?_; rintro r w5 ⟨rfl, bb5⟩)
                    go_roundw
                    case rel => exact ⟨m + 1, by omega, by go_num, by show _ = _; rw [HS2.out, HM.out]; rfl, hbm.tr le_rfl' bb5⟩
                    case measure => simp [intOf]; omega
                · have hmb : m = blocks.length := by omega
                  have hmd : decide ((m : Int) < (blocks.length : Int)) = false := by simp; omega
                  go_wp2
                  go_roundw
                  case rel =>
                    refine ⟨j + 1, by omega, by go_num, HY.out ?_, hB2.tr le_rfl' hbm⟩
                    have h1 := HM.out
                    rw [hmb, List.take_length] at h1
                    rw [HO.out, h1, Bool.and_true, HP.out]
                    rfl
                  case measure => simp [intOf]; omega
        · go_wp2
          go_ret
          exact ⟨ret_bool (HX (by rw [HO.out, HP.out]; rfl)).symm, hB2.tr le_rfl' B3⟩
      · have HN := hid (stok_no kind mon name n e ad' cap' blocks pos hkr)
        have HO := hid (St.sok_mk kind mon name n e ad' cap' blocks pos)
        have hform := fun W => form_no kind W hkr
        go_upto_region 6 with (go_at_call 69; refine (hform _).mono ?_; rintro r w' ⟨rfl, hw'⟩; subst hw')
        refine reg6n _ _ _ _ _ _ _ _ _ _ _ _ _ _ _ _ _ _ _ _ _ _ _ _ _ _ _ _ _ _ _ _ _ _ _ _ _ _ _ _ _ _ _ _ _ _ _ _ _ _ _ _ _ _ _ _ _ _ _ _ _ _ _ _ _ _ _ _ _ _ _ _ _ _ _ _ _ _ _ _ _ _ _ _ _ _ _ _ _ _ _ _ _ _ _ _ _ _ _ _ _ _ _ _ _ _ _ _ _ _ _ _ _ _ _ _ _ _ _ _ _ _ _ _ _ _ _ _ _ _ _ _ _ _ _ (fun _ _ d _ _ h => by cases d <;> exact h) ?_
        intro v28 v29 v30 v31 v32 v33 v34 v35 v36 v37 v38 v39 v40 v41 v42 v43 v44 v45 v46 v47 v48 v49 v50 v51 v52 v53 v54 v55 v56 v57 v58 v59 v60 v61 v62 v63 v64 v65 v66 v67 v68 v69 v70 v71 v72 v73 v74 v75 v76 v77 v78 v79 v80 v81 v82 v83 v84 v85 v86 v87 v88 v89 v90 v91 v92 v93 v94 v95 v96 v97 v98
        go_wp2
        go_ret
        exact ⟨ret_bool (HX.out (by rw [HO.out, HN.out]; rfl)).symm, below_drew' (hbw.al le_rfl' _)⟩
    · have hjd : decide ((j : Int) < (body.length : Int)) = false := by simp; omega
      go_wp2
      go_ret
      refine ⟨ret_bool ?_, hbw⟩
      have h1 := HA.out
      rw [List.take_of_length_le (by omega)] at h1
      rw [HR.out, h1]
theorem refIsStmts_any (n₀ : Nat) (b : Bl) : ∀ w : World, n₀ ≤ w.heap.size → b.Is n₀ w → Calls Tryd.prog 52 #[b.slice] w fun r w' => r = .returned (.bool b.ok) ∧ Below w.heap.size w w' :=
  Bl.ind (P := fun s => ∀ b ∈ s.blocks, ∀ w : World, n₀ ≤ w.heap.size → b.Is n₀ w → Calls Tryd.prog 52 #[b.slice] w fun r w' => r = .returned (.bool b.ok) ∧ Below w.heap.size w w')
    (Q := fun b => ∀ w : World, n₀ ≤ w.heap.size → b.Is n₀ w → Calls Tryd.prog 52 #[b.slice] w fun r w' => r = .returned (.bool b.ok) ∧ Below w.heap.size w w')
    (fun _ _ _ _ _ _ _ _ _ ih b hb => ih b hb) (fun ad cap body ih w h1 h2 => isStmts_step n₀ ad cap body ih w h1 h2) b
end Go.Proofs.YtijeiiiiplkfaaaDoor
namespace Go.Proofs.YtijeiiiiplkfaaaDoor
open Go.RowKit
def Me.okd (x : Me) : Bool := Lx.name x.name && x.body.ok
def Mo.okd (m : Mo) : Bool := Lx.name m.name && decide (m.vars.length ≤ 16) && decide (m.meths.length ≤ 16) && m.vars.all Va.ok && m.meths.all Me.okd
def Ro.okd (r : Ro) : Bool := Lx.name r.name && !decide (r.count < 0) && !(r.star && (r.count != 0)) && r.body.ok
theorem all_and {α : Type} (f g : α → Bool) (l : List α) : (l.all f && l.all g) = l.all fun x => f x && g x := by
  induction l with
  | nil => rfl
  | cons a r ih => simp only [List.all_cons, ← ih]; cases f a <;> cases g a <;> simp
theorem pr_ok (p : Pr) : p.ok = (decide (p.mons.length ≤ 8) && decide (p.roles.length ≤ 8) && p.mons.all Mo.okd && p.roles.all Ro.okd) := by
  have h1 : ∀ m : Mo, (m.ok && (m.meths.flatMap fun x => x.body.subs).all St.ok1) = m.okd := fun m => by
    have h : (m.meths.all (fun x => Lx.name x.name) && (m.meths.flatMap fun x => x.body.subs).all St.ok1) = m.meths.all Me.okd := by
      rw [List.all_flatMap, all_and]; rfl
    rw [Mo.ok, Mo.okd, ← h]
    simp only [Bool.and_assoc]
  have h2 : ∀ r : Ro, (r.ok && r.body.subs.all St.ok1) = r.okd := fun r => by
    rw [Ro.ok, Ro.okd, fitsNum_doc, Bool.not_not]
    simp only [Bool.and_assoc]
    rfl
  have e1 : (p.mons.all Mo.ok && p.mons.all fun m => (m.meths.flatMap fun x => x.body.subs).all St.ok1) = p.mons.all Mo.okd := by
    rw [all_and]; congr 1; funext m; exact h1 m
  have e2 : (p.roles.all Ro.ok && p.roles.all fun r => r.body.subs.all St.ok1) = p.roles.all Ro.okd := by
    rw [all_and]; congr 1; funext r; exact h2 r
  rw [Pr.ok, Pr.decl, Pr.stmts, List.all_append, List.all_flatMap, List.all_flatMap, ← e1, ← e2]
  simp only [Bool.and_assoc, Bool.and_left_comm]
theorem four4 {W : World} {b : Nat} {c0 c1 c2 c3 : Value} {t : TypeId} {z : Nat × Nat} (h : W.heap[b]? = some (.cells #[c0, c1, c2, c3] t z)) : W.cell? ⟨b, 0, none⟩ = some c0 ∧ W.cell? ⟨b, 1, none⟩ = some c1 ∧ W.cell? ⟨b, 2, none⟩ = some c2 ∧ W.cell? ⟨b, 3, none⟩ = some c3 :=
  ⟨cell_of' h 0, cell_of' h 1, cell_of' h 2, cell_of' h 3⟩
theorem five5 {W : World} {b : Nat} {c0 c1 c2 c3 c4 : Value} {t : TypeId} {z : Nat × Nat} (h : W.heap[b]? = some (.cells #[c0, c1, c2, c3, c4] t z)) : W.cell? ⟨b, 0, none⟩ = some c0 ∧ W.cell? ⟨b, 1, none⟩ = some c1 ∧ W.cell? ⟨b, 2, none⟩ = some c2 ∧ W.cell? ⟨b, 3, none⟩ = some c3 ∧ W.cell? ⟨b, 4, none⟩ = some c4 :=
  ⟨cell_of' h 0, cell_of' h 1, cell_of' h 2, cell_of' h 3, cell_of' h 4⟩
set_option maxRecDepth 100000 in
set_option maxHeartbeats 16000000 in
theorem refIs_any (n₀ : Nat) (p : Pr) (w : World) (hn : n₀ ≤ w.heap.size) (hp : p.Is n₀ w) :
    Calls Tryd.prog 31 #[p.val] w fun r w' => r = .returned (.bool p.ok) ∧ Below w.heap.size w w' := by
  have HR0 := hid (pr_ok p)
  obtain ⟨res, hres⟩ : ∃ res, p.ok = res := ⟨_, rfl⟩
  rw [hres] at HR0 ⊢
  clear hres
  rcases p with ⟨mad, mcap, mons, rad, rcap, roles⟩
  obtain ⟨⟨hM1, hM2⟩, hR1, hR2⟩ := hp
  simp only at hM1 hM2 hR1 hR2
  have HR : Hid (res = (decide (mons.length ≤ 8) && decide (roles.length ≤ 8) && mons.all Mo.okd && roles.all Ro.okd)) := HR0
  clear HR0
  have hl1 := hM1.1; have hl2 := hM1.2.1; have hl3 := hR1.1; have hl4 := hR1.2.1
  unfold maxLen at hl2 hl4
  simp only [Pr.val]
  by_cases x1 : 8 < mons.length
  · have x1' : (8 : Int) < (mons.length : Int) := by omega
    have HF : Hid (res = false) := by
      show _ = _
      rw [HR.out, decide_eq_false (by omega), Bool.false_and, Bool.false_and, Bool.false_and]
    go_enter Tryd.func31, Tryd.ntmps31
    go_wp2
    go_ret
    exact ⟨ret_bool HF.out.symm, (Below.refl _ _).al le_rfl' _⟩
  by_cases x2 : 8 < roles.length
  · have x1' : decide ((8 : Int) < (mons.length : Int)) = false := by simp; omega
    have x2' : (8 : Int) < (roles.length : Int) := by omega
    have HF : Hid (res = false) := by
      show _ = _
      rw [HR.out, decide_eq_false (show ¬ roles.length ≤ 8 by omega), Bool.and_false, Bool.false_and, Bool.false_and]
    go_enter Tryd.func31, Tryd.ntmps31
    go_wp2
    go_ret
    exact ⟨ret_bool HF.out.symm, (Below.refl _ _).al le_rfl' _⟩
  have x1' : decide ((8 : Int) < (mons.length : Int)) = false := by simp; omega
  have x2' : decide ((8 : Int) < (roles.length : Int)) = false := by simp; omega
  have HR : Hid (res = (mons.all Mo.okd && roles.all Ro.okd)) := by
    show _ = _
    rw [HR.out, decide_eq_true (by omega), decide_eq_true (by omega), Bool.true_and, Bool.true_and]
  go_enter Tryd.func31, Tryd.ntmps31
  go_wp2
  go_loopw [3] (fun i wr => ∃ j : Nat, j ≤ mons.length ∧ i = .int .i64 j ∧ Hid ((mons.take j).all Mo.okd = true) ∧ Below (w.heap.size + 1) (w.alloc (.cells #[.slice mad mons.length mcap, .slice rad roles.length rcap] 25)) wr)
    (fun i _ => mons.length - (intOf i).toNat)
  case atStart => exact ⟨0, by omega, rfl, rfl, Below.refl _ _⟩
  case round =>
    obtain ⟨wo, hwo⟩ : ∃ wo : World, wo = wr := ⟨_, rfl⟩
    subst hwo
    obtain ⟨j, hj, rfl, HA, hbw⟩ := hrel
    have hz := hbw.size
    simp at hz
    have hbF : Below w.heap.size w wo := ((Below.refl _ w).al le_rfl' _).trans (hbw.mono (by omega))
    have hb0 : Below n₀ w wo := hbF.mono hn
    have p0 : wo.cell? ⟨w.heap.size, 0, none⟩ = some (.slice mad mons.length mcap) := (hbw.cell (p := ⟨w.heap.size, 0, none⟩) (by simp)).trans (cell_of' (World.alloc_heap_new w _) 0)
    have p1 : wo.cell? ⟨w.heap.size, 1, none⟩ = some (.slice rad roles.length rcap) := (hbw.cell (p := ⟨w.heap.size, 1, none⟩) (by simp)).trans (cell_of' (World.alloc_heap_new w _) 1)
    have lw : w.heap.size < wo.heap.size := by omega
    by_cases hlt : j < mons.length
    · rcases hM1.2.2 with h | ⟨b, off, rfl, hbn, hrow⟩
      · subst h; simp at hlt
      have hbn2 : b < wo.heap.size := by omega
      have hr := hrow.below hb0 hbn
      have hIj := (hM2 _ (List.getElem_mem hlt)).below hb0
      have HX : Hid (mons[j].okd = false → res = false) := fun h => by
        rw [HR.out, allL_cut Mo.okd mons j hlt h, Bool.false_and]
      have HY : Hid (mons[j].okd = true → (mons.take (j + 1)).all Mo.okd = true) := fun h => by
        rw [allL_snoc Mo.okd mons j hlt, HA.out, h]; rfl
      rcases he : mons[j] with ⟨mname, vad, vcap, vars, xad, xcap, meths, mpos⟩
      obtain ⟨c0, c1, c2, c3⟩ := row4 hr j hlt (by rw [he]; rfl)
      rw [he] at hIj HX HY
      clear he
      have HO : Hid (Mo.okd ⟨mname, vad, vcap, vars, xad, xcap, meths, mpos⟩ = (Lx.name mname && decide (vars.length ≤ 16) && decide (meths.length ≤ 16) && vars.all Va.ok && meths.all Me.okd)) := rfl
      obtain ⟨⟨hI1, hI2⟩, ⟨hI3, hI4⟩, hI5, hI6⟩ := hIj
      simp only at hI1 hI2 hI3 hI4 hI5 hI6
      have hv1 := hI3.1; have hv2 := hI3.2.1; have hm1 := hI5.1; have hm2 := hI5.2.1
      unfold maxLen at hv2 hm2
      unfold Len at hI1
      have hMB : (wo.alloc (.cells #[.string mname, .slice vad vars.length vcap, .slice xad meths.length xcap, .int .i64 mpos] 64)).heap[wo.heap.size]? = some (.cells #[.string mname, .slice vad vars.length vcap, .slice xad meths.length xcap, .int .i64 mpos] 64 (0, 0)) := World.alloc_heap_new wo _
      have hC := refName_any mname (wo.alloc (.cells #[.string mname, .slice vad vars.length vcap, .slice xad meths.length xcap, .int .i64 mpos] 64)) hI1
      cases hnm : Lx.name mname
      · rw [hnm] at hC
        go_wp2_with (go_at_call 50; refine hC.mono ?_; rintro r w1 ⟨rfl, bb1⟩)
        go_ret
        exact ⟨ret_bool (HX.out (by rw [HO.out, hnm]; rfl)).symm, (hbF.al le_rfl' _).tr le_rfl' bb1⟩
      rw [hnm] at hC
      by_cases y1 : 16 < vars.length
      · have y1' : (16 : Int) < (vars.length : Int) := by omega
        go_wp2_with (go_at_call 50; refine hC.mono ?_; rintro r w1 ⟨rfl, bb1⟩; obtain ⟨a0, a1, a2, a3⟩ := four4 ((bb1.block wo.heap.size (by simp)).trans hMB))
        go_ret
        exact ⟨ret_bool (HX.out (by rw [HO.out, hnm, decide_eq_false (by omega)]; rfl)).symm, (hbF.al le_rfl' _).tr le_rfl' bb1⟩
      have y1' : decide ((16 : Int) < (vars.length : Int)) = false := by simp; omega
      by_cases y2 : 16 < meths.length
      · have y2' : (16 : Int) < (meths.length : Int) := by omega
        go_wp2_with (go_at_call 50; refine hC.mono ?_; rintro r w1 ⟨rfl, bb1⟩; obtain ⟨a0, a1, a2, a3⟩ := four4 ((bb1.block wo.heap.size (by simp)).trans hMB))
        go_ret
        exact ⟨ret_bool (HX.out (by rw [HO.out, hnm, decide_eq_false (show ¬ meths.length ≤ 16 by omega)]; simp)).symm, (hbF.al le_rfl' _).tr le_rfl' bb1⟩
      have y2' : decide ((16 : Int) < (meths.length : Int)) = false := by simp; omega
      have HO : Hid (Mo.okd ⟨mname, vad, vcap, vars, xad, xcap, meths, mpos⟩ = (vars.all Va.ok && meths.all Me.okd)) := by
        show _ = _
        rw [HO.out, hnm, decide_eq_true (by omega), decide_eq_true (by omega)]; rfl
      go_wp2_with (go_at_call 50; refine hC.mono ?_; rintro r w1 ⟨rfl, bb1⟩; obtain ⟨a0, a1, a2, a3⟩ := four4 ((bb1.block wo.heap.size (by simp)).trans hMB))
      clear c0 c1 c2 c3 a0 a1 a2 a3 hC
      go_loopw [5] (fun i wr => ∃ k : Nat, k ≤ vars.length ∧ i = .int .i64 k ∧ Hid ((vars.take k).all Va.ok = true) ∧ Below (wo.heap.size + 1) (wo.alloc (.cells #[.string mname, .slice vad vars.length vcap, .slice xad meths.length xcap, .int .i64 mpos] 64)) wr)
        (fun i _ => vars.length - (intOf i).toNat)
      case atStart => exact ⟨0, by omega, rfl, rfl, bb1.mono (by simp)⟩
      case round =>
        obtain ⟨wv, hwv⟩ : ∃ wv : World, wv = wr := ⟨_, rfl⟩
        subst hwv
        obtain ⟨k, hk, rfl, HV, hbv⟩ := hrel
        have hzv := hbv.size
        simp at hzv
        have hbG : Below wo.heap.size wo wv := ((Below.refl _ wo).al le_rfl' _).trans (hbv.mono (by omega))
        have lv : wo.heap.size < wv.heap.size := by omega
        have hMv := (hbv.block wo.heap.size (by omega)).trans hMB
        obtain ⟨m0, m1, m2, m3⟩ := four4 hMv
        by_cases hltv : k < vars.length
        · rcases hI3.2.2 with h | ⟨b2, off2, rfl, hbn3, hrow2⟩
          · subst h; simp at hltv
          have hb2 : b2 < wv.heap.size := by omega
          have hr2 := hrow2.below (hbG.mono (by omega)) hbn3
          have HVS := hid (allL_snoc Va.ok vars k hltv)
          have HVC := hid (fun h => allL_cut Va.ok vars k hltv h)
          have hq := refIsVar_any vars[k] wv (hI4 _ (List.getElem_mem hltv))
          obtain ⟨vo, hvo⟩ : ∃ vo, vars[k].ok = vo := ⟨_, rfl⟩
          rw [hvo] at hq HVS
          have HVO := hid hvo
          clear hvo
          rcases he : vars[k] with ⟨vn, vt, vlo, vhi, vi, vp⟩
          obtain ⟨d0, d1, d2, d3, d4, d5⟩ := row6 hr2 k hltv (by rw [he]; rfl)
          simp only [he, Va.val, Va.cells] at hq
          clear he
          cases vo
          · go_wp2_with (go_at_call 51; refine hq.mono ?_; rintro r w2 ⟨rfl, bb2⟩)
            go_ret
            exact ⟨ret_bool (HX.out (by rw [HO.out, HVC.out HVO.out, Bool.false_and])).symm, hbF.tr le_rfl' (hbG.tr le_rfl' bb2)⟩
          · go_wp2_with (go_at_call 51; refine hq.mono ?_; rintro r w2 ⟨rfl, bb2⟩)
            go_roundw
            case rel => exact ⟨k + 1, by omega, by go_num, by show _ = _; rw [HVS.out, HV.out]; rfl, hbv.tr (by simp) bb2⟩
            case measure => simp [intOf]; omega
        · have hkd : decide ((k : Int) < (vars.length : Int)) = false := by simp; omega
          have HO : Hid (Mo.okd ⟨mname, vad, vcap, vars, xad, xcap, meths, mpos⟩ = meths.all Me.okd) := by
            show _ = _
            have h1 := HV.out
            rw [List.take_of_length_le (by omega)] at h1
            rw [HO.out, h1, Bool.true_and]
          go_wp2
          go_loopw [6] (fun i wr => ∃ k2 : Nat, k2 ≤ meths.length ∧ i = .int .i64 k2 ∧ Hid ((meths.take k2).all Me.okd = true) ∧ Below wv.heap.size wv wr)
            (fun i _ => meths.length - (intOf i).toNat)
          case atStart => exact ⟨0, by omega, rfl, rfl, Below.refl _ _⟩
          case round =>
            obtain ⟨wm, hwm⟩ : ∃ wm : World, wm = wr := ⟨_, rfl⟩
            subst hwm
            obtain ⟨k2, hk2, rfl, HM, hbm⟩ := hrel
            have hzm := hbm.size
            have hMm := (hbm.block wo.heap.size lv).trans hMv
            obtain ⟨n0, n1, n2, n3⟩ := four4 hMm
            have lv2 : wo.heap.size < wm.heap.size := by omega
            have hbH := hbG.tr le_rfl' hbm
            by_cases hltm : k2 < meths.length
            · rcases hI5.2.2 with h | ⟨b2, off2, rfl, hbn3, hrow2⟩
              · subst h; simp at hltm
              have hb2 : b2 < wm.heap.size := by omega
              have hr2 := hrow2.below (hbH.mono (by omega)) hbn3
              have hMI := (hI6 _ (List.getElem_mem hltm)).below (hbH.mono (by omega : n₀ ≤ wo.heap.size))
              have HMS := hid (allL_snoc Me.okd meths k2 hltm)
              have HMC := hid (fun h => allL_cut Me.okd meths k2 hltm h)
              rcases he : meths[k2] with ⟨xn, xb, xp⟩
              rw [he] at HMS HMC hMI
              have HQ : Hid (Me.okd ⟨xn, xb, xp⟩ = (Lx.name xn && xb.ok)) := rfl
              have hq := fun W (hW : Below wm.heap.size wm W) => refIsStmts_any n₀ xb W (by have := hW.size; omega) (hMI.2.2.below (hW.mono (by omega)))
              have hL := hMI.1
              simp only at hL
              unfold Len at hL
              obtain ⟨d0, d1, d2⟩ := row3 hr2 k2 hltm (by rw [he]; rfl)
              clear he hMI
              have hrm := hr2
              obtain ⟨bo, hbo⟩ : ∃ bo, xb.ok = bo := ⟨_, rfl⟩
              rw [hbo] at HQ
              simp only [hbo] at hq
              clear hbo
              rcases xb with ⟨bad, bcap, bbody⟩
              simp only [Bl.slice] at hq d1
              have hC := refName_any xn wm hL
              cases hnx : Lx.name xn
              · rw [hnx] at hC
                go_wp2_with (go_at_call 50; refine hC.mono ?_; rintro r w2 ⟨rfl, bb2⟩)
                go_ret
                exact ⟨ret_bool (HX.out (by rw [HO.out, HMC.out (by rw [HQ.out, hnx]; rfl)])).symm, hbF.tr le_rfl' (hbH.tr le_rfl' bb2)⟩
              · rw [hnx] at hC
                cases bo
                · go_wp2_with (first | (go_at_call 50; refine hC.mono ?_; rintro r w2 ⟨rfl, bb2⟩; obtain ⟨s0, s1, s2, s3⟩ := four4 ((bb2.block wo.heap.size lv2).trans hMm); have e1 : w2.cell? ⟨b2, off2 + k2 * 3 + 1, none⟩ = some (.slice bad bbody.length bcap) := (bb2.cell (p := ⟨b2, off2 + k2 * 3 + 1, none⟩) hb2).trans d1; have hb3 : b2 < w2.heap.size := Nat.lt_of_lt_of_le hb2 bb2.size) | (go_at_call 52; refine (hq _ bb2).mono ?_; rintro r w3 ⟨rfl, bb3⟩))
                  go_ret
                  exact ⟨ret_bool (HX.out (by rw [HO.out, HMC.out (by rw [HQ.out, hnx]; rfl)])).symm, hbF.tr le_rfl' (hbH.tr le_rfl' (bb2.tr le_rfl' bb3))⟩
                · go_wp2_with (first | (go_at_call 50; refine hC.mono ?_; rintro r w2 ⟨rfl, bb2⟩; obtain ⟨s0, s1, s2, s3⟩ := four4 ((bb2.block wo.heap.size lv2).trans hMm); have e1 : w2.cell? ⟨b2, off2 + k2 * 3 + 1, none⟩ = some (.slice bad bbody.length bcap) := (bb2.cell (p := ⟨b2, off2 + k2 * 3 + 1, none⟩) hb2).trans d1; have hb3 : b2 < w2.heap.size := Nat.lt_of_lt_of_le hb2 bb2.size) | (go_at_call 52; refine (hq _ bb2).mono ?_; rintro r w3 ⟨rfl, bb3⟩))
                  go_roundw
                  case rel => exact ⟨k2 + 1, by omega, by go_num, by show _ = _; rw [HMS.out, HM.out, HQ.out, hnx]; rfl, hbm.tr le_rfl' (bb2.tr le_rfl' bb3)⟩
                  case measure => simp [intOf]; omega
            · have hkd2 : decide ((k2 : Int) < (meths.length : Int)) = false := by simp; omega
              go_wp2
              go_roundw
              case rel =>
                refine ⟨j + 1, by omega, by go_num, HY.out ?_, hbw.tr (by simp) hbH⟩
                have h1 := HM.out
                rw [List.take_of_length_le (by omega)] at h1
                rw [HO.out, h1]
              case measure => simp [intOf]; omega
    · have hjd : decide ((j : Int) < (mons.length : Int)) = false := by simp; omega
      have HR : Hid (res = roles.all Ro.okd) := by
        show _ = _
        have h1 := HA.out
        rw [List.take_of_length_le (by omega)] at h1
        rw [HR.out, h1, Bool.true_and]
      go_wp2
      go_loopw [7] (fun i wr => ∃ k2 : Nat, k2 ≤ roles.length ∧ i = .int .i64 k2 ∧ Hid ((roles.take k2).all Ro.okd = true) ∧ Below wo.heap.size wo wr)
        (fun i _ => roles.length - (intOf i).toNat)
      case atStart => exact ⟨0, by omega, rfl, rfl, Below.refl _ _⟩
      case round =>
        obtain ⟨wm, hwm⟩ : ∃ wm : World, wm = wr := ⟨_, rfl⟩
        subst hwm
        obtain ⟨k2, hk2, rfl, HM, hbm⟩ := hrel
        have hzm := hbm.size
        have p1' : wm.cell? ⟨w.heap.size, 1, none⟩ = some (.slice rad roles.length rcap) := (hbm.cell (p := ⟨w.heap.size, 1, none⟩) lw).trans p1
        have lw2 : w.heap.size < wm.heap.size := by omega
        have hbH := hbF.tr le_rfl' hbm
        by_cases hltm : k2 < roles.length
        · rcases hR1.2.2 with h | ⟨b2, off2, rfl, hbn3, hrow2⟩
          · subst h; simp at hltm
          have hb2 : b2 < wm.heap.size := by omega
          have hr2 := hrow2.below (hbH.mono hn) hbn3
          have hMI := (hR2 _ (List.getElem_mem hltm)).below (hbH.mono hn)
          have HMS := hid (allL_snoc Ro.okd roles k2 hltm)
          have HMC : Hid (roles[k2].okd = false → res = false) := fun h => by rw [HR.out]; exact allL_cut Ro.okd roles k2 hltm h
          rcases he : roles[k2] with ⟨xn, xs, xc, xb, xp⟩
          rw [he] at HMS HMC hMI
          have HQ : Hid (Ro.okd ⟨xn, xs, xc, xb, xp⟩ = (Lx.name xn && !decide (xc < 0) && !(xs && (xc != 0)) && xb.ok)) := rfl
          have hL := hMI.1
          have hbI := hMI.2.2.2
          simp only at hL hbI
          unfold Len at hL
          have hq := fun W (hW : Below (wm.heap.size + 1) (wm.alloc (.cells #[.string xn, .bool xs, .int .i64 xc, xb.slice, .int .i64 xp] 58)) W) => refIsStmts_any n₀ xb W (by have := hW.size; simp at this; omega) (hbI.below (((Below.refl n₀ wm).al (by omega) _).trans (hW.mono (by omega))))
          obtain ⟨d0, d1, d2, d3, d4⟩ := row5 hr2 k2 hltm (by rw [he]; rfl)
          clear he hMI hbI
          obtain ⟨bo, hbo⟩ : ∃ bo, xb.ok = bo := ⟨_, rfl⟩
          rw [hbo] at HQ
          simp only [hbo] at hq
          clear hbo
          rcases xb with ⟨bad, bcap, bbody⟩
          simp only [Bl.slice] at hq d3
          have hRB : (wm.alloc (.cells #[.string xn, .bool xs, .int .i64 xc, .slice bad bbody.length bcap, .int .i64 xp] 58)).heap[wm.heap.size]? = some (.cells #[.string xn, .bool xs, .int .i64 xc, .slice bad bbody.length bcap, .int .i64 xp] 58 (0, 0)) := World.alloc_heap_new wm _
          have hC := refName_any xn (wm.alloc (.cells #[.string xn, .bool xs, .int .i64 xc, .slice bad bbody.length bcap, .int .i64 xp] 58)) hL
          have hBR : Below w.heap.size w (wm.alloc (.cells #[.string xn, .bool xs, .int .i64 xc, .slice bad bbody.length bcap, .int .i64 xp] 58)) := hbH.al le_rfl' _
          have hBM := hbm.al le_rfl' (.cells #[.string xn, .bool xs, .int .i64 xc, .slice bad bbody.length bcap, .int .i64 xp] 58)
          cases hnx : Lx.name xn
          · rw [hnx] at hC
            go_wp2_with (go_at_call 50; refine hC.mono ?_; rintro r w2 ⟨rfl, bb2⟩)
            go_ret
            exact ⟨ret_bool (HMC.out (by rw [HQ.out, hnx]; rfl)).symm, hBR.tr le_rfl' bb2⟩
          rw [hnx] at hC
          by_cases z1 : xc < 0
          · go_wp2_with (go_at_call 50; refine hC.mono ?_; rintro r w2 ⟨rfl, bb2⟩; obtain ⟨s0, s1, s2, s3, s4⟩ := five5 ((bb2.block wm.heap.size (by simp)).trans hRB))
            go_ret
            exact ⟨ret_bool (HMC.out (by rw [HQ.out, hnx, decide_eq_true z1]; rfl)).symm, hBR.tr le_rfl' bb2⟩
          have z1' : decide (xc < 0) = false := by simpa using z1
          cases xs
          · cases bo
            · go_wp2_with (first | (go_at_call 50; refine hC.mono ?_; rintro r w2 ⟨rfl, bb2⟩; obtain ⟨s0, s1, s2, s3, s4⟩ := five5 ((bb2.block wm.heap.size (by simp)).trans hRB)) | (go_at_call 52; refine (hq _ (bb2.mono (by simp))).mono ?_; rintro r w3 ⟨rfl, bb3⟩))
              go_ret
              exact ⟨ret_bool (HMC.out (by rw [HQ.out, Bool.and_false])).symm, hBR.tr le_rfl' (bb2.tr le_rfl' bb3)⟩
            · go_wp2_with (first | (go_at_call 50; refine hC.mono ?_; rintro r w2 ⟨rfl, bb2⟩; obtain ⟨s0, s1, s2, s3, s4⟩ := five5 ((bb2.block wm.heap.size (by simp)).trans hRB)) | (go_at_call 52; refine (hq _ (bb2.mono (by simp))).mono ?_; rintro r w3 ⟨rfl, bb3⟩))
              go_roundw
              case rel => exact ⟨k2 + 1, by omega, by go_num, by show _ = _; rw [HMS.out, HM.out, HQ.out, hnx, z1']; rfl, hBM.tr le_rfl' (bb2.tr le_rfl' bb3)⟩
              case measure => simp [intOf]; omega
          · cases hne : (xc != 0)
            · cases bo
              · go_wp2_with (first | (go_at_call 50; refine hC.mono ?_; rintro r w2 ⟨rfl, bb2⟩; obtain ⟨s0, s1, s2, s3, s4⟩ := five5 ((bb2.block wm.heap.size (by simp)).trans hRB)) | (go_at_call 52; refine (hq _ (bb2.mono (by simp))).mono ?_; rintro r w3 ⟨rfl, bb3⟩))
                go_ret
                exact ⟨ret_bool (HMC.out (by rw [HQ.out, Bool.and_false])).symm, hBR.tr le_rfl' (bb2.tr le_rfl' bb3)⟩
              · go_wp2_with (first | (go_at_call 50; refine hC.mono ?_; rintro r w2 ⟨rfl, bb2⟩; obtain ⟨s0, s1, s2, s3, s4⟩ := five5 ((bb2.block wm.heap.size (by simp)).trans hRB)) | (go_at_call 52; refine (hq _ (bb2.mono (by simp))).mono ?_; rintro r w3 ⟨rfl, bb3⟩))
                go_roundw
                case rel => exact ⟨k2 + 1, by omega, by go_num, by show _ = _; rw [HMS.out, HM.out, HQ.out, hnx, z1', hne]; rfl, hBM.tr le_rfl' (bb2.tr le_rfl' bb3)⟩
                case measure => simp [intOf]; omega
            · go_wp2_with (go_at_call 50; refine hC.mono ?_; rintro r w2 ⟨rfl, bb2⟩; obtain ⟨s0, s1, s2, s3, s4⟩ := five5 ((bb2.block wm.heap.size (by simp)).trans hRB))
              go_ret
              exact ⟨ret_bool (HMC.out (by rw [HQ.out, hne]; simp)).symm, hBR.tr le_rfl' bb2⟩
        · have hkd2 : decide ((k2 : Int) < (roles.length : Int)) = false := by simp; omega
          go_wp2
          go_ret
          refine ⟨ret_bool ?_, hbH⟩
          have h1 := HM.out
          rw [List.take_of_length_le (by omega)] at h1
          rw [HR.out, h1]
end Go.Proofs.YtijeiiiiplkfaaaDoor
