/-
  Own texts joined by program: R6A.
-/
import Derived.Test.YtpbjikncobnkjaaGreatDoorIbj
import Derived.Deep.RegionHeld3
namespace Go.Proofs.YtpbjikncobnkjaaGreatDoor
open Go.RowKit
theorem lt_of_cell {w:World} {b o:Nat} {v:Value} (h:w.cell? ⟨b,o,none⟩=some v):b<w.heap.size:=by
 rcases Nat.lt_or_ge b w.heap.size with h1|h1
 ·exact h1
 ·exfalso
  have h2:w.heap[b]?=none:=by rw[Array.getElem?_eq_none_iff];exact h1
  simp[World.cell?,h2] at h
def rq0:Oper:={ dst:=some 28,op:=Op.move (Operand.tmp 8),type:=4,pos:= "ref.go:79",after:=#[],guard:=none }
theorem rq0d:rq0.dst=some 28:=rfl
def rq1:Oper:={ dst:=some 29,op:=Op.unOp UnOp.not 4 (Operand.tmp 28),type:=4,pos:= "ref.go:79",after:=#[{ on:=0,ground:=Ground.data }],guard:=none }
theorem rq1d:rq1.dst=some 29:=rfl
def rq2:Oper:={ dst:=some 30,op:=Op.move (Operand.tmp 29),type:=4,pos:= "ref.go:79",after:=#[{ on:=1,ground:=Ground.data }],guard:=none }
theorem rq2d:rq2.dst=some 30:=rfl
def rq3:Oper:={ dst:=some 31,op:=Op.fieldAddr 64 (Operand.tmp 4) 5,type:=0,pos:= "ref.go:79",after:=#[{ on:=2,ground:=Ground.guard }],guard:=some (2,false) }
theorem rq3d:rq3.dst=some 31:=rfl
def rq4:Oper:={ dst:=some 32,op:=Op.load 62 (Operand.tmp 31),type:=62,pos:= "ref.go:79",after:=#[{ on:=3,ground:=Ground.data },{ on:=2,ground:=Ground.guard }],guard:=some (2,false) }
theorem rq4d:rq4.dst=some 32:=rfl
def rq5:Oper:={ dst:=some 33,op:=Op.call { callee:=Callee.builtin Builtin.len,args:=#[Operand.tmp 32],argTypes:=#[62] },type:=3,pos:= "ref.go:79",after:=#[{ on:=4,ground:=Ground.data },{ on:=2,ground:=Ground.guard }],guard:=some (2,false) }
theorem rq5d:rq5.dst=some 33:=rfl
def rq6:Oper:={ dst:=some 34,op:=Op.move (Operand.tmp 6),type:=3,pos:= "ref.go:79",after:=#[{ on:=2,ground:=Ground.guard }],guard:=some (2,false) }
theorem rq6d:rq6.dst=some 34:=rfl
def rq7:Oper:={ dst:=some 35,op:=Op.binOp BinOp.lss 3 (Operand.tmp 33) (Operand.tmp 34) 3,type:=4,pos:= "ref.go:79",after:=#[{ on:=5,ground:=Ground.data },{ on:=6,ground:=Ground.data },{ on:=2,ground:=Ground.guard }],guard:=some (2,false) }
theorem rq7d:rq7.dst=some 35:=rfl
def rq8:Oper:={ dst:=some 36,op:=Op.pick (Operand.tmp 30) (Operand.const (Value.bool true)) (Operand.tmp 35),type:=4,pos:= "ref.go:79",after:=#[{ on:=2,ground:=Ground.data },{ on:=7,ground:=Ground.data }],guard:=none }
theorem rq8d:rq8.dst=some 36:=rfl
def rq9:Oper:={ dst:=some 37,op:=Op.move (Operand.tmp 36),type:=4,pos:= "ref.go:79",after:=#[{ on:=8,ground:=Ground.data },{ on:=2,ground:=Ground.chain }],guard:=none }
theorem rq9d:rq9.dst=some 37:=rfl
def rq10:Oper:={ dst:=some 38,op:=Op.fieldAddr 64 (Operand.tmp 4) 5,type:=0,pos:= "ref.go:79",after:=#[{ on:=9,ground:=Ground.guard }],guard:=some (9,false) }
theorem rq10d:rq10.dst=some 38:=rfl
def rq11:Oper:={ dst:=some 39,op:=Op.load 62 (Operand.tmp 38),type:=62,pos:= "ref.go:79",after:=#[{ on:=10,ground:=Ground.data },{ on:=9,ground:=Ground.guard }],guard:=some (9,false) }
theorem rq11d:rq11.dst=some 39:=rfl
def rq12:Oper:={ dst:=some 40,op:=Op.call { callee:=Callee.builtin Builtin.len,args:=#[Operand.tmp 39],argTypes:=#[62] },type:=3,pos:= "ref.go:79",after:=#[{ on:=11,ground:=Ground.data },{ on:=9,ground:=Ground.guard }],guard:=some (9,false) }
theorem rq12d:rq12.dst=some 40:=rfl
def rq13:Oper:={ dst:=some 41,op:=Op.move (Operand.tmp 7),type:=3,pos:= "ref.go:79",after:=#[{ on:=9,ground:=Ground.guard }],guard:=some (9,false) }
theorem rq13d:rq13.dst=some 41:=rfl
def rq14:Oper:={ dst:=some 42,op:=Op.binOp BinOp.gtr 3 (Operand.tmp 40) (Operand.tmp 41) 3,type:=4,pos:= "ref.go:79",after:=#[{ on:=12,ground:=Ground.data },{ on:=13,ground:=Ground.data },{ on:=9,ground:=Ground.guard }],guard:=some (9,false) }
theorem rq14d:rq14.dst=some 42:=rfl
def rq15:Oper:={ dst:=some 43,op:=Op.pick (Operand.tmp 37) (Operand.const (Value.bool true)) (Operand.tmp 42),type:=4,pos:= "ref.go:79",after:=#[{ on:=9,ground:=Ground.data },{ on:=14,ground:=Ground.data }],guard:=none }
theorem rq15d:rq15.dst=some 43:=rfl
def rq16:Oper:={ dst:=some 44,op:=Op.move (Operand.tmp 43),type:=4,pos:= "ref.go:79",after:=#[{ on:=15,ground:=Ground.data },{ on:=9,ground:=Ground.chain }],guard:=none }
theorem rq16d:rq16.dst=some 44:=rfl
def rq17:Oper:={ dst:=some 45,op:=Op.move (Operand.tmp 5),type:=99,pos:= "ref.go:79",after:=#[{ on:=16,ground:=Ground.guard }],guard:=some (16,false) }
theorem rq17d:rq17.dst=some 45:=rfl
def rq18:Oper:={ dst:=some 46,op:=Op.indexAddr 99 (Operand.tmp 45) (Operand.const (Value.int IntKind.i64 0)),type:=0,pos:= "ref.go:79",after:=#[{ on:=17,ground:=Ground.data },{ on:=16,ground:=Ground.guard }],guard:=some (16,false) }
theorem rq18d:rq18.dst=some 46:=rfl
def rq19:Oper:={ dst:=some 47,op:=Op.load 4 (Operand.tmp 46),type:=4,pos:= "ref.go:79",after:=#[{ on:=18,ground:=Ground.data },{ on:=16,ground:=Ground.guard }],guard:=some (16,false) }
theorem rq19d:rq19.dst=some 47:=rfl
def rq20:Oper:={ dst:=some 48,op:=Op.fieldAddr 64 (Operand.tmp 4) 1,type:=0,pos:= "ref.go:79",after:=#[{ on:=16,ground:=Ground.guard }],guard:=some (16,false) }
theorem rq20d:rq20.dst=some 48:=rfl
def rq21:Oper:={ dst:=some 49,op:=Op.load 9 (Operand.tmp 48),type:=9,pos:= "ref.go:79",after:=#[{ on:=20,ground:=Ground.data },{ on:=16,ground:=Ground.guard }],guard:=some (16,false) }
theorem rq21d:rq21.dst=some 49:=rfl
def rq22:Oper:={ dst:=some 50,op:=Op.binOp BinOp.neq 9 (Operand.tmp 49) (Operand.const (Value.string { data:=#[] })) 9,type:=4,pos:= "ref.go:79",after:=#[{ on:=21,ground:=Ground.data },{ on:=16,ground:=Ground.guard }],guard:=some (16,false) }
theorem rq22d:rq22.dst=some 50:=rfl
def rq23:Oper:={ dst:=some 51,op:=Op.binOp BinOp.neq 4 (Operand.tmp 47) (Operand.tmp 50) 4,type:=4,pos:= "ref.go:79",after:=#[{ on:=19,ground:=Ground.data },{ on:=22,ground:=Ground.data },{ on:=16,ground:=Ground.guard }],guard:=some (16,false) }
theorem rq23d:rq23.dst=some 51:=rfl
def rq24:Oper:={ dst:=some 52,op:=Op.pick (Operand.tmp 44) (Operand.const (Value.bool true)) (Operand.tmp 51),type:=4,pos:= "ref.go:79",after:=#[{ on:=16,ground:=Ground.data },{ on:=23,ground:=Ground.data }],guard:=none }
theorem rq24d:rq24.dst=some 52:=rfl
def rq25:Oper:={ dst:=some 53,op:=Op.move (Operand.tmp 52),type:=4,pos:= "ref.go:79",after:=#[{ on:=24,ground:=Ground.data },{ on:=16,ground:=Ground.chain }],guard:=none }
theorem rq25d:rq25.dst=some 53:=rfl
def rq26:Oper:={ dst:=some 54,op:=Op.move (Operand.tmp 5),type:=99,pos:= "ref.go:79",after:=#[{ on:=25,ground:=Ground.guard }],guard:=some (25,false) }
theorem rq26d:rq26.dst=some 54:=rfl
def rq27:Oper:={ dst:=some 55,op:=Op.indexAddr 99 (Operand.tmp 54) (Operand.const (Value.int IntKind.i64 1)),type:=0,pos:= "ref.go:79",after:=#[{ on:=26,ground:=Ground.data },{ on:=25,ground:=Ground.guard }],guard:=some (25,false) }
theorem rq27d:rq27.dst=some 55:=rfl
def rq28:Oper:={ dst:=some 56,op:=Op.load 4 (Operand.tmp 55),type:=4,pos:= "ref.go:79",after:=#[{ on:=27,ground:=Ground.data },{ on:=25,ground:=Ground.guard }],guard:=some (25,false) }
theorem rq28d:rq28.dst=some 56:=rfl
def rq29:Oper:={ dst:=some 57,op:=Op.fieldAddr 64 (Operand.tmp 4) 2,type:=0,pos:= "ref.go:79",after:=#[{ on:=25,ground:=Ground.guard }],guard:=some (25,false) }
theorem rq29d:rq29.dst=some 57:=rfl
def rq30:Oper:={ dst:=some 58,op:=Op.load 9 (Operand.tmp 57),type:=9,pos:= "ref.go:79",after:=#[{ on:=29,ground:=Ground.data },{ on:=25,ground:=Ground.guard }],guard:=some (25,false) }
theorem rq30d:rq30.dst=some 58:=rfl
def rq31:Oper:={ dst:=some 59,op:=Op.binOp BinOp.neq 9 (Operand.tmp 58) (Operand.const (Value.string { data:=#[] })) 9,type:=4,pos:= "ref.go:79",after:=#[{ on:=30,ground:=Ground.data },{ on:=25,ground:=Ground.guard }],guard:=some (25,false) }
theorem rq31d:rq31.dst=some 59:=rfl
def rq32:Oper:={ dst:=some 60,op:=Op.binOp BinOp.neq 4 (Operand.tmp 56) (Operand.tmp 59) 4,type:=4,pos:= "ref.go:79",after:=#[{ on:=28,ground:=Ground.data },{ on:=31,ground:=Ground.data },{ on:=25,ground:=Ground.guard }],guard:=some (25,false) }
theorem rq32d:rq32.dst=some 60:=rfl
def rq33:Oper:={ dst:=some 61,op:=Op.pick (Operand.tmp 53) (Operand.const (Value.bool true)) (Operand.tmp 60),type:=4,pos:= "ref.go:79",after:=#[{ on:=25,ground:=Ground.data },{ on:=32,ground:=Ground.data }],guard:=none }
theorem rq33d:rq33.dst=some 61:=rfl
def rq34:Oper:={ dst:=some 62,op:=Op.move (Operand.tmp 61),type:=4,pos:= "ref.go:79",after:=#[{ on:=33,ground:=Ground.data },{ on:=25,ground:=Ground.chain }],guard:=none }
theorem rq34d:rq34.dst=some 62:=rfl
def rq35:Oper:={ dst:=some 63,op:=Op.move (Operand.tmp 5),type:=99,pos:= "ref.go:79",after:=#[{ on:=34,ground:=Ground.guard }],guard:=some (34,false) }
theorem rq35d:rq35.dst=some 63:=rfl
def rq36:Oper:={ dst:=some 64,op:=Op.indexAddr 99 (Operand.tmp 63) (Operand.const (Value.int IntKind.i64 0)),type:=0,pos:= "ref.go:79",after:=#[{ on:=35,ground:=Ground.data },{ on:=34,ground:=Ground.guard }],guard:=some (34,false) }
theorem rq36d:rq36.dst=some 64:=rfl
def rq37:Oper:={ dst:=some 65,op:=Op.load 4 (Operand.tmp 64),type:=4,pos:= "ref.go:79",after:=#[{ on:=36,ground:=Ground.data },{ on:=34,ground:=Ground.guard }],guard:=some (34,false) }
theorem rq37d:rq37.dst=some 65:=rfl
def rq38:Oper:={ dst:=some 66,op:=Op.move (Operand.tmp 65),type:=4,pos:= "ref.go:79",after:=#[{ on:=37,ground:=Ground.data },{ on:=34,ground:=Ground.chain },{ on:=34,ground:=Ground.guard }],guard:=some (34,false) }
theorem rq38d:rq38.dst=some 66:=rfl
def rq39:Oper:={ dst:=some 67,op:=Op.fieldAddr 64 (Operand.tmp 4) 1,type:=0,pos:= "ref.go:79",after:=#[{ on:=38,ground:=Ground.guard }],guard:=some (38,true) }
theorem rq39d:rq39.dst=some 67:=rfl
def rq40:Oper:={ dst:=some 68,op:=Op.load 9 (Operand.tmp 67),type:=9,pos:= "ref.go:79",after:=#[{ on:=39,ground:=Ground.data },{ on:=38,ground:=Ground.guard }],guard:=some (38,true) }
theorem rq40d:rq40.dst=some 68:=rfl
def rq41:Oper:={ dst:=some 69,op:=Op.call { callee:=Callee.value (Operand.func 52),args:=#[Operand.tmp 68],argTypes:=#[9] },type:=4,pos:= "ref.go:79",after:=#[{ on:=40,ground:=Ground.data },{ on:=38,ground:=Ground.chain },{ on:=38,ground:=Ground.guard }],guard:=some (38,true) }
theorem rq41d:rq41.dst=some 69:=rfl
def rq42:Oper:={ dst:=some 70,op:=Op.unOp UnOp.not 4 (Operand.tmp 69),type:=4,pos:= "ref.go:79",after:=#[{ on:=41,ground:=Ground.data },{ on:=38,ground:=Ground.guard }],guard:=some (38,true) }
theorem rq42d:rq42.dst=some 70:=rfl
def rq43:Oper:={ dst:=some 71,op:=Op.pick (Operand.tmp 66) (Operand.tmp 70) (Operand.const (Value.bool false)),type:=4,pos:= "ref.go:79",after:=#[{ on:=38,ground:=Ground.data },{ on:=42,ground:=Ground.data },{ on:=34,ground:=Ground.guard }],guard:=some (34,false) }
theorem rq43d:rq43.dst=some 71:=rfl
def rq44:Oper:={ dst:=some 72,op:=Op.pick (Operand.tmp 62) (Operand.const (Value.bool true)) (Operand.tmp 71),type:=4,pos:= "ref.go:79",after:=#[{ on:=34,ground:=Ground.data },{ on:=43,ground:=Ground.data }],guard:=none }
theorem rq44d:rq44.dst=some 72:=rfl
def rq45:Oper:={ dst:=some 73,op:=Op.move (Operand.tmp 72),type:=4,pos:= "ref.go:79",after:=#[{ on:=44,ground:=Ground.data },{ on:=41,ground:=Ground.chain }],guard:=none }
theorem rq45d:rq45.dst=some 73:=rfl
def rq46:Oper:={ dst:=some 74,op:=Op.move (Operand.tmp 5),type:=99,pos:= "ref.go:79",after:=#[{ on:=45,ground:=Ground.guard }],guard:=some (45,false) }
theorem rq46d:rq46.dst=some 74:=rfl
def rq47:Oper:={ dst:=some 75,op:=Op.indexAddr 99 (Operand.tmp 74) (Operand.const (Value.int IntKind.i64 1)),type:=0,pos:= "ref.go:79",after:=#[{ on:=46,ground:=Ground.data },{ on:=45,ground:=Ground.guard }],guard:=some (45,false) }
theorem rq47d:rq47.dst=some 75:=rfl
def rq48:Oper:={ dst:=some 76,op:=Op.load 4 (Operand.tmp 75),type:=4,pos:= "ref.go:79",after:=#[{ on:=47,ground:=Ground.data },{ on:=45,ground:=Ground.guard }],guard:=some (45,false) }
theorem rq48d:rq48.dst=some 76:=rfl
def rq49:Oper:={ dst:=some 77,op:=Op.move (Operand.tmp 76),type:=4,pos:= "ref.go:79",after:=#[{ on:=48,ground:=Ground.data },{ on:=45,ground:=Ground.chain },{ on:=45,ground:=Ground.guard }],guard:=some (45,false) }
theorem rq49d:rq49.dst=some 77:=rfl
def rq50:Oper:={ dst:=some 78,op:=Op.fieldAddr 64 (Operand.tmp 4) 2,type:=0,pos:= "ref.go:79",after:=#[{ on:=49,ground:=Ground.guard }],guard:=some (49,true) }
theorem rq50d:rq50.dst=some 78:=rfl
def rq51:Oper:={ dst:=some 79,op:=Op.load 9 (Operand.tmp 78),type:=9,pos:= "ref.go:79",after:=#[{ on:=50,ground:=Ground.data },{ on:=49,ground:=Ground.guard }],guard:=some (49,true) }
theorem rq51d:rq51.dst=some 79:=rfl
def rq52:Oper:={ dst:=some 80,op:=Op.call { callee:=Callee.value (Operand.func 52),args:=#[Operand.tmp 79],argTypes:=#[9] },type:=4,pos:= "ref.go:79",after:=#[{ on:=51,ground:=Ground.data },{ on:=49,ground:=Ground.chain },{ on:=49,ground:=Ground.guard }],guard:=some (49,true) }
theorem rq52d:rq52.dst=some 80:=rfl
def rq53:Oper:={ dst:=some 81,op:=Op.unOp UnOp.not 4 (Operand.tmp 80),type:=4,pos:= "ref.go:79",after:=#[{ on:=52,ground:=Ground.data },{ on:=49,ground:=Ground.guard }],guard:=some (49,true) }
theorem rq53d:rq53.dst=some 81:=rfl
def rq54:Oper:={ dst:=some 82,op:=Op.pick (Operand.tmp 77) (Operand.tmp 81) (Operand.const (Value.bool false)),type:=4,pos:= "ref.go:79",after:=#[{ on:=49,ground:=Ground.data },{ on:=53,ground:=Ground.data },{ on:=45,ground:=Ground.guard }],guard:=some (45,false) }
theorem rq54d:rq54.dst=some 82:=rfl
def rq55:Oper:={ dst:=some 83,op:=Op.pick (Operand.tmp 73) (Operand.const (Value.bool true)) (Operand.tmp 82),type:=4,pos:= "ref.go:79",after:=#[{ on:=45,ground:=Ground.data },{ on:=54,ground:=Ground.data }],guard:=none }
theorem rq55d:rq55.dst=some 83:=rfl
def rq56:Oper:={ dst:=some 84,op:=Op.move (Operand.tmp 83),type:=4,pos:= "ref.go:79",after:=#[{ on:=55,ground:=Ground.data },{ on:=52,ground:=Ground.chain }],guard:=none }
theorem rq56d:rq56.dst=some 84:=rfl
def rq57:Oper:={ dst:=some 85,op:=Op.fieldAddr 64 (Operand.tmp 4) 3,type:=0,pos:= "ref.go:79",after:=#[{ on:=56,ground:=Ground.guard }],guard:=some (56,false) }
theorem rq57d:rq57.dst=some 85:=rfl
def rq58:Oper:={ dst:=some 86,op:=Op.load 2 (Operand.tmp 85),type:=2,pos:= "ref.go:79",after:=#[{ on:=57,ground:=Ground.data },{ on:=56,ground:=Ground.guard }],guard:=some (56,false) }
theorem rq58d:rq58.dst=some 86:=rfl
def rq59:Oper:={ dst:=some 87,op:=Op.binOp BinOp.lss 2 (Operand.tmp 86) (Operand.const (Value.int IntKind.i64 0)) 2,type:=4,pos:= "ref.go:79",after:=#[{ on:=58,ground:=Ground.data },{ on:=56,ground:=Ground.guard }],guard:=some (56,false) }
theorem rq59d:rq59.dst=some 87:=rfl
def rq60:Oper:={ dst:=some 88,op:=Op.pick (Operand.tmp 84) (Operand.const (Value.bool true)) (Operand.tmp 87),type:=4,pos:= "ref.go:79",after:=#[{ on:=56,ground:=Ground.data },{ on:=59,ground:=Ground.data }],guard:=none }
theorem rq60d:rq60.dst=some 88:=rfl
def rq61:Oper:={ dst:=some 89,op:=Op.move (Operand.tmp 88),type:=4,pos:= "ref.go:79",after:=#[{ on:=60,ground:=Ground.data },{ on:=56,ground:=Ground.chain }],guard:=none }
theorem rq61d:rq61.dst=some 89:=rfl
def rq62:Oper:={ dst:=some 90,op:=Op.move (Operand.tmp 5),type:=99,pos:= "ref.go:79",after:=#[{ on:=61,ground:=Ground.guard }],guard:=some (61,false) }
theorem rq62d:rq62.dst=some 90:=rfl
def rq63:Oper:={ dst:=some 91,op:=Op.indexAddr 99 (Operand.tmp 90) (Operand.const (Value.int IntKind.i64 2)),type:=0,pos:= "ref.go:79",after:=#[{ on:=62,ground:=Ground.data },{ on:=61,ground:=Ground.guard }],guard:=some (61,false) }
theorem rq63d:rq63.dst=some 91:=rfl
def rq64:Oper:={ dst:=some 92,op:=Op.load 4 (Operand.tmp 91),type:=4,pos:= "ref.go:79",after:=#[{ on:=63,ground:=Ground.data },{ on:=61,ground:=Ground.guard }],guard:=some (61,false) }
theorem rq64d:rq64.dst=some 92:=rfl
def rq65:Oper:={ dst:=some 93,op:=Op.unOp UnOp.not 4 (Operand.tmp 92),type:=4,pos:= "ref.go:79",after:=#[{ on:=64,ground:=Ground.data },{ on:=61,ground:=Ground.guard }],guard:=some (61,false) }
theorem rq65d:rq65.dst=some 93:=rfl
def rq66:Oper:={ dst:=some 94,op:=Op.move (Operand.tmp 93),type:=4,pos:= "ref.go:79",after:=#[{ on:=65,ground:=Ground.data },{ on:=61,ground:=Ground.chain },{ on:=61,ground:=Ground.guard }],guard:=some (61,false) }
theorem rq66d:rq66.dst=some 94:=rfl
def rq67:Oper:={ dst:=some 95,op:=Op.fieldAddr 64 (Operand.tmp 4) 3,type:=0,pos:= "ref.go:79",after:=#[{ on:=66,ground:=Ground.guard }],guard:=some (66,true) }
theorem rq67d:rq67.dst=some 95:=rfl
def rq68:Oper:={ dst:=some 96,op:=Op.load 2 (Operand.tmp 95),type:=2,pos:= "ref.go:79",after:=#[{ on:=67,ground:=Ground.data },{ on:=66,ground:=Ground.guard }],guard:=some (66,true) }
theorem rq68d:rq68.dst=some 96:=rfl
def rq69:Oper:={ dst:=some 97,op:=Op.binOp BinOp.neq 2 (Operand.tmp 96) (Operand.const (Value.int IntKind.i64 0)) 2,type:=4,pos:= "ref.go:79",after:=#[{ on:=68,ground:=Ground.data },{ on:=66,ground:=Ground.guard }],guard:=some (66,true) }
theorem rq69d:rq69.dst=some 97:=rfl
def rq70:Oper:={ dst:=some 98,op:=Op.pick (Operand.tmp 94) (Operand.tmp 97) (Operand.const (Value.bool false)),type:=4,pos:= "ref.go:79",after:=#[{ on:=66,ground:=Ground.data },{ on:=69,ground:=Ground.data },{ on:=61,ground:=Ground.guard }],guard:=some (61,false) }
theorem rq70d:rq70.dst=some 98:=rfl
def rq71:Oper:={ dst:=some 99,op:=Op.pick (Operand.tmp 89) (Operand.const (Value.bool true)) (Operand.tmp 98),type:=4,pos:= "ref.go:79",after:=#[{ on:=61,ground:=Ground.data },{ on:=70,ground:=Ground.data }],guard:=none }
theorem rq71d:rq71.dst=some 99:=rfl
def r6Ops:Array Oper:=#[rq0,rq1,rq2,rq3,rq4,rq5,rq6,rq7,rq8,rq9,rq10,rq11,rq12,rq13,rq14,rq15,rq16,rq17,rq18,rq19,rq20,rq21,rq22,rq23,rq24,rq25,rq26,rq27,rq28,rq29,rq30,rq31,rq32,rq33,rq34,rq35,rq36,rq37,rq38,rq39,rq40,rq41,rq42,rq43,rq44,rq45,rq46,rq47,rq48,rq49,rq50,rq51,rq52,rq53,rq54,rq55,rq56,rq57,rq58,rq59,rq60,rq61,rq62,rq63,rq64,rq65,rq66,rq67,rq68,rq69,rq70,rq71]
theorem mixedQ:Tryz.prog.follows .mixedOrders=true:=by kernel_rfl
theorem below_drew6 (W:World):Below W.heap.size W W.drew:=⟨rfl,rfl,rfl,Nat.le_refl _,fun _ _=>rfl⟩
theorem lsA {α:Type} (l:List α) (i:Nat) (a:α):l.toArray.setIfInBounds i a=(l.set i a).toArray:=List.setIfInBounds_toArray ..
theorem lsZ {α:Type} (x:α) (l:List α) (a:α):(x::l).set 0 a=a::l:=List.set_cons_zero ..
theorem lsS {α:Type} (x:α) (l:List α) (i:Nat) (a:α):(x::l).set (i+1) a=x::l.set i a:=List.set_cons_succ ..
theorem tku {P:Program} {ops:Array Oper} {Q:Exit→Act→World→Prop} {md:Region.Mode} {S:World→Prop} {fuel:Nat} {listed:Array Bool} {a:Act} {w:World} (hQP:∀ c a d v w,Q (.panic c) (Act.put a d v) w→Q (.panic c) a w) (hS:S w) (i:Nat) (oi:Oper) (h:wpAnyH P md ops Q S fuel (listed.setIfInBounds i true) (a.put oi.dst undef) w) (hi:ops[i]?=some oi:=by rfl) (hs:Region.noSelect ops=true:=by kernel_rfl) (hf:Region.free md ops listed i=true:=by kernel_rfl) (hr:(Region.ready md ops listed).contains i=true:=by kernel_rfl) (hw:Region.wanted oi (yielded ops a.tmps)=false:=by rfl):wpAnyH P md ops Q S (fuel+1) listed a w:=
 wpAnyH_take hi hs hf hr (fun c _ w h=>hQP c _ _ _ w h) (Or.inr ⟨hw,rfl⟩) hS h
theorem tki {P:Program} {ops:Array Oper} {Q:Exit→Act→World→Prop} {md:Region.Mode} {S:World→Prop} {fuel:Nat} {listed:Array Bool} {a:Act} {w:World} (hQP:∀ c a d v w,Q (.panic c) (Act.put a d v) w→Q (.panic c) a w) (hS:S w) (i:Nat) (oi:Oper) (v:Value) (hy:∀ w,S w→(execOp a.eval oi).run P w=.ok (.value v) w) (h:wpAnyH P md ops Q S fuel (listed.setIfInBounds i true) (a.put oi.dst v) w) (hi:ops[i]?=some oi:=by rfl) (hs:Region.noSelect ops=true:=by kernel_rfl) (hf:Region.free md ops listed i=true:=by kernel_rfl) (hr:(Region.ready md ops listed).contains i=true:=by kernel_rfl) (hw:Region.wanted oi (yielded ops a.tmps)=true:=by rfl):wpAnyH P md ops Q S (fuel+1) listed a w:=
 wpAnyH_take hi hs hf hr (fun c _ w h=>hQP c _ _ _ w h) (Or.inl ⟨hw,hy⟩) hS h
set_option maxRecDepth 100000 in
set_option maxHeartbeats 64000000 in
theorem reg6 {Q:Exit→Act→World→Prop} (t0 t1 t2 t3 t9 t10 t11 t12 t13 t14 t15 t16 t17 t18 t19 t20 t21 t22 t23 t24 t25 t26 t27 t28 t29 t30 t31 t32 t33 t34 t35 t36 t37 t38 t39 t40 t41 t42 t43 t44 t45 t46 t47 t48 t49 t50 t51 t52 t53 t54 t55 t56 t57 t58 t59 t60 t61 t62 t63 t64 t65 t66 t67 t68 t69 t70 t71 t72 t73 t74 t75 t76 t77 t78 t79 t80 t81 t82 t83 t84 t85 t86 t87 t88 t89 t90 t91 t92 t93 t94 t95 t96 t97 t98 t99 t100 t101 t102 t103 t104 t105 t106 t107 t108 t109 t110 t111 t112 t113 t114 t115 t116 t117 t118 t119 t120 t121 t122 t123 t124 t125 t126 t127 t128 t129 t130 t131 t132 t133 t134:Value) (p g ll mm blocks cap:Nat) (ad:Option Addr) (mon name:ByteArray) (n:Int) (fm fn fu:Bool) (W:World)
  (hsm:mon.size≤140737488351232) (hsn:name.size≤140737488351232)
  (hc:W.cell? ⟨p,1,none⟩=some (.string mon)∧W.cell? ⟨p,2,none⟩=some (.string name)∧W.cell? ⟨p,3,none⟩=some (.int .i64 n)∧W.cell? ⟨p,10,none⟩=some (.slice ad blocks cap)∧W.cell? ⟨g,0,none⟩=some (.bool fm)∧W.cell? ⟨g,1,none⟩=some (.bool fn)∧W.cell? ⟨g,2,none⟩=some (.bool fu))
  (hQP:∀ c a d v w,Q (.panic c) (Act.put a d v) w→Q (.panic c) a w)
  (hQ:∀ u28 u29 u30 u31 u32 u33 u34 u35 u36 u37 u38 u39 u40 u41 u42 u43 u44 u45 u46 u47 u48 u49 u50 u51 u52 u53 u54 u55 u56 u57 u58 u59 u60 u61 u62 u63 u64 u65 u66 u67 u68 u69 u70 u71 u72 u73 u74 u75 u76 u77 u78 u79 u80 u81 u82 u83 u84 u85 u86 u87 u88 u89 u90 u91 u92 u93 u94 u95 u96 u97 u98 T w',(decide ((blocks:Int)<(ll:Int)) || decide ((mm:Int)<(blocks:Int)) || (fm != !mon.toList.isEmpty) || (fn != !name.toList.isEmpty) || (fm&&!Lx.name mon) || (fn&&!Lx.name name) || decide (n<0) || (!fu&&(n != 0)))=T→Below W.heap.size W w'→Q .normal { tmps:=#[t0,t1,t2,t3,.pointer (some ⟨p,0,none⟩),.slice (some ⟨g,0,none⟩) 4 4,.int .i64 (ll:Int),.int .i64 (mm:Int),.bool true,t9,t10,t11,t12,t13,t14,t15,t16,t17,t18,t19,t20,t21,t22,t23,t24,t25,t26,t27,u28,u29,u30,u31,u32,u33,u34,u35,u36,u37,u38,u39,u40,u41,u42,u43,u44,u45,u46,u47,u48,u49,u50,u51,u52,u53,u54,u55,u56,u57,u58,u59,u60,u61,u62,u63,u64,u65,u66,u67,u68,u69,u70,u71,u72,u73,u74,u75,u76,u77,u78,u79,u80,u81,u82,u83,u84,u85,u86,u87,u88,u89,u90,u91,u92,u93,u94,u95,u96,u97,u98,.bool T,t100,t101,t102,t103,t104,t105,t106,t107,t108,t109,t110,t111,t112,t113,t114,t115,t116,t117,t118,t119,t120,t121,t122,t123,t124,t125,t126,t127,t128,t129,t130,t131,t132,t133,t134],defers:=[] } w') :
  (Code.region 6 r6Ops true).wp Tryz.prog Q { tmps:=#[t0,t1,t2,t3,.pointer (some ⟨p,0,none⟩),.slice (some ⟨g,0,none⟩) 4 4,.int .i64 (ll:Int),.int .i64 (mm:Int),.bool true,t9,t10,t11,t12,t13,t14,t15,t16,t17,t18,t19,t20,t21,t22,t23,t24,t25,t26,t27,t28,t29,t30,t31,t32,t33,t34,t35,t36,t37,t38,t39,t40,t41,t42,t43,t44,t45,t46,t47,t48,t49,t50,t51,t52,t53,t54,t55,t56,t57,t58,t59,t60,t61,t62,t63,t64,t65,t66,t67,t68,t69,t70,t71,t72,t73,t74,t75,t76,t77,t78,t79,t80,t81,t82,t83,t84,t85,t86,t87,t88,t89,t90,t91,t92,t93,t94,t95,t96,t97,t98,t99,t100,t101,t102,t103,t104,t105,t106,t107,t108,t109,t110,t111,t112,t113,t114,t115,t116,t117,t118,t119,t120,t121,t122,t123,t124,t125,t126,t127,t128,t129,t130,t131,t132,t133,t134],defers:=[] } W:=by
 dsimp only at hQ ⊢
 have hkeep:∀ W',Below W.heap.size W W'→(W'.cell? ⟨p,1,none⟩=some (.string mon)∧W'.cell? ⟨p,2,none⟩=some (.string name)∧W'.cell? ⟨p,3,none⟩=some (.int .i64 n)∧W'.cell? ⟨p,10,none⟩=some (.slice ad blocks cap)∧W'.cell? ⟨g,0,none⟩=some (.bool fm)∧W'.cell? ⟨g,1,none⟩=some (.bool fn)∧W'.cell? ⟨g,2,none⟩=some (.bool fu)):=fun W' hb=>by
  obtain⟨z1,z2,z3,z4,z5,z6,z7⟩:=hc
  have hp:=lt_of_cell z1
  have hg:=lt_of_cell z5
  exact⟨(hb.cell (p:=⟨p,1,none⟩) hp).trans z1,(hb.cell (p:=⟨p,2,none⟩) hp).trans z2,(hb.cell (p:=⟨p,3,none⟩) hp).trans z3,(hb.cell (p:=⟨p,10,none⟩) hp).trans z4,(hb.cell (p:=⟨g,0,none⟩) hg).trans z5,(hb.cell (p:=⟨g,1,none⟩) hg).trans z6,(hb.cell (p:=⟨g,2,none⟩) hg).trans z7⟩
 have B:=below_drew6 W
 refine wp_region_held_drew (S:=fun W'=>W'.cell? ⟨p,1,none⟩=some (.string mon)∧W'.cell? ⟨p,2,none⟩=some (.string name)∧W'.cell? ⟨p,3,none⟩=some (.int .i64 n)∧W'.cell? ⟨p,10,none⟩=some (.slice ad blocks cap)∧W'.cell? ⟨g,0,none⟩=some (.bool fm)∧W'.cell? ⟨g,1,none⟩=some (.bool fn)∧W'.cell? ⟨g,2,none⟩=some (.bool fu)) mixedQ (hkeep _ B) (fun hS=>?_)
 show wpAnyH Tryz.prog .any r6Ops Q _ 72 #[false,false,false,false,false,false,false,false,false,false,false,false,false,false,false,false,false,false,false,false,false,false,false,false,false,false,false,false,false,false,false,false,false,false,false,false,false,false,false,false,false,false,false,false,false,false,false,false,false,false,false,false,false,false,false,false,false,false,false,false,false,false,false,false,false,false,false,false,false,false,false,false] _ _
 refine tki hQP hS 0 rq0 (.bool true) ?_ ?_
 ·rintro w ⟨z1,z2,z3,z4,z5,z6,z7⟩
  unfold rq0
  go_simp
 simp only[rq0d,Act.put,lsA,lsZ,lsS]
 refine tki hQP hS 1 rq1 (.bool false) ?_ ?_
 ·rintro w ⟨z1,z2,z3,z4,z5,z6,z7⟩
  unfold rq1
  go_simp
 simp only[rq1d,Act.put,lsA,lsZ,lsS]
 refine tki hQP hS 2 rq2 (.bool false) ?_ ?_
 ·rintro w ⟨z1,z2,z3,z4,z5,z6,z7⟩
  unfold rq2
  go_simp
 simp only[rq2d,Act.put,lsA,lsZ,lsS]
 refine tki hQP hS 3 rq3 (.pointer (some ⟨p,10,none⟩)) ?_ ?_
 ·rintro w ⟨z1,z2,z3,z4,z5,z6,z7⟩
  unfold rq3
  go_simp
 simp only[rq3d,Act.put,lsA,lsZ,lsS]
 refine tki hQP hS 4 rq4 (.slice ad blocks cap) ?_ ?_
 ·rintro w ⟨z1,z2,z3,z4,z5,z6,z7⟩
  unfold rq4
  go_simp
 simp only[rq4d,Act.put,lsA,lsZ,lsS]
 refine tki hQP hS 5 rq5 (.int .i64 (blocks:Int)) ?_ ?_
 ·rintro w ⟨z1,z2,z3,z4,z5,z6,z7⟩
  unfold rq5
  go_simp
 simp only[rq5d,Act.put,lsA,lsZ,lsS]
 refine tki hQP hS 6 rq6 (.int .i64 (ll:Int)) ?_ ?_
 ·rintro w ⟨z1,z2,z3,z4,z5,z6,z7⟩
  unfold rq6
  go_simp
 simp only[rq6d,Act.put,lsA,lsZ,lsS]
 cases q1:decide ((blocks:Int)<(ll:Int))
 ·refine tki hQP hS 7 rq7 (.bool false) ?_ ?_
  ·rintro w ⟨z1,z2,z3,z4,z5,z6,z7⟩
   unfold rq7
   go_simp
   all_goals (have hq:=q1;simp at hq ⊢;first|omega|assumption|exact hq|grind)
  simp only[rq7d,Act.put,lsA,lsZ,lsS]
  refine tki hQP hS 8 rq8 (.bool false) ?_ ?_
  ·rintro w ⟨z1,z2,z3,z4,z5,z6,z7⟩
   unfold rq8
   go_simp
  simp only[rq8d,Act.put,lsA,lsZ,lsS]
  refine tki hQP hS 9 rq9 (.bool false) ?_ ?_
  ·rintro w ⟨z1,z2,z3,z4,z5,z6,z7⟩
   unfold rq9
   go_simp
  simp only[rq9d,Act.put,lsA,lsZ,lsS]
  refine tki hQP hS 10 rq10 (.pointer (some ⟨p,10,none⟩)) ?_ ?_
  ·rintro w ⟨z1,z2,z3,z4,z5,z6,z7⟩
   unfold rq10
   go_simp
  simp only[rq10d,Act.put,lsA,lsZ,lsS]
  refine tki hQP hS 11 rq11 (.slice ad blocks cap) ?_ ?_
  ·rintro w ⟨z1,z2,z3,z4,z5,z6,z7⟩
   unfold rq11
   go_simp
  simp only[rq11d,Act.put,lsA,lsZ,lsS]
  refine tki hQP hS 12 rq12 (.int .i64 (blocks:Int)) ?_ ?_
  ·rintro w ⟨z1,z2,z3,z4,z5,z6,z7⟩
   unfold rq12
   go_simp
  simp only[rq12d,Act.put,lsA,lsZ,lsS]
  refine tki hQP hS 13 rq13 (.int .i64 (mm:Int)) ?_ ?_
  ·rintro w ⟨z1,z2,z3,z4,z5,z6,z7⟩
   unfold rq13
   go_simp
  simp only[rq13d,Act.put,lsA,lsZ,lsS]
  cases q2:decide ((mm:Int)<(blocks:Int))
  ·refine tki hQP hS 14 rq14 (.bool false) ?_ ?_
   ·rintro w ⟨z1,z2,z3,z4,z5,z6,z7⟩
    unfold rq14
    go_simp
    all_goals (have hq:=q2;simp at hq ⊢;first|omega|assumption|exact hq|grind)
   simp only[rq14d,Act.put,lsA,lsZ,lsS]
   refine tki hQP hS 15 rq15 (.bool false) ?_ ?_
   ·rintro w ⟨z1,z2,z3,z4,z5,z6,z7⟩
    unfold rq15
    go_simp
   simp only[rq15d,Act.put,lsA,lsZ,lsS]
   refine tki hQP hS 16 rq16 (.bool false) ?_ ?_
   ·rintro w ⟨z1,z2,z3,z4,z5,z6,z7⟩
    unfold rq16
    go_simp
   simp only[rq16d,Act.put,lsA,lsZ,lsS]
   refine tki hQP hS 17 rq17 (.slice (some ⟨g,0,none⟩) 4 4) ?_ ?_
   ·rintro w ⟨z1,z2,z3,z4,z5,z6,z7⟩
    unfold rq17
    go_simp
   simp only[rq17d,Act.put,lsA,lsZ,lsS]
   refine tki hQP hS 18 rq18 (.pointer (some ⟨g,0,none⟩)) ?_ ?_
   ·rintro w ⟨z1,z2,z3,z4,z5,z6,z7⟩
    unfold rq18
    go_simp
   simp only[rq18d,Act.put,lsA,lsZ,lsS]
   refine tki hQP hS 19 rq19 (.bool fm) ?_ ?_
   ·rintro w ⟨z1,z2,z3,z4,z5,z6,z7⟩
    unfold rq19
    go_simp
   simp only[rq19d,Act.put,lsA,lsZ,lsS]
   refine tki hQP hS 20 rq20 (.pointer (some ⟨p,1,none⟩)) ?_ ?_
   ·rintro w ⟨z1,z2,z3,z4,z5,z6,z7⟩
    unfold rq20
    go_simp
   simp only[rq20d,Act.put,lsA,lsZ,lsS]
   refine tki hQP hS 21 rq21 (.string mon) ?_ ?_
   ·rintro w ⟨z1,z2,z3,z4,z5,z6,z7⟩
    unfold rq21
    go_simp
   simp only[rq21d,Act.put,lsA,lsZ,lsS]
   refine tki hQP hS 22 rq22 (.bool (!mon.toList.isEmpty)) ?_ ?_
   ·rintro w ⟨z1,z2,z3,z4,z5,z6,z7⟩
    unfold rq22
    go_simp
   simp only[rq22d,Act.put,lsA,lsZ,lsS]
   cases q3:(fm != !mon.toList.isEmpty)
   ·refine tki hQP hS 23 rq23 (.bool false) ?_ ?_
    ·rintro w ⟨z1,z2,z3,z4,z5,z6,z7⟩
     unfold rq23
     go_simp
     all_goals (have hq:=q3;simp at hq ⊢;first|omega|assumption|exact hq|grind)
    simp only[rq23d,Act.put,lsA,lsZ,lsS]
    refine tki hQP hS 24 rq24 (.bool false) ?_ ?_
    ·rintro w ⟨z1,z2,z3,z4,z5,z6,z7⟩
     unfold rq24
     go_simp
    simp only[rq24d,Act.put,lsA,lsZ,lsS]
    refine tki hQP hS 25 rq25 (.bool false) ?_ ?_
    ·rintro w ⟨z1,z2,z3,z4,z5,z6,z7⟩
     unfold rq25
     go_simp
    simp only[rq25d,Act.put,lsA,lsZ,lsS]
    refine tki hQP hS 26 rq26 (.slice (some ⟨g,0,none⟩) 4 4) ?_ ?_
    ·rintro w ⟨z1,z2,z3,z4,z5,z6,z7⟩
     unfold rq26
     go_simp
    simp only[rq26d,Act.put,lsA,lsZ,lsS]
    refine tki hQP hS 27 rq27 (.pointer (some ⟨g,1,none⟩)) ?_ ?_
    ·rintro w ⟨z1,z2,z3,z4,z5,z6,z7⟩
     unfold rq27
     go_simp
    simp only[rq27d,Act.put,lsA,lsZ,lsS]
    refine tki hQP hS 28 rq28 (.bool fn) ?_ ?_
    ·rintro w ⟨z1,z2,z3,z4,z5,z6,z7⟩
     unfold rq28
     go_simp
    simp only[rq28d,Act.put,lsA,lsZ,lsS]
    refine tki hQP hS 29 rq29 (.pointer (some ⟨p,2,none⟩)) ?_ ?_
    ·rintro w ⟨z1,z2,z3,z4,z5,z6,z7⟩
     unfold rq29
     go_simp
    simp only[rq29d,Act.put,lsA,lsZ,lsS]
    refine tki hQP hS 30 rq30 (.string name) ?_ ?_
    ·rintro w ⟨z1,z2,z3,z4,z5,z6,z7⟩
     unfold rq30
     go_simp
    simp only[rq30d,Act.put,lsA,lsZ,lsS]
    refine tki hQP hS 31 rq31 (.bool (!name.toList.isEmpty)) ?_ ?_
    ·rintro w ⟨z1,z2,z3,z4,z5,z6,z7⟩
     unfold rq31
     go_simp
    simp only[rq31d,Act.put,lsA,lsZ,lsS]
    cases q4:(fn != !name.toList.isEmpty)
    ·refine tki hQP hS 32 rq32 (.bool false) ?_ ?_
     ·rintro w ⟨z1,z2,z3,z4,z5,z6,z7⟩
      unfold rq32
      go_simp
      all_goals (have hq:=q4;simp at hq ⊢;first|omega|assumption|exact hq|grind)
     simp only[rq32d,Act.put,lsA,lsZ,lsS]
     refine tki hQP hS 33 rq33 (.bool false) ?_ ?_
     ·rintro w ⟨z1,z2,z3,z4,z5,z6,z7⟩
      unfold rq33
      go_simp
     simp only[rq33d,Act.put,lsA,lsZ,lsS]
     refine tki hQP hS 34 rq34 (.bool false) ?_ ?_
     ·rintro w ⟨z1,z2,z3,z4,z5,z6,z7⟩
      unfold rq34
      go_simp
     simp only[rq34d,Act.put,lsA,lsZ,lsS]
     refine tki hQP hS 35 rq35 (.slice (some ⟨g,0,none⟩) 4 4) ?_ ?_
     ·rintro w ⟨z1,z2,z3,z4,z5,z6,z7⟩
      unfold rq35
      go_simp
     simp only[rq35d,Act.put,lsA,lsZ,lsS]
     refine tki hQP hS 36 rq36 (.pointer (some ⟨g,0,none⟩)) ?_ ?_
     ·rintro w ⟨z1,z2,z3,z4,z5,z6,z7⟩
      unfold rq36
      go_simp
     simp only[rq36d,Act.put,lsA,lsZ,lsS]
     cases fm
     ·refine tki hQP hS 37 rq37 (.bool false) ?_ ?_
      ·rintro w ⟨z1,z2,z3,z4,z5,z6,z7⟩
       unfold rq37
       go_simp
      simp only[rq37d,Act.put,lsA,lsZ,lsS]
      refine tki hQP hS 38 rq38 (.bool false) ?_ ?_
      ·rintro w ⟨z1,z2,z3,z4,z5,z6,z7⟩
       unfold rq38
       go_simp
      simp only[rq38d,Act.put,lsA,lsZ,lsS]
      refine tku hQP hS 39 rq39 ?_
      simp only[rq39d,Act.put,lsA,lsZ,lsS]
      refine tku hQP hS 40 rq40 ?_
      simp only[rq40d,Act.put,lsA,lsZ,lsS]
      refine tku hQP hS 41 rq41 ?_
      simp only[rq41d,Act.put,lsA,lsZ,lsS]
      refine tku hQP hS 42 rq42 ?_
      simp only[rq42d,Act.put,lsA,lsZ,lsS]
      refine tki hQP hS 43 rq43 (.bool false) ?_ ?_
      ·rintro w ⟨z1,z2,z3,z4,z5,z6,z7⟩
       unfold rq43
       go_simp
      simp only[rq43d,Act.put,lsA,lsZ,lsS]
      refine tki hQP hS 44 rq44 (.bool false) ?_ ?_
      ·rintro w ⟨z1,z2,z3,z4,z5,z6,z7⟩
       unfold rq44
       go_simp
      simp only[rq44d,Act.put,lsA,lsZ,lsS]
      refine tki hQP hS 45 rq45 (.bool false) ?_ ?_
      ·rintro w ⟨z1,z2,z3,z4,z5,z6,z7⟩
       unfold rq45
       go_simp
      simp only[rq45d,Act.put,lsA,lsZ,lsS]
      refine tki hQP hS 46 rq46 (.slice (some ⟨g,0,none⟩) 4 4) ?_ ?_
      ·rintro w ⟨z1,z2,z3,z4,z5,z6,z7⟩
       unfold rq46
       go_simp
      simp only[rq46d,Act.put,lsA,lsZ,lsS]
      refine tki hQP hS 47 rq47 (.pointer (some ⟨g,1,none⟩)) ?_ ?_
      ·rintro w ⟨z1,z2,z3,z4,z5,z6,z7⟩
       unfold rq47
       go_simp
      simp only[rq47d,Act.put,lsA,lsZ,lsS]
      cases fn
      ·refine tki hQP hS 48 rq48 (.bool false) ?_ ?_
       ·rintro w ⟨z1,z2,z3,z4,z5,z6,z7⟩
        unfold rq48
        go_simp
       simp only[rq48d,Act.put,lsA,lsZ,lsS]
       refine tki hQP hS 49 rq49 (.bool false) ?_ ?_
       ·rintro w ⟨z1,z2,z3,z4,z5,z6,z7⟩
        unfold rq49
        go_simp
       simp only[rq49d,Act.put,lsA,lsZ,lsS]
       refine tku hQP hS 50 rq50 ?_
       simp only[rq50d,Act.put,lsA,lsZ,lsS]
       refine tku hQP hS 51 rq51 ?_
       simp only[rq51d,Act.put,lsA,lsZ,lsS]
       refine tku hQP hS 52 rq52 ?_
       simp only[rq52d,Act.put,lsA,lsZ,lsS]
       refine tku hQP hS 53 rq53 ?_
       simp only[rq53d,Act.put,lsA,lsZ,lsS]
       refine tki hQP hS 54 rq54 (.bool false) ?_ ?_
       ·rintro w ⟨z1,z2,z3,z4,z5,z6,z7⟩
        unfold rq54
        go_simp
       simp only[rq54d,Act.put,lsA,lsZ,lsS]
       refine tki hQP hS 55 rq55 (.bool false) ?_ ?_
       ·rintro w ⟨z1,z2,z3,z4,z5,z6,z7⟩
        unfold rq55
        go_simp
       simp only[rq55d,Act.put,lsA,lsZ,lsS]
       refine tki hQP hS 56 rq56 (.bool false) ?_ ?_
       ·rintro w ⟨z1,z2,z3,z4,z5,z6,z7⟩
        unfold rq56
        go_simp
       simp only[rq56d,Act.put,lsA,lsZ,lsS]
       refine tki hQP hS 57 rq57 (.pointer (some ⟨p,3,none⟩)) ?_ ?_
       ·rintro w ⟨z1,z2,z3,z4,z5,z6,z7⟩
        unfold rq57
        go_simp
       simp only[rq57d,Act.put,lsA,lsZ,lsS]
       refine tki hQP hS 58 rq58 (.int .i64 n) ?_ ?_
       ·rintro w ⟨z1,z2,z3,z4,z5,z6,z7⟩
        unfold rq58
        go_simp
       simp only[rq58d,Act.put,lsA,lsZ,lsS]
       cases q7:decide (n<0)
       ·refine tki hQP hS 59 rq59 (.bool false) ?_ ?_
        ·rintro w ⟨z1,z2,z3,z4,z5,z6,z7⟩
         unfold rq59
         go_simp
         all_goals (have hq:=q7;simp at hq ⊢;first|omega|assumption|exact hq|grind)
        simp only[rq59d,Act.put,lsA,lsZ,lsS]
        refine tki hQP hS 60 rq60 (.bool false) ?_ ?_
        ·rintro w ⟨z1,z2,z3,z4,z5,z6,z7⟩
         unfold rq60
         go_simp
        simp only[rq60d,Act.put,lsA,lsZ,lsS]
        refine tki hQP hS 61 rq61 (.bool false) ?_ ?_
        ·rintro w ⟨z1,z2,z3,z4,z5,z6,z7⟩
         unfold rq61
         go_simp
        simp only[rq61d,Act.put,lsA,lsZ,lsS]
        refine tki hQP hS 62 rq62 (.slice (some ⟨g,0,none⟩) 4 4) ?_ ?_
        ·rintro w ⟨z1,z2,z3,z4,z5,z6,z7⟩
         unfold rq62
         go_simp
        simp only[rq62d,Act.put,lsA,lsZ,lsS]
        refine tki hQP hS 63 rq63 (.pointer (some ⟨g,2,none⟩)) ?_ ?_
        ·rintro w ⟨z1,z2,z3,z4,z5,z6,z7⟩
         unfold rq63
         go_simp
        simp only[rq63d,Act.put,lsA,lsZ,lsS]
        cases fu
        ·refine tki hQP hS 64 rq64 (.bool false) ?_ ?_
         ·rintro w ⟨z1,z2,z3,z4,z5,z6,z7⟩
          unfold rq64
          go_simp
         simp only[rq64d,Act.put,lsA,lsZ,lsS]
         refine tki hQP hS 65 rq65 (.bool true) ?_ ?_
         ·rintro w ⟨z1,z2,z3,z4,z5,z6,z7⟩
          unfold rq65
          go_simp
         simp only[rq65d,Act.put,lsA,lsZ,lsS]
         refine tki hQP hS 66 rq66 (.bool true) ?_ ?_
         ·rintro w ⟨z1,z2,z3,z4,z5,z6,z7⟩
          unfold rq66
          go_simp
         simp only[rq66d,Act.put,lsA,lsZ,lsS]
         refine tki hQP hS 67 rq67 (.pointer (some ⟨p,3,none⟩)) ?_ ?_
         ·rintro w ⟨z1,z2,z3,z4,z5,z6,z7⟩
          unfold rq67
          go_simp
         simp only[rq67d,Act.put,lsA,lsZ,lsS]
         refine tki hQP hS 68 rq68 (.int .i64 n) ?_ ?_
         ·rintro w ⟨z1,z2,z3,z4,z5,z6,z7⟩
          unfold rq68
          go_simp
         simp only[rq68d,Act.put,lsA,lsZ,lsS]
         cases q8:(n != 0)
         ·refine tki hQP hS 69 rq69 (.bool false) ?_ ?_
          ·rintro w ⟨z1,z2,z3,z4,z5,z6,z7⟩
           unfold rq69
           go_simp
           all_goals (have hq:=q8;simp at hq ⊢;first|omega|assumption|exact hq|grind)
          simp only[rq69d,Act.put,lsA,lsZ,lsS]
          refine tki hQP hS 70 rq70 (.bool false) ?_ ?_
          ·rintro w ⟨z1,z2,z3,z4,z5,z6,z7⟩
           unfold rq70
           go_simp
          simp only[rq70d,Act.put,lsA,lsZ,lsS]
          refine tki hQP hS 71 rq71 (.bool false) ?_ ?_
          ·rintro w ⟨z1,z2,z3,z4,z5,z6,z7⟩
           unfold rq71
           go_simp
          simp only[rq71d,Act.put,lsA,lsZ,lsS]
          exact wpAnyH_done (by kernel_rfl) (hQ _ _ _ _ _ _ _ _ _ _ _ _ _ _ _ _ _ _ _ _ _ _ _ _ _ _ _ _ _ _ _ _ _ _ _ _ _ _ _ _ _ _ _ _ _ _ _ _ _ _ _ _ _ _ _ _ _ _ _ _ _ _ _ _ _ _ _ _ _ _ _ _ _ (by first|rfl|(simp only[q1,q2,q3,q4,q7,q8];rfl)|simp[q1,q2,q3,q4,q7,q8]) B) _
         ·refine tki hQP hS 69 rq69 (.bool true) ?_ ?_
          ·rintro w ⟨z1,z2,z3,z4,z5,z6,z7⟩
           unfold rq69
           go_simp
           all_goals (have hq:=q8;simp at hq ⊢;first|omega|assumption|exact hq|grind)
          simp only[rq69d,Act.put,lsA,lsZ,lsS]
          refine tki hQP hS 70 rq70 (.bool true) ?_ ?_
          ·rintro w ⟨z1,z2,z3,z4,z5,z6,z7⟩
           unfold rq70
           go_simp
          simp only[rq70d,Act.put,lsA,lsZ,lsS]
          refine tki hQP hS 71 rq71 (.bool true) ?_ ?_
          ·rintro w ⟨z1,z2,z3,z4,z5,z6,z7⟩
           unfold rq71
           go_simp
          simp only[rq71d,Act.put,lsA,lsZ,lsS]
          exact wpAnyH_done (by kernel_rfl) (hQ _ _ _ _ _ _ _ _ _ _ _ _ _ _ _ _ _ _ _ _ _ _ _ _ _ _ _ _ _ _ _ _ _ _ _ _ _ _ _ _ _ _ _ _ _ _ _ _ _ _ _ _ _ _ _ _ _ _ _ _ _ _ _ _ _ _ _ _ _ _ _ _ _ (by first|rfl|(simp only[q1,q2,q3,q4,q7,q8];rfl)|simp[q1,q2,q3,q4,q7,q8]) B) _
        ·refine tki hQP hS 64 rq64 (.bool true) ?_ ?_
         ·rintro w ⟨z1,z2,z3,z4,z5,z6,z7⟩
          unfold rq64
          go_simp
         simp only[rq64d,Act.put,lsA,lsZ,lsS]
         refine tki hQP hS 65 rq65 (.bool false) ?_ ?_
         ·rintro w ⟨z1,z2,z3,z4,z5,z6,z7⟩
          unfold rq65
          go_simp
         simp only[rq65d,Act.put,lsA,lsZ,lsS]
         refine tki hQP hS 66 rq66 (.bool false) ?_ ?_
         ·rintro w ⟨z1,z2,z3,z4,z5,z6,z7⟩
          unfold rq66
          go_simp
         simp only[rq66d,Act.put,lsA,lsZ,lsS]
         refine tku hQP hS 67 rq67 ?_
         simp only[rq67d,Act.put,lsA,lsZ,lsS]
         refine tku hQP hS 68 rq68 ?_
         simp only[rq68d,Act.put,lsA,lsZ,lsS]
         refine tku hQP hS 69 rq69 ?_
         simp only[rq69d,Act.put,lsA,lsZ,lsS]
         refine tki hQP hS 70 rq70 (.bool false) ?_ ?_
         ·rintro w ⟨z1,z2,z3,z4,z5,z6,z7⟩
          unfold rq70
          go_simp
         simp only[rq70d,Act.put,lsA,lsZ,lsS]
         refine tki hQP hS 71 rq71 (.bool false) ?_ ?_
         ·rintro w ⟨z1,z2,z3,z4,z5,z6,z7⟩
          unfold rq71
          go_simp
         simp only[rq71d,Act.put,lsA,lsZ,lsS]
         exact wpAnyH_done (by kernel_rfl) (hQ _ _ _ _ _ _ _ _ _ _ _ _ _ _ _ _ _ _ _ _ _ _ _ _ _ _ _ _ _ _ _ _ _ _ _ _ _ _ _ _ _ _ _ _ _ _ _ _ _ _ _ _ _ _ _ _ _ _ _ _ _ _ _ _ _ _ _ _ _ _ _ _ _ (by first|rfl|(simp only[q1,q2,q3,q4,q7];rfl)|simp[q1,q2,q3,q4,q7]) B) _
       ·refine tki hQP hS 59 rq59 (.bool true) ?_ ?_
        ·rintro w ⟨z1,z2,z3,z4,z5,z6,z7⟩
         unfold rq59
         go_simp
         all_goals (have hq:=q7;simp at hq ⊢;first|omega|assumption|exact hq|grind)
        simp only[rq59d,Act.put,lsA,lsZ,lsS]
        refine tki hQP hS 60 rq60 (.bool true) ?_ ?_
        ·rintro w ⟨z1,z2,z3,z4,z5,z6,z7⟩
         unfold rq60
         go_simp
        simp only[rq60d,Act.put,lsA,lsZ,lsS]
        refine tki hQP hS 61 rq61 (.bool true) ?_ ?_
        ·rintro w ⟨z1,z2,z3,z4,z5,z6,z7⟩
         unfold rq61
         go_simp
        simp only[rq61d,Act.put,lsA,lsZ,lsS]
        refine tku hQP hS 62 rq62 ?_
        simp only[rq62d,Act.put,lsA,lsZ,lsS]
        refine tku hQP hS 63 rq63 ?_
        simp only[rq63d,Act.put,lsA,lsZ,lsS]
        refine tku hQP hS 64 rq64 ?_
        simp only[rq64d,Act.put,lsA,lsZ,lsS]
        refine tku hQP hS 65 rq65 ?_
        simp only[rq65d,Act.put,lsA,lsZ,lsS]
        refine tku hQP hS 66 rq66 ?_
        simp only[rq66d,Act.put,lsA,lsZ,lsS]
        refine tku hQP hS 67 rq67 ?_
        simp only[rq67d,Act.put,lsA,lsZ,lsS]
        refine tku hQP hS 68 rq68 ?_
        simp only[rq68d,Act.put,lsA,lsZ,lsS]
        refine tku hQP hS 69 rq69 ?_
        simp only[rq69d,Act.put,lsA,lsZ,lsS]
        refine tku hQP hS 70 rq70 ?_
        simp only[rq70d,Act.put,lsA,lsZ,lsS]
        refine tki hQP hS 71 rq71 (.bool true) ?_ ?_
        ·rintro w ⟨z1,z2,z3,z4,z5,z6,z7⟩
         unfold rq71
         go_simp
        simp only[rq71d,Act.put,lsA,lsZ,lsS]
        exact wpAnyH_done (by kernel_rfl) (hQ _ _ _ _ _ _ _ _ _ _ _ _ _ _ _ _ _ _ _ _ _ _ _ _ _ _ _ _ _ _ _ _ _ _ _ _ _ _ _ _ _ _ _ _ _ _ _ _ _ _ _ _ _ _ _ _ _ _ _ _ _ _ _ _ _ _ _ _ _ _ _ _ _ (by first|rfl|(simp only[q1,q2,q3,q4,q7];rfl)|simp[q1,q2,q3,q4,q7]) B) _
      ·refine tki hQP hS 48 rq48 (.bool true) ?_ ?_
       ·rintro w ⟨z1,z2,z3,z4,z5,z6,z7⟩
        unfold rq48
        go_simp
       simp only[rq48d,Act.put,lsA,lsZ,lsS]
       refine tki hQP hS 49 rq49 (.bool true) ?_ ?_
       ·rintro w ⟨z1,z2,z3,z4,z5,z6,z7⟩
        unfold rq49
        go_simp
       simp only[rq49d,Act.put,lsA,lsZ,lsS]
       refine tki hQP hS 50 rq50 (.pointer (some ⟨p,2,none⟩)) ?_ ?_
       ·rintro w ⟨z1,z2,z3,z4,z5,z6,z7⟩
        unfold rq50
        go_simp
       simp only[rq50d,Act.put,lsA,lsZ,lsS]
       refine tki hQP hS 51 rq51 (.string name) ?_ ?_
       ·rintro w ⟨z1,z2,z3,z4,z5,z6,z7⟩
        unfold rq51
        go_simp
       simp only[rq51d,Act.put,lsA,lsZ,lsS]
       cases qn:Lx.name name
       ·refine wpAnyH_ready (rs:=[52]) (by kernel_rfl) (by simp) ?_
        refine AllReadyH.cons (o:=rq52) rfl (fun K hK=>?_) AllReadyH.nil
        rw[if_pos (show Region.wanted _ _=true from rfl)]
        obtain⟨z1,z2,z3,z4,z5,z6,z7⟩:=hS
        unfold rq52
        go_wp2_with (go_at_call 52;refine (refName_any _ _ hsn).mono ?_;rintro r w1 ⟨rfl,bb⟩;have B:=B.tr le_rfl' bb)
        refine hK.out _ _ (hkeep _ B) (fun hS=>?_)
        simp only[List.setIfInBounds_toArray,List.set_cons_zero,List.set_cons_succ]
        refine tki hQP hS 53 rq53 (.bool true) ?_ ?_
        ·rintro w ⟨z1,z2,z3,z4,z5,z6,z7⟩
         unfold rq53
         go_simp
        simp only[rq53d,Act.put,lsA,lsZ,lsS]
        refine tki hQP hS 54 rq54 (.bool true) ?_ ?_
        ·rintro w ⟨z1,z2,z3,z4,z5,z6,z7⟩
         unfold rq54
         go_simp
        simp only[rq54d,Act.put,lsA,lsZ,lsS]
        refine tki hQP hS 55 rq55 (.bool true) ?_ ?_
        ·rintro w ⟨z1,z2,z3,z4,z5,z6,z7⟩
         unfold rq55
         go_simp
        simp only[rq55d,Act.put,lsA,lsZ,lsS]
        refine tki hQP hS 56 rq56 (.bool true) ?_ ?_
        ·rintro w ⟨z1,z2,z3,z4,z5,z6,z7⟩
         unfold rq56
         go_simp
        simp only[rq56d,Act.put,lsA,lsZ,lsS]
        refine tku hQP hS 57 rq57 ?_
        simp only[rq57d,Act.put,lsA,lsZ,lsS]
        refine tku hQP hS 58 rq58 ?_
        simp only[rq58d,Act.put,lsA,lsZ,lsS]
        refine tku hQP hS 59 rq59 ?_
        simp only[rq59d,Act.put,lsA,lsZ,lsS]
        refine tki hQP hS 60 rq60 (.bool true) ?_ ?_
        ·rintro w ⟨z1,z2,z3,z4,z5,z6,z7⟩
         unfold rq60
         go_simp
        simp only[rq60d,Act.put,lsA,lsZ,lsS]
        refine tki hQP hS 61 rq61 (.bool true) ?_ ?_
        ·rintro w ⟨z1,z2,z3,z4,z5,z6,z7⟩
         unfold rq61
         go_simp
        simp only[rq61d,Act.put,lsA,lsZ,lsS]
        refine tku hQP hS 62 rq62 ?_
        simp only[rq62d,Act.put,lsA,lsZ,lsS]
        refine tku hQP hS 63 rq63 ?_
        simp only[rq63d,Act.put,lsA,lsZ,lsS]
        refine tku hQP hS 64 rq64 ?_
        simp only[rq64d,Act.put,lsA,lsZ,lsS]
        refine tku hQP hS 65 rq65 ?_
        simp only[rq65d,Act.put,lsA,lsZ,lsS]
        refine tku hQP hS 66 rq66 ?_
        simp only[rq66d,Act.put,lsA,lsZ,lsS]
        refine tku hQP hS 67 rq67 ?_
        simp only[rq67d,Act.put,lsA,lsZ,lsS]
        refine tku hQP hS 68 rq68 ?_
        simp only[rq68d,Act.put,lsA,lsZ,lsS]
        refine tku hQP hS 69 rq69 ?_
        simp only[rq69d,Act.put,lsA,lsZ,lsS]
        refine tku hQP hS 70 rq70 ?_
        simp only[rq70d,Act.put,lsA,lsZ,lsS]
        refine tki hQP hS 71 rq71 (.bool true) ?_ ?_
        ·rintro w ⟨z1,z2,z3,z4,z5,z6,z7⟩
         unfold rq71
         go_simp
        simp only[rq71d,Act.put,lsA,lsZ,lsS]
        exact wpAnyH_done (by kernel_rfl) (hQ _ _ _ _ _ _ _ _ _ _ _ _ _ _ _ _ _ _ _ _ _ _ _ _ _ _ _ _ _ _ _ _ _ _ _ _ _ _ _ _ _ _ _ _ _ _ _ _ _ _ _ _ _ _ _ _ _ _ _ _ _ _ _ _ _ _ _ _ _ _ _ _ _ (by first|rfl|(simp only[q1,q2,q3,q4,qn];rfl)|simp[q1,q2,q3,q4,qn]) B) _
       ·refine wpAnyH_ready (rs:=[52]) (by kernel_rfl) (by simp) ?_
        refine AllReadyH.cons (o:=rq52) rfl (fun K hK=>?_) AllReadyH.nil
        rw[if_pos (show Region.wanted _ _=true from rfl)]
        obtain⟨z1,z2,z3,z4,z5,z6,z7⟩:=hS
        unfold rq52
        go_wp2_with (go_at_call 52;refine (refName_any _ _ hsn).mono ?_;rintro r w2 ⟨rfl,bb⟩;have B:=B.tr le_rfl' bb)
        refine hK.out _ _ (hkeep _ B) (fun hS=>?_)
        simp only[List.setIfInBounds_toArray,List.set_cons_zero,List.set_cons_succ]
        refine tki hQP hS 53 rq53 (.bool false) ?_ ?_
        ·rintro w ⟨z1,z2,z3,z4,z5,z6,z7⟩
         unfold rq53
         go_simp
        simp only[rq53d,Act.put,lsA,lsZ,lsS]
        refine tki hQP hS 54 rq54 (.bool false) ?_ ?_
        ·rintro w ⟨z1,z2,z3,z4,z5,z6,z7⟩
         unfold rq54
         go_simp
        simp only[rq54d,Act.put,lsA,lsZ,lsS]
        refine tki hQP hS 55 rq55 (.bool false) ?_ ?_
        ·rintro w ⟨z1,z2,z3,z4,z5,z6,z7⟩
         unfold rq55
         go_simp
        simp only[rq55d,Act.put,lsA,lsZ,lsS]
        refine tki hQP hS 56 rq56 (.bool false) ?_ ?_
        ·rintro w ⟨z1,z2,z3,z4,z5,z6,z7⟩
         unfold rq56
         go_simp
        simp only[rq56d,Act.put,lsA,lsZ,lsS]
        refine tki hQP hS 57 rq57 (.pointer (some ⟨p,3,none⟩)) ?_ ?_
        ·rintro w ⟨z1,z2,z3,z4,z5,z6,z7⟩
         unfold rq57
         go_simp
        simp only[rq57d,Act.put,lsA,lsZ,lsS]
        refine tki hQP hS 58 rq58 (.int .i64 n) ?_ ?_
        ·rintro w ⟨z1,z2,z3,z4,z5,z6,z7⟩
         unfold rq58
         go_simp
        simp only[rq58d,Act.put,lsA,lsZ,lsS]
        cases q7:decide (n<0)
        ·refine tki hQP hS 59 rq59 (.bool false) ?_ ?_
         ·rintro w ⟨z1,z2,z3,z4,z5,z6,z7⟩
          unfold rq59
          go_simp
          all_goals (have hq:=q7;simp at hq ⊢;first|omega|assumption|exact hq|grind)
         simp only[rq59d,Act.put,lsA,lsZ,lsS]
         refine tki hQP hS 60 rq60 (.bool false) ?_ ?_
         ·rintro w ⟨z1,z2,z3,z4,z5,z6,z7⟩
          unfold rq60
          go_simp
         simp only[rq60d,Act.put,lsA,lsZ,lsS]
         refine tki hQP hS 61 rq61 (.bool false) ?_ ?_
         ·rintro w ⟨z1,z2,z3,z4,z5,z6,z7⟩
          unfold rq61
          go_simp
         simp only[rq61d,Act.put,lsA,lsZ,lsS]
         refine tki hQP hS 62 rq62 (.slice (some ⟨g,0,none⟩) 4 4) ?_ ?_
         ·rintro w ⟨z1,z2,z3,z4,z5,z6,z7⟩
          unfold rq62
          go_simp
         simp only[rq62d,Act.put,lsA,lsZ,lsS]
         refine tki hQP hS 63 rq63 (.pointer (some ⟨g,2,none⟩)) ?_ ?_
         ·rintro w ⟨z1,z2,z3,z4,z5,z6,z7⟩
          unfold rq63
          go_simp
         simp only[rq63d,Act.put,lsA,lsZ,lsS]
         cases fu
         ·refine tki hQP hS 64 rq64 (.bool false) ?_ ?_
          ·rintro w ⟨z1,z2,z3,z4,z5,z6,z7⟩
           unfold rq64
           go_simp
          simp only[rq64d,Act.put,lsA,lsZ,lsS]
          refine tki hQP hS 65 rq65 (.bool true) ?_ ?_
          ·rintro w ⟨z1,z2,z3,z4,z5,z6,z7⟩
           unfold rq65
           go_simp
          simp only[rq65d,Act.put,lsA,lsZ,lsS]
          refine tki hQP hS 66 rq66 (.bool true) ?_ ?_
          ·rintro w ⟨z1,z2,z3,z4,z5,z6,z7⟩
           unfold rq66
           go_simp
          simp only[rq66d,Act.put,lsA,lsZ,lsS]
          refine tki hQP hS 67 rq67 (.pointer (some ⟨p,3,none⟩)) ?_ ?_
          ·rintro w ⟨z1,z2,z3,z4,z5,z6,z7⟩
           unfold rq67
           go_simp
          simp only[rq67d,Act.put,lsA,lsZ,lsS]
          refine tki hQP hS 68 rq68 (.int .i64 n) ?_ ?_
          ·rintro w ⟨z1,z2,z3,z4,z5,z6,z7⟩
           unfold rq68
           go_simp
          simp only[rq68d,Act.put,lsA,lsZ,lsS]
          cases q8:(n != 0)
          ·refine tki hQP hS 69 rq69 (.bool false) ?_ ?_
           ·rintro w ⟨z1,z2,z3,z4,z5,z6,z7⟩
            unfold rq69
            go_simp
            all_goals (have hq:=q8;simp at hq ⊢;first|omega|assumption|exact hq|grind)
           simp only[rq69d,Act.put,lsA,lsZ,lsS]
           refine tki hQP hS 70 rq70 (.bool false) ?_ ?_
           ·rintro w ⟨z1,z2,z3,z4,z5,z6,z7⟩
            unfold rq70
            go_simp
           simp only[rq70d,Act.put,lsA,lsZ,lsS]
           refine tki hQP hS 71 rq71 (.bool false) ?_ ?_
           ·rintro w ⟨z1,z2,z3,z4,z5,z6,z7⟩
            unfold rq71
            go_simp
           simp only[rq71d,Act.put,lsA,lsZ,lsS]
           exact wpAnyH_done (by kernel_rfl) (hQ _ _ _ _ _ _ _ _ _ _ _ _ _ _ _ _ _ _ _ _ _ _ _ _ _ _ _ _ _ _ _ _ _ _ _ _ _ _ _ _ _ _ _ _ _ _ _ _ _ _ _ _ _ _ _ _ _ _ _ _ _ _ _ _ _ _ _ _ _ _ _ _ _ (by first|rfl|(simp only[q1,q2,q3,q4,qn,q7,q8];rfl)|simp[q1,q2,q3,q4,qn,q7,q8]) B) _
          ·refine tki hQP hS 69 rq69 (.bool true) ?_ ?_
           ·rintro w ⟨z1,z2,z3,z4,z5,z6,z7⟩
            unfold rq69
            go_simp
            all_goals (have hq:=q8;simp at hq ⊢;first|omega|assumption|exact hq|grind)
           simp only[rq69d,Act.put,lsA,lsZ,lsS]
           refine tki hQP hS 70 rq70 (.bool true) ?_ ?_
           ·rintro w ⟨z1,z2,z3,z4,z5,z6,z7⟩
            unfold rq70
            go_simp
           simp only[rq70d,Act.put,lsA,lsZ,lsS]
           refine tki hQP hS 71 rq71 (.bool true) ?_ ?_
           ·rintro w ⟨z1,z2,z3,z4,z5,z6,z7⟩
            unfold rq71
            go_simp
           simp only[rq71d,Act.put,lsA,lsZ,lsS]
           exact wpAnyH_done (by kernel_rfl) (hQ _ _ _ _ _ _ _ _ _ _ _ _ _ _ _ _ _ _ _ _ _ _ _ _ _ _ _ _ _ _ _ _ _ _ _ _ _ _ _ _ _ _ _ _ _ _ _ _ _ _ _ _ _ _ _ _ _ _ _ _ _ _ _ _ _ _ _ _ _ _ _ _ _ (by first|rfl|(simp only[q1,q2,q3,q4,qn,q7,q8];rfl)|simp[q1,q2,q3,q4,qn,q7,q8]) B) _
         ·refine tki hQP hS 64 rq64 (.bool true) ?_ ?_
          ·rintro w ⟨z1,z2,z3,z4,z5,z6,z7⟩
           unfold rq64
           go_simp
          simp only[rq64d,Act.put,lsA,lsZ,lsS]
          refine tki hQP hS 65 rq65 (.bool false) ?_ ?_
          ·rintro w ⟨z1,z2,z3,z4,z5,z6,z7⟩
           unfold rq65
           go_simp
          simp only[rq65d,Act.put,lsA,lsZ,lsS]
          refine tki hQP hS 66 rq66 (.bool false) ?_ ?_
          ·rintro w ⟨z1,z2,z3,z4,z5,z6,z7⟩
           unfold rq66
           go_simp
          simp only[rq66d,Act.put,lsA,lsZ,lsS]
          refine tku hQP hS 67 rq67 ?_
          simp only[rq67d,Act.put,lsA,lsZ,lsS]
          refine tku hQP hS 68 rq68 ?_
          simp only[rq68d,Act.put,lsA,lsZ,lsS]
          refine tku hQP hS 69 rq69 ?_
          simp only[rq69d,Act.put,lsA,lsZ,lsS]
          refine tki hQP hS 70 rq70 (.bool false) ?_ ?_
          ·rintro w ⟨z1,z2,z3,z4,z5,z6,z7⟩
           unfold rq70
           go_simp
          simp only[rq70d,Act.put,lsA,lsZ,lsS]
          refine tki hQP hS 71 rq71 (.bool false) ?_ ?_
          ·rintro w ⟨z1,z2,z3,z4,z5,z6,z7⟩
           unfold rq71
           go_simp
          simp only[rq71d,Act.put,lsA,lsZ,lsS]
          exact wpAnyH_done (by kernel_rfl) (hQ _ _ _ _ _ _ _ _ _ _ _ _ _ _ _ _ _ _ _ _ _ _ _ _ _ _ _ _ _ _ _ _ _ _ _ _ _ _ _ _ _ _ _ _ _ _ _ _ _ _ _ _ _ _ _ _ _ _ _ _ _ _ _ _ _ _ _ _ _ _ _ _ _ (by first|rfl|(simp only[q1,q2,q3,q4,qn,q7];rfl)|simp[q1,q2,q3,q4,qn,q7]) B) _
        ·refine tki hQP hS 59 rq59 (.bool true) ?_ ?_
         ·rintro w ⟨z1,z2,z3,z4,z5,z6,z7⟩
          unfold rq59
          go_simp
          all_goals (have hq:=q7;simp at hq ⊢;first|omega|assumption|exact hq|grind)
         simp only[rq59d,Act.put,lsA,lsZ,lsS]
         refine tki hQP hS 60 rq60 (.bool true) ?_ ?_
         ·rintro w ⟨z1,z2,z3,z4,z5,z6,z7⟩
          unfold rq60
          go_simp
         simp only[rq60d,Act.put,lsA,lsZ,lsS]
         refine tki hQP hS 61 rq61 (.bool true) ?_ ?_
         ·rintro w ⟨z1,z2,z3,z4,z5,z6,z7⟩
          unfold rq61
          go_simp
         simp only[rq61d,Act.put,lsA,lsZ,lsS]
         refine tku hQP hS 62 rq62 ?_
         simp only[rq62d,Act.put,lsA,lsZ,lsS]
         refine tku hQP hS 63 rq63 ?_
         simp only[rq63d,Act.put,lsA,lsZ,lsS]
         refine tku hQP hS 64 rq64 ?_
         simp only[rq64d,Act.put,lsA,lsZ,lsS]
         refine tku hQP hS 65 rq65 ?_
         simp only[rq65d,Act.put,lsA,lsZ,lsS]
         refine tku hQP hS 66 rq66 ?_
         simp only[rq66d,Act.put,lsA,lsZ,lsS]
         refine tku hQP hS 67 rq67 ?_
         simp only[rq67d,Act.put,lsA,lsZ,lsS]
         refine tku hQP hS 68 rq68 ?_
         simp only[rq68d,Act.put,lsA,lsZ,lsS]
         refine tku hQP hS 69 rq69 ?_
         simp only[rq69d,Act.put,lsA,lsZ,lsS]
         refine tku hQP hS 70 rq70 ?_
         simp only[rq70d,Act.put,lsA,lsZ,lsS]
         refine tki hQP hS 71 rq71 (.bool true) ?_ ?_
         ·rintro w ⟨z1,z2,z3,z4,z5,z6,z7⟩
          unfold rq71
          go_simp
         simp only[rq71d,Act.put,lsA,lsZ,lsS]
         exact wpAnyH_done (by kernel_rfl) (hQ _ _ _ _ _ _ _ _ _ _ _ _ _ _ _ _ _ _ _ _ _ _ _ _ _ _ _ _ _ _ _ _ _ _ _ _ _ _ _ _ _ _ _ _ _ _ _ _ _ _ _ _ _ _ _ _ _ _ _ _ _ _ _ _ _ _ _ _ _ _ _ _ _ (by first|rfl|(simp only[q1,q2,q3,q4,qn,q7];rfl)|simp[q1,q2,q3,q4,qn,q7]) B) _
     ·refine tki hQP hS 37 rq37 (.bool true) ?_ ?_
      ·rintro w ⟨z1,z2,z3,z4,z5,z6,z7⟩
       unfold rq37
       go_simp
      simp only[rq37d,Act.put,lsA,lsZ,lsS]
      refine tki hQP hS 38 rq38 (.bool true) ?_ ?_
      ·rintro w ⟨z1,z2,z3,z4,z5,z6,z7⟩
       unfold rq38
       go_simp
      simp only[rq38d,Act.put,lsA,lsZ,lsS]
      refine tki hQP hS 39 rq39 (.pointer (some ⟨p,1,none⟩)) ?_ ?_
      ·rintro w ⟨z1,z2,z3,z4,z5,z6,z7⟩
       unfold rq39
       go_simp
      simp only[rq39d,Act.put,lsA,lsZ,lsS]
      refine tki hQP hS 40 rq40 (.string mon) ?_ ?_
      ·rintro w ⟨z1,z2,z3,z4,z5,z6,z7⟩
       unfold rq40
       go_simp
      simp only[rq40d,Act.put,lsA,lsZ,lsS]
      cases qm:Lx.name mon
      ·refine wpAnyH_ready (rs:=[41]) (by kernel_rfl) (by simp) ?_
       refine AllReadyH.cons (o:=rq41) rfl (fun K hK=>?_) AllReadyH.nil
       rw[if_pos (show Region.wanted _ _=true from rfl)]
       obtain⟨z1,z2,z3,z4,z5,z6,z7⟩:=hS
       unfold rq41
       go_wp2_with (go_at_call 52;refine (refName_any _ _ hsm).mono ?_;rintro r w3 ⟨rfl,bb⟩;have B:=B.tr le_rfl' bb)
       refine hK.out _ _ (hkeep _ B) (fun hS=>?_)
       simp only[List.setIfInBounds_toArray,List.set_cons_zero,List.set_cons_succ]
       refine tki hQP hS 42 rq42 (.bool true) ?_ ?_
       ·rintro w ⟨z1,z2,z3,z4,z5,z6,z7⟩
        unfold rq42
        go_simp
       simp only[rq42d,Act.put,lsA,lsZ,lsS]
       refine tki hQP hS 43 rq43 (.bool true) ?_ ?_
       ·rintro w ⟨z1,z2,z3,z4,z5,z6,z7⟩
        unfold rq43
        go_simp
       simp only[rq43d,Act.put,lsA,lsZ,lsS]
       refine tki hQP hS 44 rq44 (.bool true) ?_ ?_
       ·rintro w ⟨z1,z2,z3,z4,z5,z6,z7⟩
        unfold rq44
        go_simp
       simp only[rq44d,Act.put,lsA,lsZ,lsS]
       refine tki hQP hS 45 rq45 (.bool true) ?_ ?_
       ·rintro w ⟨z1,z2,z3,z4,z5,z6,z7⟩
        unfold rq45
        go_simp
       simp only[rq45d,Act.put,lsA,lsZ,lsS]
       refine tku hQP hS 46 rq46 ?_
       simp only[rq46d,Act.put,lsA,lsZ,lsS]
       refine tku hQP hS 47 rq47 ?_
       simp only[rq47d,Act.put,lsA,lsZ,lsS]
       refine tku hQP hS 48 rq48 ?_
       simp only[rq48d,Act.put,lsA,lsZ,lsS]
       refine tku hQP hS 49 rq49 ?_
       simp only[rq49d,Act.put,lsA,lsZ,lsS]
       refine tku hQP hS 50 rq50 ?_
       simp only[rq50d,Act.put,lsA,lsZ,lsS]
       refine tku hQP hS 51 rq51 ?_
       simp only[rq51d,Act.put,lsA,lsZ,lsS]
       refine tku hQP hS 52 rq52 ?_
       simp only[rq52d,Act.put,lsA,lsZ,lsS]
       refine tku hQP hS 53 rq53 ?_
       simp only[rq53d,Act.put,lsA,lsZ,lsS]
       refine tku hQP hS 54 rq54 ?_
       simp only[rq54d,Act.put,lsA,lsZ,lsS]
       refine tki hQP hS 55 rq55 (.bool true) ?_ ?_
       ·rintro w ⟨z1,z2,z3,z4,z5,z6,z7⟩
        unfold rq55
        go_simp
       simp only[rq55d,Act.put,lsA,lsZ,lsS]
       refine tki hQP hS 56 rq56 (.bool true) ?_ ?_
       ·rintro w ⟨z1,z2,z3,z4,z5,z6,z7⟩
        unfold rq56
        go_simp
       simp only[rq56d,Act.put,lsA,lsZ,lsS]
       refine tku hQP hS 57 rq57 ?_
       simp only[rq57d,Act.put,lsA,lsZ,lsS]
       refine tku hQP hS 58 rq58 ?_
       simp only[rq58d,Act.put,lsA,lsZ,lsS]
       refine tku hQP hS 59 rq59 ?_
       simp only[rq59d,Act.put,lsA,lsZ,lsS]
       refine tki hQP hS 60 rq60 (.bool true) ?_ ?_
       ·rintro w ⟨z1,z2,z3,z4,z5,z6,z7⟩
        unfold rq60
        go_simp
       simp only[rq60d,Act.put,lsA,lsZ,lsS]
       refine tki hQP hS 61 rq61 (.bool true) ?_ ?_
       ·rintro w ⟨z1,z2,z3,z4,z5,z6,z7⟩
        unfold rq61
        go_simp
       simp only[rq61d,Act.put,lsA,lsZ,lsS]
       refine tku hQP hS 62 rq62 ?_
       simp only[rq62d,Act.put,lsA,lsZ,lsS]
       refine tku hQP hS 63 rq63 ?_
       simp only[rq63d,Act.put,lsA,lsZ,lsS]
       refine tku hQP hS 64 rq64 ?_
       simp only[rq64d,Act.put,lsA,lsZ,lsS]
       refine tku hQP hS 65 rq65 ?_
       simp only[rq65d,Act.put,lsA,lsZ,lsS]
       refine tku hQP hS 66 rq66 ?_
       simp only[rq66d,Act.put,lsA,lsZ,lsS]
       refine tku hQP hS 67 rq67 ?_
       simp only[rq67d,Act.put,lsA,lsZ,lsS]
       refine tku hQP hS 68 rq68 ?_
       simp only[rq68d,Act.put,lsA,lsZ,lsS]
       refine tku hQP hS 69 rq69 ?_
       simp only[rq69d,Act.put,lsA,lsZ,lsS]
       refine tku hQP hS 70 rq70 ?_
       simp only[rq70d,Act.put,lsA,lsZ,lsS]
       refine tki hQP hS 71 rq71 (.bool true) ?_ ?_
       ·rintro w ⟨z1,z2,z3,z4,z5,z6,z7⟩
        unfold rq71
        go_simp
       simp only[rq71d,Act.put,lsA,lsZ,lsS]
       exact wpAnyH_done (by kernel_rfl) (hQ _ _ _ _ _ _ _ _ _ _ _ _ _ _ _ _ _ _ _ _ _ _ _ _ _ _ _ _ _ _ _ _ _ _ _ _ _ _ _ _ _ _ _ _ _ _ _ _ _ _ _ _ _ _ _ _ _ _ _ _ _ _ _ _ _ _ _ _ _ _ _ _ _ (by first|rfl|(simp only[q1,q2,q3,q4,qm];rfl)|simp[q1,q2,q3,q4,qm]) B) _
      ·refine wpAnyH_ready (rs:=[41]) (by kernel_rfl) (by simp) ?_
       refine AllReadyH.cons (o:=rq41) rfl (fun K hK=>?_) AllReadyH.nil
       rw[if_pos (show Region.wanted _ _=true from rfl)]
       obtain⟨z1,z2,z3,z4,z5,z6,z7⟩:=hS
       unfold rq41
       go_wp2_with (go_at_call 52;refine (refName_any _ _ hsm).mono ?_;rintro r w4 ⟨rfl,bb⟩;have B:=B.tr le_rfl' bb)
       refine hK.out _ _ (hkeep _ B) (fun hS=>?_)
       simp only[List.setIfInBounds_toArray,List.set_cons_zero,List.set_cons_succ]
       refine tki hQP hS 42 rq42 (.bool false) ?_ ?_
       ·rintro w ⟨z1,z2,z3,z4,z5,z6,z7⟩
        unfold rq42
        go_simp
       simp only[rq42d,Act.put,lsA,lsZ,lsS]
       refine tki hQP hS 43 rq43 (.bool false) ?_ ?_
       ·rintro w ⟨z1,z2,z3,z4,z5,z6,z7⟩
        unfold rq43
        go_simp
       simp only[rq43d,Act.put,lsA,lsZ,lsS]
       refine tki hQP hS 44 rq44 (.bool false) ?_ ?_
       ·rintro w ⟨z1,z2,z3,z4,z5,z6,z7⟩
        unfold rq44
        go_simp
       simp only[rq44d,Act.put,lsA,lsZ,lsS]
       refine tki hQP hS 45 rq45 (.bool false) ?_ ?_
       ·rintro w ⟨z1,z2,z3,z4,z5,z6,z7⟩
        unfold rq45
        go_simp
       simp only[rq45d,Act.put,lsA,lsZ,lsS]
       refine tki hQP hS 46 rq46 (.slice (some ⟨g,0,none⟩) 4 4) ?_ ?_
       ·rintro w ⟨z1,z2,z3,z4,z5,z6,z7⟩
        unfold rq46
        go_simp
       simp only[rq46d,Act.put,lsA,lsZ,lsS]
       refine tki hQP hS 47 rq47 (.pointer (some ⟨g,1,none⟩)) ?_ ?_
       ·rintro w ⟨z1,z2,z3,z4,z5,z6,z7⟩
        unfold rq47
        go_simp
       simp only[rq47d,Act.put,lsA,lsZ,lsS]
       cases fn
       ·refine tki hQP hS 48 rq48 (.bool false) ?_ ?_
        ·rintro w ⟨z1,z2,z3,z4,z5,z6,z7⟩
         unfold rq48
         go_simp
        simp only[rq48d,Act.put,lsA,lsZ,lsS]
        refine tki hQP hS 49 rq49 (.bool false) ?_ ?_
        ·rintro w ⟨z1,z2,z3,z4,z5,z6,z7⟩
         unfold rq49
         go_simp
        simp only[rq49d,Act.put,lsA,lsZ,lsS]
        refine tku hQP hS 50 rq50 ?_
        simp only[rq50d,Act.put,lsA,lsZ,lsS]
        refine tku hQP hS 51 rq51 ?_
        simp only[rq51d,Act.put,lsA,lsZ,lsS]
        refine tku hQP hS 52 rq52 ?_
        simp only[rq52d,Act.put,lsA,lsZ,lsS]
        refine tku hQP hS 53 rq53 ?_
        simp only[rq53d,Act.put,lsA,lsZ,lsS]
        refine tki hQP hS 54 rq54 (.bool false) ?_ ?_
        ·rintro w ⟨z1,z2,z3,z4,z5,z6,z7⟩
         unfold rq54
         go_simp
        simp only[rq54d,Act.put,lsA,lsZ,lsS]
        refine tki hQP hS 55 rq55 (.bool false) ?_ ?_
        ·rintro w ⟨z1,z2,z3,z4,z5,z6,z7⟩
         unfold rq55
         go_simp
        simp only[rq55d,Act.put,lsA,lsZ,lsS]
        refine tki hQP hS 56 rq56 (.bool false) ?_ ?_
        ·rintro w ⟨z1,z2,z3,z4,z5,z6,z7⟩
         unfold rq56
         go_simp
        simp only[rq56d,Act.put,lsA,lsZ,lsS]
        refine tki hQP hS 57 rq57 (.pointer (some ⟨p,3,none⟩)) ?_ ?_
        ·rintro w ⟨z1,z2,z3,z4,z5,z6,z7⟩
         unfold rq57
         go_simp
        simp only[rq57d,Act.put,lsA,lsZ,lsS]
        refine tki hQP hS 58 rq58 (.int .i64 n) ?_ ?_
        ·rintro w ⟨z1,z2,z3,z4,z5,z6,z7⟩
         unfold rq58
         go_simp
        simp only[rq58d,Act.put,lsA,lsZ,lsS]
        cases q7:decide (n<0)
        ·refine tki hQP hS 59 rq59 (.bool false) ?_ ?_
         ·rintro w ⟨z1,z2,z3,z4,z5,z6,z7⟩
          unfold rq59
          go_simp
          all_goals (have hq:=q7;simp at hq ⊢;first|omega|assumption|exact hq|grind)
         simp only[rq59d,Act.put,lsA,lsZ,lsS]
         refine tki hQP hS 60 rq60 (.bool false) ?_ ?_
         ·rintro w ⟨z1,z2,z3,z4,z5,z6,z7⟩
          unfold rq60
          go_simp
         simp only[rq60d,Act.put,lsA,lsZ,lsS]
         refine tki hQP hS 61 rq61 (.bool false) ?_ ?_
         ·rintro w ⟨z1,z2,z3,z4,z5,z6,z7⟩
          unfold rq61
          go_simp
         simp only[rq61d,Act.put,lsA,lsZ,lsS]
         refine tki hQP hS 62 rq62 (.slice (some ⟨g,0,none⟩) 4 4) ?_ ?_
         ·rintro w ⟨z1,z2,z3,z4,z5,z6,z7⟩
          unfold rq62
          go_simp
         simp only[rq62d,Act.put,lsA,lsZ,lsS]
         refine tki hQP hS 63 rq63 (.pointer (some ⟨g,2,none⟩)) ?_ ?_
         ·rintro w ⟨z1,z2,z3,z4,z5,z6,z7⟩
          unfold rq63
          go_simp
         simp only[rq63d,Act.put,lsA,lsZ,lsS]
         cases fu
         ·refine tki hQP hS 64 rq64 (.bool false) ?_ ?_
          ·rintro w ⟨z1,z2,z3,z4,z5,z6,z7⟩
           unfold rq64
           go_simp
          simp only[rq64d,Act.put,lsA,lsZ,lsS]
          refine tki hQP hS 65 rq65 (.bool true) ?_ ?_
          ·rintro w ⟨z1,z2,z3,z4,z5,z6,z7⟩
           unfold rq65
           go_simp
          simp only[rq65d,Act.put,lsA,lsZ,lsS]
          refine tki hQP hS 66 rq66 (.bool true) ?_ ?_
          ·rintro w ⟨z1,z2,z3,z4,z5,z6,z7⟩
           unfold rq66
           go_simp
          simp only[rq66d,Act.put,lsA,lsZ,lsS]
          refine tki hQP hS 67 rq67 (.pointer (some ⟨p,3,none⟩)) ?_ ?_
          ·rintro w ⟨z1,z2,z3,z4,z5,z6,z7⟩
           unfold rq67
           go_simp
          simp only[rq67d,Act.put,lsA,lsZ,lsS]
          refine tki hQP hS 68 rq68 (.int .i64 n) ?_ ?_
          ·rintro w ⟨z1,z2,z3,z4,z5,z6,z7⟩
           unfold rq68
           go_simp
          simp only[rq68d,Act.put,lsA,lsZ,lsS]
          cases q8:(n != 0)
          ·refine tki hQP hS 69 rq69 (.bool false) ?_ ?_
           ·rintro w ⟨z1,z2,z3,z4,z5,z6,z7⟩
            unfold rq69
            go_simp
            all_goals (have hq:=q8;simp at hq ⊢;first|omega|assumption|exact hq|grind)
           simp only[rq69d,Act.put,lsA,lsZ,lsS]
           refine tki hQP hS 70 rq70 (.bool false) ?_ ?_
           ·rintro w ⟨z1,z2,z3,z4,z5,z6,z7⟩
            unfold rq70
            go_simp
           simp only[rq70d,Act.put,lsA,lsZ,lsS]
           refine tki hQP hS 71 rq71 (.bool false) ?_ ?_
           ·rintro w ⟨z1,z2,z3,z4,z5,z6,z7⟩
            unfold rq71
            go_simp
           simp only[rq71d,Act.put,lsA,lsZ,lsS]
           exact wpAnyH_done (by kernel_rfl) (hQ _ _ _ _ _ _ _ _ _ _ _ _ _ _ _ _ _ _ _ _ _ _ _ _ _ _ _ _ _ _ _ _ _ _ _ _ _ _ _ _ _ _ _ _ _ _ _ _ _ _ _ _ _ _ _ _ _ _ _ _ _ _ _ _ _ _ _ _ _ _ _ _ _ (by first|rfl|(simp only[q1,q2,q3,q4,qm,q7,q8];rfl)|simp[q1,q2,q3,q4,qm,q7,q8]) B) _
          ·refine tki hQP hS 69 rq69 (.bool true) ?_ ?_
           ·rintro w ⟨z1,z2,z3,z4,z5,z6,z7⟩
            unfold rq69
            go_simp
            all_goals (have hq:=q8;simp at hq ⊢;first|omega|assumption|exact hq|grind)
           simp only[rq69d,Act.put,lsA,lsZ,lsS]
           refine tki hQP hS 70 rq70 (.bool true) ?_ ?_
           ·rintro w ⟨z1,z2,z3,z4,z5,z6,z7⟩
            unfold rq70
            go_simp
           simp only[rq70d,Act.put,lsA,lsZ,lsS]
           refine tki hQP hS 71 rq71 (.bool true) ?_ ?_
           ·rintro w ⟨z1,z2,z3,z4,z5,z6,z7⟩
            unfold rq71
            go_simp
           simp only[rq71d,Act.put,lsA,lsZ,lsS]
           exact wpAnyH_done (by kernel_rfl) (hQ _ _ _ _ _ _ _ _ _ _ _ _ _ _ _ _ _ _ _ _ _ _ _ _ _ _ _ _ _ _ _ _ _ _ _ _ _ _ _ _ _ _ _ _ _ _ _ _ _ _ _ _ _ _ _ _ _ _ _ _ _ _ _ _ _ _ _ _ _ _ _ _ _ (by first|rfl|(simp only[q1,q2,q3,q4,qm,q7,q8];rfl)|simp[q1,q2,q3,q4,qm,q7,q8]) B) _
         ·refine tki hQP hS 64 rq64 (.bool true) ?_ ?_
          ·rintro w ⟨z1,z2,z3,z4,z5,z6,z7⟩
           unfold rq64
           go_simp
          simp only[rq64d,Act.put,lsA,lsZ,lsS]
          refine tki hQP hS 65 rq65 (.bool false) ?_ ?_
          ·rintro w ⟨z1,z2,z3,z4,z5,z6,z7⟩
           unfold rq65
           go_simp
          simp only[rq65d,Act.put,lsA,lsZ,lsS]
          refine tki hQP hS 66 rq66 (.bool false) ?_ ?_
          ·rintro w ⟨z1,z2,z3,z4,z5,z6,z7⟩
           unfold rq66
           go_simp
          simp only[rq66d,Act.put,lsA,lsZ,lsS]
          refine tku hQP hS 67 rq67 ?_
          simp only[rq67d,Act.put,lsA,lsZ,lsS]
          refine tku hQP hS 68 rq68 ?_
          simp only[rq68d,Act.put,lsA,lsZ,lsS]
          refine tku hQP hS 69 rq69 ?_
          simp only[rq69d,Act.put,lsA,lsZ,lsS]
          refine tki hQP hS 70 rq70 (.bool false) ?_ ?_
          ·rintro w ⟨z1,z2,z3,z4,z5,z6,z7⟩
           unfold rq70
           go_simp
          simp only[rq70d,Act.put,lsA,lsZ,lsS]
          refine tki hQP hS 71 rq71 (.bool false) ?_ ?_
          ·rintro w ⟨z1,z2,z3,z4,z5,z6,z7⟩
           unfold rq71
           go_simp
          simp only[rq71d,Act.put,lsA,lsZ,lsS]
          exact wpAnyH_done (by kernel_rfl) (hQ _ _ _ _ _ _ _ _ _ _ _ _ _ _ _ _ _ _ _ _ _ _ _ _ _ _ _ _ _ _ _ _ _ _ _ _ _ _ _ _ _ _ _ _ _ _ _ _ _ _ _ _ _ _ _ _ _ _ _ _ _ _ _ _ _ _ _ _ _ _ _ _ _ (by first|rfl|(simp only[q1,q2,q3,q4,qm,q7];rfl)|simp[q1,q2,q3,q4,qm,q7]) B) _
        ·refine tki hQP hS 59 rq59 (.bool true) ?_ ?_
         ·rintro w ⟨z1,z2,z3,z4,z5,z6,z7⟩
          unfold rq59
          go_simp
          all_goals (have hq:=q7;simp at hq ⊢;first|omega|assumption|exact hq|grind)
         simp only[rq59d,Act.put,lsA,lsZ,lsS]
         refine tki hQP hS 60 rq60 (.bool true) ?_ ?_
         ·rintro w ⟨z1,z2,z3,z4,z5,z6,z7⟩
          unfold rq60
          go_simp
         simp only[rq60d,Act.put,lsA,lsZ,lsS]
         refine tki hQP hS 61 rq61 (.bool true) ?_ ?_
         ·rintro w ⟨z1,z2,z3,z4,z5,z6,z7⟩
          unfold rq61
          go_simp
         simp only[rq61d,Act.put,lsA,lsZ,lsS]
         refine tku hQP hS 62 rq62 ?_
         simp only[rq62d,Act.put,lsA,lsZ,lsS]
         refine tku hQP hS 63 rq63 ?_
         simp only[rq63d,Act.put,lsA,lsZ,lsS]
         refine tku hQP hS 64 rq64 ?_
         simp only[rq64d,Act.put,lsA,lsZ,lsS]
         refine tku hQP hS 65 rq65 ?_
         simp only[rq65d,Act.put,lsA,lsZ,lsS]
         refine tku hQP hS 66 rq66 ?_
         simp only[rq66d,Act.put,lsA,lsZ,lsS]
         refine tku hQP hS 67 rq67 ?_
         simp only[rq67d,Act.put,lsA,lsZ,lsS]
         refine tku hQP hS 68 rq68 ?_
         simp only[rq68d,Act.put,lsA,lsZ,lsS]
         refine tku hQP hS 69 rq69 ?_
         simp only[rq69d,Act.put,lsA,lsZ,lsS]
         refine tku hQP hS 70 rq70 ?_
         simp only[rq70d,Act.put,lsA,lsZ,lsS]
         refine tki hQP hS 71 rq71 (.bool true) ?_ ?_
         ·rintro w ⟨z1,z2,z3,z4,z5,z6,z7⟩
          unfold rq71
          go_simp
         simp only[rq71d,Act.put,lsA,lsZ,lsS]
         exact wpAnyH_done (by kernel_rfl) (hQ _ _ _ _ _ _ _ _ _ _ _ _ _ _ _ _ _ _ _ _ _ _ _ _ _ _ _ _ _ _ _ _ _ _ _ _ _ _ _ _ _ _ _ _ _ _ _ _ _ _ _ _ _ _ _ _ _ _ _ _ _ _ _ _ _ _ _ _ _ _ _ _ _ (by first|rfl|(simp only[q1,q2,q3,q4,qm,q7];rfl)|simp[q1,q2,q3,q4,qm,q7]) B) _
       ·refine tki hQP hS 48 rq48 (.bool true) ?_ ?_
        ·rintro w ⟨z1,z2,z3,z4,z5,z6,z7⟩
         unfold rq48
         go_simp
        simp only[rq48d,Act.put,lsA,lsZ,lsS]
        refine tki hQP hS 49 rq49 (.bool true) ?_ ?_
        ·rintro w ⟨z1,z2,z3,z4,z5,z6,z7⟩
         unfold rq49
         go_simp
        simp only[rq49d,Act.put,lsA,lsZ,lsS]
        refine tki hQP hS 50 rq50 (.pointer (some ⟨p,2,none⟩)) ?_ ?_
        ·rintro w ⟨z1,z2,z3,z4,z5,z6,z7⟩
         unfold rq50
         go_simp
        simp only[rq50d,Act.put,lsA,lsZ,lsS]
        refine tki hQP hS 51 rq51 (.string name) ?_ ?_
        ·rintro w ⟨z1,z2,z3,z4,z5,z6,z7⟩
         unfold rq51
         go_simp
        simp only[rq51d,Act.put,lsA,lsZ,lsS]
        cases qn:Lx.name name
        ·refine wpAnyH_ready (rs:=[52]) (by kernel_rfl) (by simp) ?_
         refine AllReadyH.cons (o:=rq52) rfl (fun K hK=>?_) AllReadyH.nil
         rw[if_pos (show Region.wanted _ _=true from rfl)]
         obtain⟨z1,z2,z3,z4,z5,z6,z7⟩:=hS
         unfold rq52
         go_wp2_with (go_at_call 52;refine (refName_any _ _ hsn).mono ?_;rintro r w5 ⟨rfl,bb⟩;have B:=B.tr le_rfl' bb)
         refine hK.out _ _ (hkeep _ B) (fun hS=>?_)
         simp only[List.setIfInBounds_toArray,List.set_cons_zero,List.set_cons_succ]
         refine tki hQP hS 53 rq53 (.bool true) ?_ ?_
         ·rintro w ⟨z1,z2,z3,z4,z5,z6,z7⟩
          unfold rq53
          go_simp
         simp only[rq53d,Act.put,lsA,lsZ,lsS]
         refine tki hQP hS 54 rq54 (.bool true) ?_ ?_
         ·rintro w ⟨z1,z2,z3,z4,z5,z6,z7⟩
          unfold rq54
          go_simp
         simp only[rq54d,Act.put,lsA,lsZ,lsS]
         refine tki hQP hS 55 rq55 (.bool true) ?_ ?_
         ·rintro w ⟨z1,z2,z3,z4,z5,z6,z7⟩
          unfold rq55
          go_simp
         simp only[rq55d,Act.put,lsA,lsZ,lsS]
         refine tki hQP hS 56 rq56 (.bool true) ?_ ?_
         ·rintro w ⟨z1,z2,z3,z4,z5,z6,z7⟩
          unfold rq56
          go_simp
         simp only[rq56d,Act.put,lsA,lsZ,lsS]
         refine tku hQP hS 57 rq57 ?_
         simp only[rq57d,Act.put,lsA,lsZ,lsS]
         refine tku hQP hS 58 rq58 ?_
         simp only[rq58d,Act.put,lsA,lsZ,lsS]
         refine tku hQP hS 59 rq59 ?_
         simp only[rq59d,Act.put,lsA,lsZ,lsS]
         refine tki hQP hS 60 rq60 (.bool true) ?_ ?_
         ·rintro w ⟨z1,z2,z3,z4,z5,z6,z7⟩
          unfold rq60
          go_simp
         simp only[rq60d,Act.put,lsA,lsZ,lsS]
         refine tki hQP hS 61 rq61 (.bool true) ?_ ?_
         ·rintro w ⟨z1,z2,z3,z4,z5,z6,z7⟩
          unfold rq61
          go_simp
         simp only[rq61d,Act.put,lsA,lsZ,lsS]
         refine tku hQP hS 62 rq62 ?_
         simp only[rq62d,Act.put,lsA,lsZ,lsS]
         refine tku hQP hS 63 rq63 ?_
         simp only[rq63d,Act.put,lsA,lsZ,lsS]
         refine tku hQP hS 64 rq64 ?_
         simp only[rq64d,Act.put,lsA,lsZ,lsS]
         refine tku hQP hS 65 rq65 ?_
         simp only[rq65d,Act.put,lsA,lsZ,lsS]
         refine tku hQP hS 66 rq66 ?_
         simp only[rq66d,Act.put,lsA,lsZ,lsS]
         refine tku hQP hS 67 rq67 ?_
         simp only[rq67d,Act.put,lsA,lsZ,lsS]
         refine tku hQP hS 68 rq68 ?_
         simp only[rq68d,Act.put,lsA,lsZ,lsS]
         refine tku hQP hS 69 rq69 ?_
         simp only[rq69d,Act.put,lsA,lsZ,lsS]
         refine tku hQP hS 70 rq70 ?_
         simp only[rq70d,Act.put,lsA,lsZ,lsS]
         refine tki hQP hS 71 rq71 (.bool true) ?_ ?_
         ·rintro w ⟨z1,z2,z3,z4,z5,z6,z7⟩
          unfold rq71
          go_simp
         simp only[rq71d,Act.put,lsA,lsZ,lsS]
         exact wpAnyH_done (by kernel_rfl) (hQ _ _ _ _ _ _ _ _ _ _ _ _ _ _ _ _ _ _ _ _ _ _ _ _ _ _ _ _ _ _ _ _ _ _ _ _ _ _ _ _ _ _ _ _ _ _ _ _ _ _ _ _ _ _ _ _ _ _ _ _ _ _ _ _ _ _ _ _ _ _ _ _ _ (by first|rfl|(simp only[q1,q2,q3,q4,qm,qn];rfl)|simp[q1,q2,q3,q4,qm,qn]) B) _
        ·refine wpAnyH_ready (rs:=[52]) (by kernel_rfl) (by simp) ?_
         refine AllReadyH.cons (o:=rq52) rfl (fun K hK=>?_) AllReadyH.nil
         rw[if_pos (show Region.wanted _ _=true from rfl)]
         obtain⟨z1,z2,z3,z4,z5,z6,z7⟩:=hS
         unfold rq52
         go_wp2_with (go_at_call 52;refine (refName_any _ _ hsn).mono ?_;rintro r w6 ⟨rfl,bb⟩;have B:=B.tr le_rfl' bb)
         refine hK.out _ _ (hkeep _ B) (fun hS=>?_)
         simp only[List.setIfInBounds_toArray,List.set_cons_zero,List.set_cons_succ]
         refine tki hQP hS 53 rq53 (.bool false) ?_ ?_
         ·rintro w ⟨z1,z2,z3,z4,z5,z6,z7⟩
          unfold rq53
          go_simp
         simp only[rq53d,Act.put,lsA,lsZ,lsS]
         refine tki hQP hS 54 rq54 (.bool false) ?_ ?_
         ·rintro w ⟨z1,z2,z3,z4,z5,z6,z7⟩
          unfold rq54
          go_simp
         simp only[rq54d,Act.put,lsA,lsZ,lsS]
         refine tki hQP hS 55 rq55 (.bool false) ?_ ?_
         ·rintro w ⟨z1,z2,z3,z4,z5,z6,z7⟩
          unfold rq55
          go_simp
         simp only[rq55d,Act.put,lsA,lsZ,lsS]
         refine tki hQP hS 56 rq56 (.bool false) ?_ ?_
         ·rintro w ⟨z1,z2,z3,z4,z5,z6,z7⟩
          unfold rq56
          go_simp
         simp only[rq56d,Act.put,lsA,lsZ,lsS]
         refine tki hQP hS 57 rq57 (.pointer (some ⟨p,3,none⟩)) ?_ ?_
         ·rintro w ⟨z1,z2,z3,z4,z5,z6,z7⟩
          unfold rq57
          go_simp
         simp only[rq57d,Act.put,lsA,lsZ,lsS]
         refine tki hQP hS 58 rq58 (.int .i64 n) ?_ ?_
         ·rintro w ⟨z1,z2,z3,z4,z5,z6,z7⟩
          unfold rq58
          go_simp
         simp only[rq58d,Act.put,lsA,lsZ,lsS]
         cases q7:decide (n<0)
         ·refine tki hQP hS 59 rq59 (.bool false) ?_ ?_
          ·rintro w ⟨z1,z2,z3,z4,z5,z6,z7⟩
           unfold rq59
           go_simp
           all_goals (have hq:=q7;simp at hq ⊢;first|omega|assumption|exact hq|grind)
          simp only[rq59d,Act.put,lsA,lsZ,lsS]
          refine tki hQP hS 60 rq60 (.bool false) ?_ ?_
          ·rintro w ⟨z1,z2,z3,z4,z5,z6,z7⟩
           unfold rq60
           go_simp
          simp only[rq60d,Act.put,lsA,lsZ,lsS]
          refine tki hQP hS 61 rq61 (.bool false) ?_ ?_
          ·rintro w ⟨z1,z2,z3,z4,z5,z6,z7⟩
           unfold rq61
           go_simp
          simp only[rq61d,Act.put,lsA,lsZ,lsS]
          refine tki hQP hS 62 rq62 (.slice (some ⟨g,0,none⟩) 4 4) ?_ ?_
          ·rintro w ⟨z1,z2,z3,z4,z5,z6,z7⟩
           unfold rq62
           go_simp
          simp only[rq62d,Act.put,lsA,lsZ,lsS]
          refine tki hQP hS 63 rq63 (.pointer (some ⟨g,2,none⟩)) ?_ ?_
          ·rintro w ⟨z1,z2,z3,z4,z5,z6,z7⟩
           unfold rq63
           go_simp
          simp only[rq63d,Act.put,lsA,lsZ,lsS]
          cases fu
          ·refine tki hQP hS 64 rq64 (.bool false) ?_ ?_
           ·rintro w ⟨z1,z2,z3,z4,z5,z6,z7⟩
            unfold rq64
            go_simp
           simp only[rq64d,Act.put,lsA,lsZ,lsS]
           refine tki hQP hS 65 rq65 (.bool true) ?_ ?_
           ·rintro w ⟨z1,z2,z3,z4,z5,z6,z7⟩
            unfold rq65
            go_simp
           simp only[rq65d,Act.put,lsA,lsZ,lsS]
           refine tki hQP hS 66 rq66 (.bool true) ?_ ?_
           ·rintro w ⟨z1,z2,z3,z4,z5,z6,z7⟩
            unfold rq66
            go_simp
           simp only[rq66d,Act.put,lsA,lsZ,lsS]
           refine tki hQP hS 67 rq67 (.pointer (some ⟨p,3,none⟩)) ?_ ?_
           ·rintro w ⟨z1,z2,z3,z4,z5,z6,z7⟩
            unfold rq67
            go_simp
           simp only[rq67d,Act.put,lsA,lsZ,lsS]
           refine tki hQP hS 68 rq68 (.int .i64 n) ?_ ?_
           ·rintro w ⟨z1,z2,z3,z4,z5,z6,z7⟩
            unfold rq68
            go_simp
           simp only[rq68d,Act.put,lsA,lsZ,lsS]
           cases q8:(n != 0)
           ·refine tki hQP hS 69 rq69 (.bool false) ?_ ?_
            ·rintro w ⟨z1,z2,z3,z4,z5,z6,z7⟩
             unfold rq69
             go_simp
             all_goals (have hq:=q8;simp at hq ⊢;first|omega|assumption|exact hq|grind)
            simp only[rq69d,Act.put,lsA,lsZ,lsS]
            refine tki hQP hS 70 rq70 (.bool false) ?_ ?_
            ·rintro w ⟨z1,z2,z3,z4,z5,z6,z7⟩
             unfold rq70
             go_simp
            simp only[rq70d,Act.put,lsA,lsZ,lsS]
            refine tki hQP hS 71 rq71 (.bool false) ?_ ?_
            ·rintro w ⟨z1,z2,z3,z4,z5,z6,z7⟩
             unfold rq71
             go_simp
            simp only[rq71d,Act.put,lsA,lsZ,lsS]
            exact wpAnyH_done (by kernel_rfl) (hQ _ _ _ _ _ _ _ _ _ _ _ _ _ _ _ _ _ _ _ _ _ _ _ _ _ _ _ _ _ _ _ _ _ _ _ _ _ _ _ _ _ _ _ _ _ _ _ _ _ _ _ _ _ _ _ _ _ _ _ _ _ _ _ _ _ _ _ _ _ _ _ _ _ (by first|rfl|(simp only[q1,q2,q3,q4,qm,qn,q7,q8];rfl)|simp[q1,q2,q3,q4,qm,qn,q7,q8]) B) _
           ·refine tki hQP hS 69 rq69 (.bool true) ?_ ?_
            ·rintro w ⟨z1,z2,z3,z4,z5,z6,z7⟩
             unfold rq69
             go_simp
             all_goals (have hq:=q8;simp at hq ⊢;first|omega|assumption|exact hq|grind)
            simp only[rq69d,Act.put,lsA,lsZ,lsS]
            refine tki hQP hS 70 rq70 (.bool true) ?_ ?_
            ·rintro w ⟨z1,z2,z3,z4,z5,z6,z7⟩
             unfold rq70
             go_simp
            simp only[rq70d,Act.put,lsA,lsZ,lsS]
            refine tki hQP hS 71 rq71 (.bool true) ?_ ?_
            ·rintro w ⟨z1,z2,z3,z4,z5,z6,z7⟩
             unfold rq71
             go_simp
            simp only[rq71d,Act.put,lsA,lsZ,lsS]
            exact wpAnyH_done (by kernel_rfl) (hQ _ _ _ _ _ _ _ _ _ _ _ _ _ _ _ _ _ _ _ _ _ _ _ _ _ _ _ _ _ _ _ _ _ _ _ _ _ _ _ _ _ _ _ _ _ _ _ _ _ _ _ _ _ _ _ _ _ _ _ _ _ _ _ _ _ _ _ _ _ _ _ _ _ (by first|rfl|(simp only[q1,q2,q3,q4,qm,qn,q7,q8];rfl)|simp[q1,q2,q3,q4,qm,qn,q7,q8]) B) _
          ·refine tki hQP hS 64 rq64 (.bool true) ?_ ?_
           ·rintro w ⟨z1,z2,z3,z4,z5,z6,z7⟩
            unfold rq64
            go_simp
           simp only[rq64d,Act.put,lsA,lsZ,lsS]
           refine tki hQP hS 65 rq65 (.bool false) ?_ ?_
           ·rintro w ⟨z1,z2,z3,z4,z5,z6,z7⟩
            unfold rq65
            go_simp
           simp only[rq65d,Act.put,lsA,lsZ,lsS]
           refine tki hQP hS 66 rq66 (.bool false) ?_ ?_
           ·rintro w ⟨z1,z2,z3,z4,z5,z6,z7⟩
            unfold rq66
            go_simp
           simp only[rq66d,Act.put,lsA,lsZ,lsS]
           refine tku hQP hS 67 rq67 ?_
           simp only[rq67d,Act.put,lsA,lsZ,lsS]
           refine tku hQP hS 68 rq68 ?_
           simp only[rq68d,Act.put,lsA,lsZ,lsS]
           refine tku hQP hS 69 rq69 ?_
           simp only[rq69d,Act.put,lsA,lsZ,lsS]
           refine tki hQP hS 70 rq70 (.bool false) ?_ ?_
           ·rintro w ⟨z1,z2,z3,z4,z5,z6,z7⟩
            unfold rq70
            go_simp
           simp only[rq70d,Act.put,lsA,lsZ,lsS]
           refine tki hQP hS 71 rq71 (.bool false) ?_ ?_
           ·rintro w ⟨z1,z2,z3,z4,z5,z6,z7⟩
            unfold rq71
            go_simp
           simp only[rq71d,Act.put,lsA,lsZ,lsS]
           exact wpAnyH_done (by kernel_rfl) (hQ _ _ _ _ _ _ _ _ _ _ _ _ _ _ _ _ _ _ _ _ _ _ _ _ _ _ _ _ _ _ _ _ _ _ _ _ _ _ _ _ _ _ _ _ _ _ _ _ _ _ _ _ _ _ _ _ _ _ _ _ _ _ _ _ _ _ _ _ _ _ _ _ _ (by first|rfl|(simp only[q1,q2,q3,q4,qm,qn,q7];rfl)|simp[q1,q2,q3,q4,qm,qn,q7]) B) _
         ·refine tki hQP hS 59 rq59 (.bool true) ?_ ?_
          ·rintro w ⟨z1,z2,z3,z4,z5,z6,z7⟩
           unfold rq59
           go_simp
           all_goals (have hq:=q7;simp at hq ⊢;first|omega|assumption|exact hq|grind)
          simp only[rq59d,Act.put,lsA,lsZ,lsS]
          refine tki hQP hS 60 rq60 (.bool true) ?_ ?_
          ·rintro w ⟨z1,z2,z3,z4,z5,z6,z7⟩
           unfold rq60
           go_simp
          simp only[rq60d,Act.put,lsA,lsZ,lsS]
          refine tki hQP hS 61 rq61 (.bool true) ?_ ?_
          ·rintro w ⟨z1,z2,z3,z4,z5,z6,z7⟩
           unfold rq61
           go_simp
          simp only[rq61d,Act.put,lsA,lsZ,lsS]
          refine tku hQP hS 62 rq62 ?_
          simp only[rq62d,Act.put,lsA,lsZ,lsS]
          refine tku hQP hS 63 rq63 ?_
          simp only[rq63d,Act.put,lsA,lsZ,lsS]
          refine tku hQP hS 64 rq64 ?_
          simp only[rq64d,Act.put,lsA,lsZ,lsS]
          refine tku hQP hS 65 rq65 ?_
          simp only[rq65d,Act.put,lsA,lsZ,lsS]
          refine tku hQP hS 66 rq66 ?_
          simp only[rq66d,Act.put,lsA,lsZ,lsS]
          refine tku hQP hS 67 rq67 ?_
          simp only[rq67d,Act.put,lsA,lsZ,lsS]
          refine tku hQP hS 68 rq68 ?_
          simp only[rq68d,Act.put,lsA,lsZ,lsS]
          refine tku hQP hS 69 rq69 ?_
          simp only[rq69d,Act.put,lsA,lsZ,lsS]
          refine tku hQP hS 70 rq70 ?_
          simp only[rq70d,Act.put,lsA,lsZ,lsS]
          refine tki hQP hS 71 rq71 (.bool true) ?_ ?_
          ·rintro w ⟨z1,z2,z3,z4,z5,z6,z7⟩
           unfold rq71
           go_simp
          simp only[rq71d,Act.put,lsA,lsZ,lsS]
          exact wpAnyH_done (by kernel_rfl) (hQ _ _ _ _ _ _ _ _ _ _ _ _ _ _ _ _ _ _ _ _ _ _ _ _ _ _ _ _ _ _ _ _ _ _ _ _ _ _ _ _ _ _ _ _ _ _ _ _ _ _ _ _ _ _ _ _ _ _ _ _ _ _ _ _ _ _ _ _ _ _ _ _ _ (by first|rfl|(simp only[q1,q2,q3,q4,qm,qn,q7];rfl)|simp[q1,q2,q3,q4,qm,qn,q7]) B) _
    ·refine tki hQP hS 32 rq32 (.bool true) ?_ ?_
     ·rintro w ⟨z1,z2,z3,z4,z5,z6,z7⟩
      unfold rq32
      go_simp
      all_goals (have hq:=q4;simp at hq ⊢;first|omega|assumption|exact hq|grind)
     simp only[rq32d,Act.put,lsA,lsZ,lsS]
     refine tki hQP hS 33 rq33 (.bool true) ?_ ?_
     ·rintro w ⟨z1,z2,z3,z4,z5,z6,z7⟩
      unfold rq33
      go_simp
     simp only[rq33d,Act.put,lsA,lsZ,lsS]
     refine tki hQP hS 34 rq34 (.bool true) ?_ ?_
     ·rintro w ⟨z1,z2,z3,z4,z5,z6,z7⟩
      unfold rq34
      go_simp
     simp only[rq34d,Act.put,lsA,lsZ,lsS]
     refine tku hQP hS 35 rq35 ?_
     simp only[rq35d,Act.put,lsA,lsZ,lsS]
     refine tku hQP hS 36 rq36 ?_
     simp only[rq36d,Act.put,lsA,lsZ,lsS]
     refine tku hQP hS 37 rq37 ?_
     simp only[rq37d,Act.put,lsA,lsZ,lsS]
     refine tku hQP hS 38 rq38 ?_
     simp only[rq38d,Act.put,lsA,lsZ,lsS]
     refine tku hQP hS 39 rq39 ?_
     simp only[rq39d,Act.put,lsA,lsZ,lsS]
     refine tku hQP hS 40 rq40 ?_
     simp only[rq40d,Act.put,lsA,lsZ,lsS]
     refine tku hQP hS 41 rq41 ?_
     simp only[rq41d,Act.put,lsA,lsZ,lsS]
     refine tku hQP hS 42 rq42 ?_
     simp only[rq42d,Act.put,lsA,lsZ,lsS]
     refine tku hQP hS 43 rq43 ?_
     simp only[rq43d,Act.put,lsA,lsZ,lsS]
     refine tki hQP hS 44 rq44 (.bool true) ?_ ?_
     ·rintro w ⟨z1,z2,z3,z4,z5,z6,z7⟩
      unfold rq44
      go_simp
     simp only[rq44d,Act.put,lsA,lsZ,lsS]
     refine tki hQP hS 45 rq45 (.bool true) ?_ ?_
     ·rintro w ⟨z1,z2,z3,z4,z5,z6,z7⟩
      unfold rq45
      go_simp
     simp only[rq45d,Act.put,lsA,lsZ,lsS]
     refine tku hQP hS 46 rq46 ?_
     simp only[rq46d,Act.put,lsA,lsZ,lsS]
     refine tku hQP hS 47 rq47 ?_
     simp only[rq47d,Act.put,lsA,lsZ,lsS]
     refine tku hQP hS 48 rq48 ?_
     simp only[rq48d,Act.put,lsA,lsZ,lsS]
     refine tku hQP hS 49 rq49 ?_
     simp only[rq49d,Act.put,lsA,lsZ,lsS]
     refine tku hQP hS 50 rq50 ?_
     simp only[rq50d,Act.put,lsA,lsZ,lsS]
     refine tku hQP hS 51 rq51 ?_
     simp only[rq51d,Act.put,lsA,lsZ,lsS]
     refine tku hQP hS 52 rq52 ?_
     simp only[rq52d,Act.put,lsA,lsZ,lsS]
     refine tku hQP hS 53 rq53 ?_
     simp only[rq53d,Act.put,lsA,lsZ,lsS]
     refine tku hQP hS 54 rq54 ?_
     simp only[rq54d,Act.put,lsA,lsZ,lsS]
     refine tki hQP hS 55 rq55 (.bool true) ?_ ?_
     ·rintro w ⟨z1,z2,z3,z4,z5,z6,z7⟩
      unfold rq55
      go_simp
     simp only[rq55d,Act.put,lsA,lsZ,lsS]
     refine tki hQP hS 56 rq56 (.bool true) ?_ ?_
     ·rintro w ⟨z1,z2,z3,z4,z5,z6,z7⟩
      unfold rq56
      go_simp
     simp only[rq56d,Act.put,lsA,lsZ,lsS]
     refine tku hQP hS 57 rq57 ?_
     simp only[rq57d,Act.put,lsA,lsZ,lsS]
     refine tku hQP hS 58 rq58 ?_
     simp only[rq58d,Act.put,lsA,lsZ,lsS]
     refine tku hQP hS 59 rq59 ?_
     simp only[rq59d,Act.put,lsA,lsZ,lsS]
     refine tki hQP hS 60 rq60 (.bool true) ?_ ?_
     ·rintro w ⟨z1,z2,z3,z4,z5,z6,z7⟩
      unfold rq60
      go_simp
     simp only[rq60d,Act.put,lsA,lsZ,lsS]
     refine tki hQP hS 61 rq61 (.bool true) ?_ ?_
     ·rintro w ⟨z1,z2,z3,z4,z5,z6,z7⟩
      unfold rq61
      go_simp
     simp only[rq61d,Act.put,lsA,lsZ,lsS]
     refine tku hQP hS 62 rq62 ?_
     simp only[rq62d,Act.put,lsA,lsZ,lsS]
     refine tku hQP hS 63 rq63 ?_
     simp only[rq63d,Act.put,lsA,lsZ,lsS]
     refine tku hQP hS 64 rq64 ?_
     simp only[rq64d,Act.put,lsA,lsZ,lsS]
     refine tku hQP hS 65 rq65 ?_
     simp only[rq65d,Act.put,lsA,lsZ,lsS]
     refine tku hQP hS 66 rq66 ?_
     simp only[rq66d,Act.put,lsA,lsZ,lsS]
     refine tku hQP hS 67 rq67 ?_
     simp only[rq67d,Act.put,lsA,lsZ,lsS]
     refine tku hQP hS 68 rq68 ?_
     simp only[rq68d,Act.put,lsA,lsZ,lsS]
     refine tku hQP hS 69 rq69 ?_
     simp only[rq69d,Act.put,lsA,lsZ,lsS]
     refine tku hQP hS 70 rq70 ?_
     simp only[rq70d,Act.put,lsA,lsZ,lsS]
     refine tki hQP hS 71 rq71 (.bool true) ?_ ?_
     ·rintro w ⟨z1,z2,z3,z4,z5,z6,z7⟩
      unfold rq71
      go_simp
     simp only[rq71d,Act.put,lsA,lsZ,lsS]
     exact wpAnyH_done (by kernel_rfl) (hQ _ _ _ _ _ _ _ _ _ _ _ _ _ _ _ _ _ _ _ _ _ _ _ _ _ _ _ _ _ _ _ _ _ _ _ _ _ _ _ _ _ _ _ _ _ _ _ _ _ _ _ _ _ _ _ _ _ _ _ _ _ _ _ _ _ _ _ _ _ _ _ _ _ (by first|rfl|(simp only[q1,q2,q3,q4];rfl)|simp[q1,q2,q3,q4]) B) _
   ·refine tki hQP hS 23 rq23 (.bool true) ?_ ?_
    ·rintro w ⟨z1,z2,z3,z4,z5,z6,z7⟩
     unfold rq23
     go_simp
     all_goals (have hq:=q3;simp at hq ⊢;first|omega|assumption|exact hq|grind)
    simp only[rq23d,Act.put,lsA,lsZ,lsS]
    refine tki hQP hS 24 rq24 (.bool true) ?_ ?_
    ·rintro w ⟨z1,z2,z3,z4,z5,z6,z7⟩
     unfold rq24
     go_simp
    simp only[rq24d,Act.put,lsA,lsZ,lsS]
    refine tki hQP hS 25 rq25 (.bool true) ?_ ?_
    ·rintro w ⟨z1,z2,z3,z4,z5,z6,z7⟩
     unfold rq25
     go_simp
    simp only[rq25d,Act.put,lsA,lsZ,lsS]
    refine tku hQP hS 26 rq26 ?_
    simp only[rq26d,Act.put,lsA,lsZ,lsS]
    refine tku hQP hS 27 rq27 ?_
    simp only[rq27d,Act.put,lsA,lsZ,lsS]
    refine tku hQP hS 28 rq28 ?_
    simp only[rq28d,Act.put,lsA,lsZ,lsS]
    refine tku hQP hS 29 rq29 ?_
    simp only[rq29d,Act.put,lsA,lsZ,lsS]
    refine tku hQP hS 30 rq30 ?_
    simp only[rq30d,Act.put,lsA,lsZ,lsS]
    refine tku hQP hS 31 rq31 ?_
    simp only[rq31d,Act.put,lsA,lsZ,lsS]
    refine tku hQP hS 32 rq32 ?_
    simp only[rq32d,Act.put,lsA,lsZ,lsS]
    refine tki hQP hS 33 rq33 (.bool true) ?_ ?_
    ·rintro w ⟨z1,z2,z3,z4,z5,z6,z7⟩
     unfold rq33
     go_simp
    simp only[rq33d,Act.put,lsA,lsZ,lsS]
    refine tki hQP hS 34 rq34 (.bool true) ?_ ?_
    ·rintro w ⟨z1,z2,z3,z4,z5,z6,z7⟩
     unfold rq34
     go_simp
    simp only[rq34d,Act.put,lsA,lsZ,lsS]
    refine tku hQP hS 35 rq35 ?_
    simp only[rq35d,Act.put,lsA,lsZ,lsS]
    refine tku hQP hS 36 rq36 ?_
    simp only[rq36d,Act.put,lsA,lsZ,lsS]
    refine tku hQP hS 37 rq37 ?_
    simp only[rq37d,Act.put,lsA,lsZ,lsS]
    refine tku hQP hS 38 rq38 ?_
    simp only[rq38d,Act.put,lsA,lsZ,lsS]
    refine tku hQP hS 39 rq39 ?_
    simp only[rq39d,Act.put,lsA,lsZ,lsS]
    refine tku hQP hS 40 rq40 ?_
    simp only[rq40d,Act.put,lsA,lsZ,lsS]
    refine tku hQP hS 41 rq41 ?_
    simp only[rq41d,Act.put,lsA,lsZ,lsS]
    refine tku hQP hS 42 rq42 ?_
    simp only[rq42d,Act.put,lsA,lsZ,lsS]
    refine tku hQP hS 43 rq43 ?_
    simp only[rq43d,Act.put,lsA,lsZ,lsS]
    refine tki hQP hS 44 rq44 (.bool true) ?_ ?_
    ·rintro w ⟨z1,z2,z3,z4,z5,z6,z7⟩
     unfold rq44
     go_simp
    simp only[rq44d,Act.put,lsA,lsZ,lsS]
    refine tki hQP hS 45 rq45 (.bool true) ?_ ?_
    ·rintro w ⟨z1,z2,z3,z4,z5,z6,z7⟩
     unfold rq45
     go_simp
    simp only[rq45d,Act.put,lsA,lsZ,lsS]
    refine tku hQP hS 46 rq46 ?_
    simp only[rq46d,Act.put,lsA,lsZ,lsS]
    refine tku hQP hS 47 rq47 ?_
    simp only[rq47d,Act.put,lsA,lsZ,lsS]
    refine tku hQP hS 48 rq48 ?_
    simp only[rq48d,Act.put,lsA,lsZ,lsS]
    refine tku hQP hS 49 rq49 ?_
    simp only[rq49d,Act.put,lsA,lsZ,lsS]
    refine tku hQP hS 50 rq50 ?_
    simp only[rq50d,Act.put,lsA,lsZ,lsS]
    refine tku hQP hS 51 rq51 ?_
    simp only[rq51d,Act.put,lsA,lsZ,lsS]
    refine tku hQP hS 52 rq52 ?_
    simp only[rq52d,Act.put,lsA,lsZ,lsS]
    refine tku hQP hS 53 rq53 ?_
    simp only[rq53d,Act.put,lsA,lsZ,lsS]
    refine tku hQP hS 54 rq54 ?_
    simp only[rq54d,Act.put,lsA,lsZ,lsS]
    refine tki hQP hS 55 rq55 (.bool true) ?_ ?_
    ·rintro w ⟨z1,z2,z3,z4,z5,z6,z7⟩
     unfold rq55
     go_simp
    simp only[rq55d,Act.put,lsA,lsZ,lsS]
    refine tki hQP hS 56 rq56 (.bool true) ?_ ?_
    ·rintro w ⟨z1,z2,z3,z4,z5,z6,z7⟩
     unfold rq56
     go_simp
    simp only[rq56d,Act.put,lsA,lsZ,lsS]
    refine tku hQP hS 57 rq57 ?_
    simp only[rq57d,Act.put,lsA,lsZ,lsS]
    refine tku hQP hS 58 rq58 ?_
    simp only[rq58d,Act.put,lsA,lsZ,lsS]
    refine tku hQP hS 59 rq59 ?_
    simp only[rq59d,Act.put,lsA,lsZ,lsS]
    refine tki hQP hS 60 rq60 (.bool true) ?_ ?_
    ·rintro w ⟨z1,z2,z3,z4,z5,z6,z7⟩
     unfold rq60
     go_simp
    simp only[rq60d,Act.put,lsA,lsZ,lsS]
    refine tki hQP hS 61 rq61 (.bool true) ?_ ?_
    ·rintro w ⟨z1,z2,z3,z4,z5,z6,z7⟩
     unfold rq61
     go_simp
    simp only[rq61d,Act.put,lsA,lsZ,lsS]
    refine tku hQP hS 62 rq62 ?_
    simp only[rq62d,Act.put,lsA,lsZ,lsS]
    refine tku hQP hS 63 rq63 ?_
    simp only[rq63d,Act.put,lsA,lsZ,lsS]
    refine tku hQP hS 64 rq64 ?_
    simp only[rq64d,Act.put,lsA,lsZ,lsS]
    refine tku hQP hS 65 rq65 ?_
    simp only[rq65d,Act.put,lsA,lsZ,lsS]
    refine tku hQP hS 66 rq66 ?_
    simp only[rq66d,Act.put,lsA,lsZ,lsS]
    refine tku hQP hS 67 rq67 ?_
    simp only[rq67d,Act.put,lsA,lsZ,lsS]
    refine tku hQP hS 68 rq68 ?_
    simp only[rq68d,Act.put,lsA,lsZ,lsS]
    refine tku hQP hS 69 rq69 ?_
    simp only[rq69d,Act.put,lsA,lsZ,lsS]
    refine tku hQP hS 70 rq70 ?_
    simp only[rq70d,Act.put,lsA,lsZ,lsS]
    refine tki hQP hS 71 rq71 (.bool true) ?_ ?_
    ·rintro w ⟨z1,z2,z3,z4,z5,z6,z7⟩
     unfold rq71
     go_simp
    simp only[rq71d,Act.put,lsA,lsZ,lsS]
    exact wpAnyH_done (by kernel_rfl) (hQ _ _ _ _ _ _ _ _ _ _ _ _ _ _ _ _ _ _ _ _ _ _ _ _ _ _ _ _ _ _ _ _ _ _ _ _ _ _ _ _ _ _ _ _ _ _ _ _ _ _ _ _ _ _ _ _ _ _ _ _ _ _ _ _ _ _ _ _ _ _ _ _ _ (by first|rfl|(simp only[q1,q2,q3];rfl)|simp[q1,q2,q3]) B) _
  ·refine tki hQP hS 14 rq14 (.bool true) ?_ ?_
   ·rintro w ⟨z1,z2,z3,z4,z5,z6,z7⟩
    unfold rq14
    go_simp
    all_goals (have hq:=q2;simp at hq ⊢;first|omega|assumption|exact hq|grind)
   simp only[rq14d,Act.put,lsA,lsZ,lsS]
   refine tki hQP hS 15 rq15 (.bool true) ?_ ?_
   ·rintro w ⟨z1,z2,z3,z4,z5,z6,z7⟩
    unfold rq15
    go_simp
   simp only[rq15d,Act.put,lsA,lsZ,lsS]
   refine tki hQP hS 16 rq16 (.bool true) ?_ ?_
   ·rintro w ⟨z1,z2,z3,z4,z5,z6,z7⟩
    unfold rq16
    go_simp
   simp only[rq16d,Act.put,lsA,lsZ,lsS]
   refine tku hQP hS 17 rq17 ?_
   simp only[rq17d,Act.put,lsA,lsZ,lsS]
   refine tku hQP hS 18 rq18 ?_
   simp only[rq18d,Act.put,lsA,lsZ,lsS]
   refine tku hQP hS 19 rq19 ?_
   simp only[rq19d,Act.put,lsA,lsZ,lsS]
   refine tku hQP hS 20 rq20 ?_
   simp only[rq20d,Act.put,lsA,lsZ,lsS]
   refine tku hQP hS 21 rq21 ?_
   simp only[rq21d,Act.put,lsA,lsZ,lsS]
   refine tku hQP hS 22 rq22 ?_
   simp only[rq22d,Act.put,lsA,lsZ,lsS]
   refine tku hQP hS 23 rq23 ?_
   simp only[rq23d,Act.put,lsA,lsZ,lsS]
   refine tki hQP hS 24 rq24 (.bool true) ?_ ?_
   ·rintro w ⟨z1,z2,z3,z4,z5,z6,z7⟩
    unfold rq24
    go_simp
   simp only[rq24d,Act.put,lsA,lsZ,lsS]
   refine tki hQP hS 25 rq25 (.bool true) ?_ ?_
   ·rintro w ⟨z1,z2,z3,z4,z5,z6,z7⟩
    unfold rq25
    go_simp
   simp only[rq25d,Act.put,lsA,lsZ,lsS]
   refine tku hQP hS 26 rq26 ?_
   simp only[rq26d,Act.put,lsA,lsZ,lsS]
   refine tku hQP hS 27 rq27 ?_
   simp only[rq27d,Act.put,lsA,lsZ,lsS]
   refine tku hQP hS 28 rq28 ?_
   simp only[rq28d,Act.put,lsA,lsZ,lsS]
   refine tku hQP hS 29 rq29 ?_
   simp only[rq29d,Act.put,lsA,lsZ,lsS]
   refine tku hQP hS 30 rq30 ?_
   simp only[rq30d,Act.put,lsA,lsZ,lsS]
   refine tku hQP hS 31 rq31 ?_
   simp only[rq31d,Act.put,lsA,lsZ,lsS]
   refine tku hQP hS 32 rq32 ?_
   simp only[rq32d,Act.put,lsA,lsZ,lsS]
   refine tki hQP hS 33 rq33 (.bool true) ?_ ?_
   ·rintro w ⟨z1,z2,z3,z4,z5,z6,z7⟩
    unfold rq33
    go_simp
   simp only[rq33d,Act.put,lsA,lsZ,lsS]
   refine tki hQP hS 34 rq34 (.bool true) ?_ ?_
   ·rintro w ⟨z1,z2,z3,z4,z5,z6,z7⟩
    unfold rq34
    go_simp
   simp only[rq34d,Act.put,lsA,lsZ,lsS]
   refine tku hQP hS 35 rq35 ?_
   simp only[rq35d,Act.put,lsA,lsZ,lsS]
   refine tku hQP hS 36 rq36 ?_
   simp only[rq36d,Act.put,lsA,lsZ,lsS]
   refine tku hQP hS 37 rq37 ?_
   simp only[rq37d,Act.put,lsA,lsZ,lsS]
   refine tku hQP hS 38 rq38 ?_
   simp only[rq38d,Act.put,lsA,lsZ,lsS]
   refine tku hQP hS 39 rq39 ?_
   simp only[rq39d,Act.put,lsA,lsZ,lsS]
   refine tku hQP hS 40 rq40 ?_
   simp only[rq40d,Act.put,lsA,lsZ,lsS]
   refine tku hQP hS 41 rq41 ?_
   simp only[rq41d,Act.put,lsA,lsZ,lsS]
   refine tku hQP hS 42 rq42 ?_
   simp only[rq42d,Act.put,lsA,lsZ,lsS]
   refine tku hQP hS 43 rq43 ?_
   simp only[rq43d,Act.put,lsA,lsZ,lsS]
   refine tki hQP hS 44 rq44 (.bool true) ?_ ?_
   ·rintro w ⟨z1,z2,z3,z4,z5,z6,z7⟩
    unfold rq44
    go_simp
   simp only[rq44d,Act.put,lsA,lsZ,lsS]
   refine tki hQP hS 45 rq45 (.bool true) ?_ ?_
   ·rintro w ⟨z1,z2,z3,z4,z5,z6,z7⟩
    unfold rq45
    go_simp
   simp only[rq45d,Act.put,lsA,lsZ,lsS]
   refine tku hQP hS 46 rq46 ?_
   simp only[rq46d,Act.put,lsA,lsZ,lsS]
   refine tku hQP hS 47 rq47 ?_
   simp only[rq47d,Act.put,lsA,lsZ,lsS]
   refine tku hQP hS 48 rq48 ?_
   simp only[rq48d,Act.put,lsA,lsZ,lsS]
   refine tku hQP hS 49 rq49 ?_
   simp only[rq49d,Act.put,lsA,lsZ,lsS]
   refine tku hQP hS 50 rq50 ?_
   simp only[rq50d,Act.put,lsA,lsZ,lsS]
   refine tku hQP hS 51 rq51 ?_
   simp only[rq51d,Act.put,lsA,lsZ,lsS]
   refine tku hQP hS 52 rq52 ?_
   simp only[rq52d,Act.put,lsA,lsZ,lsS]
   refine tku hQP hS 53 rq53 ?_
   simp only[rq53d,Act.put,lsA,lsZ,lsS]
   refine tku hQP hS 54 rq54 ?_
   simp only[rq54d,Act.put,lsA,lsZ,lsS]
   refine tki hQP hS 55 rq55 (.bool true) ?_ ?_
   ·rintro w ⟨z1,z2,z3,z4,z5,z6,z7⟩
    unfold rq55
    go_simp
   simp only[rq55d,Act.put,lsA,lsZ,lsS]
   refine tki hQP hS 56 rq56 (.bool true) ?_ ?_
   ·rintro w ⟨z1,z2,z3,z4,z5,z6,z7⟩
    unfold rq56
    go_simp
   simp only[rq56d,Act.put,lsA,lsZ,lsS]
   refine tku hQP hS 57 rq57 ?_
   simp only[rq57d,Act.put,lsA,lsZ,lsS]
   refine tku hQP hS 58 rq58 ?_
   simp only[rq58d,Act.put,lsA,lsZ,lsS]
   refine tku hQP hS 59 rq59 ?_
   simp only[rq59d,Act.put,lsA,lsZ,lsS]
   refine tki hQP hS 60 rq60 (.bool true) ?_ ?_
   ·rintro w ⟨z1,z2,z3,z4,z5,z6,z7⟩
    unfold rq60
    go_simp
   simp only[rq60d,Act.put,lsA,lsZ,lsS]
   refine tki hQP hS 61 rq61 (.bool true) ?_ ?_
   ·rintro w ⟨z1,z2,z3,z4,z5,z6,z7⟩
    unfold rq61
    go_simp
   simp only[rq61d,Act.put,lsA,lsZ,lsS]
   refine tku hQP hS 62 rq62 ?_
   simp only[rq62d,Act.put,lsA,lsZ,lsS]
   refine tku hQP hS 63 rq63 ?_
   simp only[rq63d,Act.put,lsA,lsZ,lsS]
   refine tku hQP hS 64 rq64 ?_
   simp only[rq64d,Act.put,lsA,lsZ,lsS]
   refine tku hQP hS 65 rq65 ?_
   simp only[rq65d,Act.put,lsA,lsZ,lsS]
   refine tku hQP hS 66 rq66 ?_
   simp only[rq66d,Act.put,lsA,lsZ,lsS]
   refine tku hQP hS 67 rq67 ?_
   simp only[rq67d,Act.put,lsA,lsZ,lsS]
   refine tku hQP hS 68 rq68 ?_
   simp only[rq68d,Act.put,lsA,lsZ,lsS]
   refine tku hQP hS 69 rq69 ?_
   simp only[rq69d,Act.put,lsA,lsZ,lsS]
   refine tku hQP hS 70 rq70 ?_
   simp only[rq70d,Act.put,lsA,lsZ,lsS]
   refine tki hQP hS 71 rq71 (.bool true) ?_ ?_
   ·rintro w ⟨z1,z2,z3,z4,z5,z6,z7⟩
    unfold rq71
    go_simp
   simp only[rq71d,Act.put,lsA,lsZ,lsS]
   exact wpAnyH_done (by kernel_rfl) (hQ _ _ _ _ _ _ _ _ _ _ _ _ _ _ _ _ _ _ _ _ _ _ _ _ _ _ _ _ _ _ _ _ _ _ _ _ _ _ _ _ _ _ _ _ _ _ _ _ _ _ _ _ _ _ _ _ _ _ _ _ _ _ _ _ _ _ _ _ _ _ _ _ _ (by first|rfl|(simp only[q1,q2];rfl)|simp[q1,q2]) B) _
 ·refine tki hQP hS 7 rq7 (.bool true) ?_ ?_
  ·rintro w ⟨z1,z2,z3,z4,z5,z6,z7⟩
   unfold rq7
   go_simp
   all_goals (have hq:=q1;simp at hq ⊢;first|omega|assumption|exact hq|grind)
  simp only[rq7d,Act.put,lsA,lsZ,lsS]
  refine tki hQP hS 8 rq8 (.bool true) ?_ ?_
  ·rintro w ⟨z1,z2,z3,z4,z5,z6,z7⟩
   unfold rq8
   go_simp
  simp only[rq8d,Act.put,lsA,lsZ,lsS]
  refine tki hQP hS 9 rq9 (.bool true) ?_ ?_
  ·rintro w ⟨z1,z2,z3,z4,z5,z6,z7⟩
   unfold rq9
   go_simp
  simp only[rq9d,Act.put,lsA,lsZ,lsS]
  refine tku hQP hS 10 rq10 ?_
  simp only[rq10d,Act.put,lsA,lsZ,lsS]
  refine tku hQP hS 11 rq11 ?_
  simp only[rq11d,Act.put,lsA,lsZ,lsS]
  refine tku hQP hS 12 rq12 ?_
  simp only[rq12d,Act.put,lsA,lsZ,lsS]
  refine tku hQP hS 13 rq13 ?_
  simp only[rq13d,Act.put,lsA,lsZ,lsS]
  refine tku hQP hS 14 rq14 ?_
  simp only[rq14d,Act.put,lsA,lsZ,lsS]
  refine tki hQP hS 15 rq15 (.bool true) ?_ ?_
  ·rintro w ⟨z1,z2,z3,z4,z5,z6,z7⟩
   unfold rq15
   go_simp
  simp only[rq15d,Act.put,lsA,lsZ,lsS]
  refine tki hQP hS 16 rq16 (.bool true) ?_ ?_
  ·rintro w ⟨z1,z2,z3,z4,z5,z6,z7⟩
   unfold rq16
   go_simp
  simp only[rq16d,Act.put,lsA,lsZ,lsS]
  refine tku hQP hS 17 rq17 ?_
  simp only[rq17d,Act.put,lsA,lsZ,lsS]
  refine tku hQP hS 18 rq18 ?_
  simp only[rq18d,Act.put,lsA,lsZ,lsS]
  refine tku hQP hS 19 rq19 ?_
  simp only[rq19d,Act.put,lsA,lsZ,lsS]
  refine tku hQP hS 20 rq20 ?_
  simp only[rq20d,Act.put,lsA,lsZ,lsS]
  refine tku hQP hS 21 rq21 ?_
  simp only[rq21d,Act.put,lsA,lsZ,lsS]
  refine tku hQP hS 22 rq22 ?_
  simp only[rq22d,Act.put,lsA,lsZ,lsS]
  refine tku hQP hS 23 rq23 ?_
  simp only[rq23d,Act.put,lsA,lsZ,lsS]
  refine tki hQP hS 24 rq24 (.bool true) ?_ ?_
  ·rintro w ⟨z1,z2,z3,z4,z5,z6,z7⟩
   unfold rq24
   go_simp
  simp only[rq24d,Act.put,lsA,lsZ,lsS]
  refine tki hQP hS 25 rq25 (.bool true) ?_ ?_
  ·rintro w ⟨z1,z2,z3,z4,z5,z6,z7⟩
   unfold rq25
   go_simp
  simp only[rq25d,Act.put,lsA,lsZ,lsS]
  refine tku hQP hS 26 rq26 ?_
  simp only[rq26d,Act.put,lsA,lsZ,lsS]
  refine tku hQP hS 27 rq27 ?_
  simp only[rq27d,Act.put,lsA,lsZ,lsS]
  refine tku hQP hS 28 rq28 ?_
  simp only[rq28d,Act.put,lsA,lsZ,lsS]
  refine tku hQP hS 29 rq29 ?_
  simp only[rq29d,Act.put,lsA,lsZ,lsS]
  refine tku hQP hS 30 rq30 ?_
  simp only[rq30d,Act.put,lsA,lsZ,lsS]
  refine tku hQP hS 31 rq31 ?_
  simp only[rq31d,Act.put,lsA,lsZ,lsS]
  refine tku hQP hS 32 rq32 ?_
  simp only[rq32d,Act.put,lsA,lsZ,lsS]
  refine tki hQP hS 33 rq33 (.bool true) ?_ ?_
  ·rintro w ⟨z1,z2,z3,z4,z5,z6,z7⟩
   unfold rq33
   go_simp
  simp only[rq33d,Act.put,lsA,lsZ,lsS]
  refine tki hQP hS 34 rq34 (.bool true) ?_ ?_
  ·rintro w ⟨z1,z2,z3,z4,z5,z6,z7⟩
   unfold rq34
   go_simp
  simp only[rq34d,Act.put,lsA,lsZ,lsS]
  refine tku hQP hS 35 rq35 ?_
  simp only[rq35d,Act.put,lsA,lsZ,lsS]
  refine tku hQP hS 36 rq36 ?_
  simp only[rq36d,Act.put,lsA,lsZ,lsS]
  refine tku hQP hS 37 rq37 ?_
  simp only[rq37d,Act.put,lsA,lsZ,lsS]
  refine tku hQP hS 38 rq38 ?_
  simp only[rq38d,Act.put,lsA,lsZ,lsS]
  refine tku hQP hS 39 rq39 ?_
  simp only[rq39d,Act.put,lsA,lsZ,lsS]
  refine tku hQP hS 40 rq40 ?_
  simp only[rq40d,Act.put,lsA,lsZ,lsS]
  refine tku hQP hS 41 rq41 ?_
  simp only[rq41d,Act.put,lsA,lsZ,lsS]
  refine tku hQP hS 42 rq42 ?_
  simp only[rq42d,Act.put,lsA,lsZ,lsS]
  refine tku hQP hS 43 rq43 ?_
  simp only[rq43d,Act.put,lsA,lsZ,lsS]
  refine tki hQP hS 44 rq44 (.bool true) ?_ ?_
  ·rintro w ⟨z1,z2,z3,z4,z5,z6,z7⟩
   unfold rq44
   go_simp
  simp only[rq44d,Act.put,lsA,lsZ,lsS]
  refine tki hQP hS 45 rq45 (.bool true) ?_ ?_
  ·rintro w ⟨z1,z2,z3,z4,z5,z6,z7⟩
   unfold rq45
   go_simp
  simp only[rq45d,Act.put,lsA,lsZ,lsS]
  refine tku hQP hS 46 rq46 ?_
  simp only[rq46d,Act.put,lsA,lsZ,lsS]
  refine tku hQP hS 47 rq47 ?_
  simp only[rq47d,Act.put,lsA,lsZ,lsS]
  refine tku hQP hS 48 rq48 ?_
  simp only[rq48d,Act.put,lsA,lsZ,lsS]
  refine tku hQP hS 49 rq49 ?_
  simp only[rq49d,Act.put,lsA,lsZ,lsS]
  refine tku hQP hS 50 rq50 ?_
  simp only[rq50d,Act.put,lsA,lsZ,lsS]
  refine tku hQP hS 51 rq51 ?_
  simp only[rq51d,Act.put,lsA,lsZ,lsS]
  refine tku hQP hS 52 rq52 ?_
  simp only[rq52d,Act.put,lsA,lsZ,lsS]
  refine tku hQP hS 53 rq53 ?_
  simp only[rq53d,Act.put,lsA,lsZ,lsS]
  refine tku hQP hS 54 rq54 ?_
  simp only[rq54d,Act.put,lsA,lsZ,lsS]
  refine tki hQP hS 55 rq55 (.bool true) ?_ ?_
  ·rintro w ⟨z1,z2,z3,z4,z5,z6,z7⟩
   unfold rq55
   go_simp
  simp only[rq55d,Act.put,lsA,lsZ,lsS]
  refine tki hQP hS 56 rq56 (.bool true) ?_ ?_
  ·rintro w ⟨z1,z2,z3,z4,z5,z6,z7⟩
   unfold rq56
   go_simp
  simp only[rq56d,Act.put,lsA,lsZ,lsS]
  refine tku hQP hS 57 rq57 ?_
  simp only[rq57d,Act.put,lsA,lsZ,lsS]
  refine tku hQP hS 58 rq58 ?_
  simp only[rq58d,Act.put,lsA,lsZ,lsS]
  refine tku hQP hS 59 rq59 ?_
  simp only[rq59d,Act.put,lsA,lsZ,lsS]
  refine tki hQP hS 60 rq60 (.bool true) ?_ ?_
  ·rintro w ⟨z1,z2,z3,z4,z5,z6,z7⟩
   unfold rq60
   go_simp
  simp only[rq60d,Act.put,lsA,lsZ,lsS]
  refine tki hQP hS 61 rq61 (.bool true) ?_ ?_
  ·rintro w ⟨z1,z2,z3,z4,z5,z6,z7⟩
   unfold rq61
   go_simp
  simp only[rq61d,Act.put,lsA,lsZ,lsS]
  refine tku hQP hS 62 rq62 ?_
  simp only[rq62d,Act.put,lsA,lsZ,lsS]
  refine tku hQP hS 63 rq63 ?_
  simp only[rq63d,Act.put,lsA,lsZ,lsS]
  refine tku hQP hS 64 rq64 ?_
  simp only[rq64d,Act.put,lsA,lsZ,lsS]
  refine tku hQP hS 65 rq65 ?_
  simp only[rq65d,Act.put,lsA,lsZ,lsS]
  refine tku hQP hS 66 rq66 ?_
  simp only[rq66d,Act.put,lsA,lsZ,lsS]
  refine tku hQP hS 67 rq67 ?_
  simp only[rq67d,Act.put,lsA,lsZ,lsS]
  refine tku hQP hS 68 rq68 ?_
  simp only[rq68d,Act.put,lsA,lsZ,lsS]
  refine tku hQP hS 69 rq69 ?_
  simp only[rq69d,Act.put,lsA,lsZ,lsS]
  refine tku hQP hS 70 rq70 ?_
  simp only[rq70d,Act.put,lsA,lsZ,lsS]
  refine tki hQP hS 71 rq71 (.bool true) ?_ ?_
  ·rintro w ⟨z1,z2,z3,z4,z5,z6,z7⟩
   unfold rq71
   go_simp
  simp only[rq71d,Act.put,lsA,lsZ,lsS]
  exact wpAnyH_done (by kernel_rfl) (hQ _ _ _ _ _ _ _ _ _ _ _ _ _ _ _ _ _ _ _ _ _ _ _ _ _ _ _ _ _ _ _ _ _ _ _ _ _ _ _ _ _ _ _ _ _ _ _ _ _ _ _ _ _ _ _ _ _ _ _ _ _ _ _ _ _ _ _ _ _ _ _ _ _ (by first|rfl|(simp only[q1];rfl)|simp[q1]) B) _
end Go.Proofs.YtpbjikncobnkjaaGreatDoor
