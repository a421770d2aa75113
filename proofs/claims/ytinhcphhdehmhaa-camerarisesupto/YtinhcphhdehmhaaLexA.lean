/- The operations of a great region that only reads: the order of the text serves. -/
import Derived.Test.YtinhcphhdehmhaaProg
import Derived.WalkKit
import Derived.BigQuiet
namespace Go.Proofs.Ytinhcphhdehmhaa
open Go Go.RowKit
set_option maxRecDepth 100000

def opsA : List Oper := { dst := some 17, op := Op.move (Operand.tmp 0), type := 68, pos := "mem.go:155", after := #[], guard := none } ::
  { dst := some 18, op := Op.move (Operand.tmp 5), type := 3, pos := "mem.go:155", after := #[], guard := none } ::
  { dst := some 19, op := Op.indexAddr 68 (Operand.tmp 17) (Operand.tmp 18), type := 0, pos := "mem.go:155", after := #[{ on := 0, ground := Ground.data }, { on := 1, ground := Ground.data }], guard := none } ::
  { dst := some 20, op := Op.fieldAddr 92 (Operand.tmp 19) 0, type := 0, pos := "mem.go:155", after := #[{ on := 2, ground := Ground.data }], guard := none } ::
  { dst := some 21, op := Op.load 3 (Operand.tmp 20), type := 3, pos := "mem.go:155", after := #[{ on := 3, ground := Ground.data }], guard := none } ::
  { dst := some 22, op := Op.move (Operand.tmp 1), type := 68, pos := "mem.go:155", after := #[], guard := none } ::
  { dst := some 23, op := Op.move (Operand.tmp 5), type := 3, pos := "mem.go:155", after := #[], guard := none } ::
  { dst := some 24, op := Op.indexAddr 68 (Operand.tmp 22) (Operand.tmp 23), type := 0, pos := "mem.go:155", after := #[{ on := 5, ground := Ground.data }, { on := 6, ground := Ground.data }], guard := none } ::
  { dst := some 25, op := Op.fieldAddr 92 (Operand.tmp 24) 0, type := 0, pos := "mem.go:155", after := #[{ on := 7, ground := Ground.data }], guard := none } ::
  { dst := some 26, op := Op.load 3 (Operand.tmp 25), type := 3, pos := "mem.go:155", after := #[{ on := 8, ground := Ground.data }], guard := none } ::
  { dst := some 27, op := Op.binOp BinOp.neq 3 (Operand.tmp 21) (Operand.tmp 26) 3, type := 4, pos := "mem.go:155", after := #[{ on := 4, ground := Ground.data }, { on := 9, ground := Ground.data }], guard := none } ::
  { dst := some 28, op := Op.move (Operand.tmp 27), type := 4, pos := "mem.go:155", after := #[{ on := 10, ground := Ground.data }], guard := none } ::
  { dst := some 29, op := Op.move (Operand.tmp 0), type := 68, pos := "mem.go:155", after := #[{ on := 11, ground := Ground.guard }], guard := some (11, false) } ::
  { dst := some 30, op := Op.move (Operand.tmp 5), type := 3, pos := "mem.go:155", after := #[{ on := 11, ground := Ground.guard }], guard := some (11, false) } ::
  { dst := some 31, op := Op.indexAddr 68 (Operand.tmp 29) (Operand.tmp 30), type := 0, pos := "mem.go:155", after := #[{ on := 12, ground := Ground.data }, { on := 13, ground := Ground.data }, { on := 11, ground := Ground.guard }], guard := some (11, false) } ::
  { dst := some 32, op := Op.fieldAddr 92 (Operand.tmp 31) 1, type := 0, pos := "mem.go:155", after := #[{ on := 14, ground := Ground.data }, { on := 11, ground := Ground.guard }], guard := some (11, false) } ::
  { dst := some 33, op := Op.load 90 (Operand.tmp 32), type := 90, pos := "mem.go:155", after := #[{ on := 15, ground := Ground.data }, { on := 11, ground := Ground.guard }], guard := some (11, false) } ::
  { dst := some 34, op := Op.move (Operand.tmp 1), type := 68, pos := "mem.go:155", after := #[{ on := 11, ground := Ground.guard }], guard := some (11, false) } ::
  { dst := some 35, op := Op.move (Operand.tmp 5), type := 3, pos := "mem.go:155", after := #[{ on := 11, ground := Ground.guard }], guard := some (11, false) } ::
  { dst := some 36, op := Op.indexAddr 68 (Operand.tmp 34) (Operand.tmp 35), type := 0, pos := "mem.go:155", after := #[{ on := 17, ground := Ground.data }, { on := 18, ground := Ground.data }, { on := 11, ground := Ground.guard }], guard := some (11, false) } ::
  { dst := some 37, op := Op.fieldAddr 92 (Operand.tmp 36) 1, type := 0, pos := "mem.go:155", after := #[{ on := 19, ground := Ground.data }, { on := 11, ground := Ground.guard }], guard := some (11, false) } ::
  { dst := some 38, op := Op.load 90 (Operand.tmp 37), type := 90, pos := "mem.go:155", after := #[{ on := 20, ground := Ground.data }, { on := 11, ground := Ground.guard }], guard := some (11, false) } ::
  { dst := some 39, op := Op.binOp BinOp.neq 90 (Operand.tmp 33) (Operand.tmp 38) 90, type := 4, pos := "mem.go:155", after := #[{ on := 16, ground := Ground.data }, { on := 21, ground := Ground.data }, { on := 11, ground := Ground.guard }], guard := some (11, false) } ::
  { dst := some 40, op := Op.pick (Operand.tmp 28) (Operand.const (Value.bool true)) (Operand.tmp 39), type := 4, pos := "mem.go:155", after := #[{ on := 11, ground := Ground.data }, { on := 22, ground := Ground.data }], guard := none } ::
  { dst := some 41, op := Op.move (Operand.tmp 40), type := 4, pos := "mem.go:155", after := #[{ on := 23, ground := Ground.data }, { on := 11, ground := Ground.chain }], guard := none } ::
  { dst := some 42, op := Op.move (Operand.tmp 0), type := 68, pos := "mem.go:155", after := #[{ on := 24, ground := Ground.guard }], guard := some (24, false) } ::
  { dst := some 43, op := Op.move (Operand.tmp 5), type := 3, pos := "mem.go:155", after := #[{ on := 24, ground := Ground.guard }], guard := some (24, false) } ::
  { dst := some 44, op := Op.indexAddr 68 (Operand.tmp 42) (Operand.tmp 43), type := 0, pos := "mem.go:155", after := #[{ on := 25, ground := Ground.data }, { on := 26, ground := Ground.data }, { on := 24, ground := Ground.guard }], guard := some (24, false) } ::
  { dst := some 45, op := Op.fieldAddr 92 (Operand.tmp 44) 2, type := 0, pos := "mem.go:155", after := #[{ on := 27, ground := Ground.data }, { on := 24, ground := Ground.guard }], guard := some (24, false) } ::
  { dst := some 46, op := Op.load 22 (Operand.tmp 45), type := 22, pos := "mem.go:155", after := #[{ on := 28, ground := Ground.data }, { on := 24, ground := Ground.guard }], guard := some (24, false) } ::
  { dst := some 47, op := Op.move (Operand.tmp 1), type := 68, pos := "mem.go:155", after := #[{ on := 24, ground := Ground.guard }], guard := some (24, false) } ::
  { dst := some 48, op := Op.move (Operand.tmp 5), type := 3, pos := "mem.go:155", after := #[{ on := 24, ground := Ground.guard }], guard := some (24, false) } ::
  { dst := some 49, op := Op.indexAddr 68 (Operand.tmp 47) (Operand.tmp 48), type := 0, pos := "mem.go:155", after := #[{ on := 30, ground := Ground.data }, { on := 31, ground := Ground.data }, { on := 24, ground := Ground.guard }], guard := some (24, false) } ::
  { dst := some 50, op := Op.fieldAddr 92 (Operand.tmp 49) 2, type := 0, pos := "mem.go:155", after := #[{ on := 32, ground := Ground.data }, { on := 24, ground := Ground.guard }], guard := some (24, false) } ::
  { dst := some 51, op := Op.load 22 (Operand.tmp 50), type := 22, pos := "mem.go:155", after := #[{ on := 33, ground := Ground.data }, { on := 24, ground := Ground.guard }], guard := some (24, false) } ::
  { dst := some 52, op := Op.binOp BinOp.neq 22 (Operand.tmp 46) (Operand.tmp 51) 22, type := 4, pos := "mem.go:155", after := #[{ on := 29, ground := Ground.data }, { on := 34, ground := Ground.data }, { on := 24, ground := Ground.guard }], guard := some (24, false) } ::
  { dst := some 53, op := Op.pick (Operand.tmp 41) (Operand.const (Value.bool true)) (Operand.tmp 52), type := 4, pos := "mem.go:155", after := #[{ on := 24, ground := Ground.data }, { on := 35, ground := Ground.data }], guard := none } ::
  { dst := some 54, op := Op.move (Operand.tmp 53), type := 4, pos := "mem.go:155", after := #[{ on := 36, ground := Ground.data }, { on := 24, ground := Ground.chain }], guard := none } ::
  { dst := some 55, op := Op.move (Operand.tmp 0), type := 68, pos := "mem.go:155", after := #[{ on := 37, ground := Ground.guard }], guard := some (37, false) } ::
  { dst := some 56, op := Op.move (Operand.tmp 5), type := 3, pos := "mem.go:155", after := #[{ on := 37, ground := Ground.guard }], guard := some (37, false) } ::
  { dst := some 57, op := Op.indexAddr 68 (Operand.tmp 55) (Operand.tmp 56), type := 0, pos := "mem.go:155", after := #[{ on := 38, ground := Ground.data }, { on := 39, ground := Ground.data }, { on := 37, ground := Ground.guard }], guard := some (37, false) } ::
  { dst := some 58, op := Op.fieldAddr 92 (Operand.tmp 57) 3, type := 0, pos := "mem.go:155", after := #[{ on := 40, ground := Ground.data }, { on := 37, ground := Ground.guard }], guard := some (37, false) } ::
  { dst := some 59, op := Op.load 22 (Operand.tmp 58), type := 22, pos := "mem.go:155", after := #[{ on := 41, ground := Ground.data }, { on := 37, ground := Ground.guard }], guard := some (37, false) } ::
  { dst := some 60, op := Op.move (Operand.tmp 1), type := 68, pos := "mem.go:155", after := #[{ on := 37, ground := Ground.guard }], guard := some (37, false) } ::
  { dst := some 61, op := Op.move (Operand.tmp 5), type := 3, pos := "mem.go:155", after := #[{ on := 37, ground := Ground.guard }], guard := some (37, false) } ::
  { dst := some 62, op := Op.indexAddr 68 (Operand.tmp 60) (Operand.tmp 61), type := 0, pos := "mem.go:155", after := #[{ on := 43, ground := Ground.data }, { on := 44, ground := Ground.data }, { on := 37, ground := Ground.guard }], guard := some (37, false) } ::
  { dst := some 63, op := Op.fieldAddr 92 (Operand.tmp 62) 3, type := 0, pos := "mem.go:155", after := #[{ on := 45, ground := Ground.data }, { on := 37, ground := Ground.guard }], guard := some (37, false) } ::
  { dst := some 64, op := Op.load 22 (Operand.tmp 63), type := 22, pos := "mem.go:155", after := #[{ on := 46, ground := Ground.data }, { on := 37, ground := Ground.guard }], guard := some (37, false) } ::
  { dst := some 65, op := Op.binOp BinOp.neq 22 (Operand.tmp 59) (Operand.tmp 64) 22, type := 4, pos := "mem.go:155", after := #[{ on := 42, ground := Ground.data }, { on := 47, ground := Ground.data }, { on := 37, ground := Ground.guard }], guard := some (37, false) } ::
  { dst := some 66, op := Op.pick (Operand.tmp 54) (Operand.const (Value.bool true)) (Operand.tmp 65), type := 4, pos := "mem.go:155", after := #[{ on := 37, ground := Ground.data }, { on := 48, ground := Ground.data }], guard := none } ::
  { dst := some 67, op := Op.move (Operand.tmp 66), type := 4, pos := "mem.go:155", after := #[{ on := 49, ground := Ground.data }, { on := 37, ground := Ground.chain }], guard := none } ::
  { dst := some 68, op := Op.move (Operand.tmp 0), type := 68, pos := "mem.go:155", after := #[{ on := 50, ground := Ground.guard }], guard := some (50, false) } ::
  { dst := some 69, op := Op.move (Operand.tmp 5), type := 3, pos := "mem.go:155", after := #[{ on := 50, ground := Ground.guard }], guard := some (50, false) } ::
  { dst := some 70, op := Op.indexAddr 68 (Operand.tmp 68) (Operand.tmp 69), type := 0, pos := "mem.go:155", after := #[{ on := 51, ground := Ground.data }, { on := 52, ground := Ground.data }, { on := 50, ground := Ground.guard }], guard := some (50, false) } ::
  { dst := some 71, op := Op.fieldAddr 92 (Operand.tmp 70) 4, type := 0, pos := "mem.go:155", after := #[{ on := 53, ground := Ground.data }, { on := 50, ground := Ground.guard }], guard := some (50, false) } ::
  { dst := some 72, op := Op.load 22 (Operand.tmp 71), type := 22, pos := "mem.go:155", after := #[{ on := 54, ground := Ground.data }, { on := 50, ground := Ground.guard }], guard := some (50, false) } ::
  { dst := some 73, op := Op.move (Operand.tmp 1), type := 68, pos := "mem.go:155", after := #[{ on := 50, ground := Ground.guard }], guard := some (50, false) } ::
  { dst := some 74, op := Op.move (Operand.tmp 5), type := 3, pos := "mem.go:155", after := #[{ on := 50, ground := Ground.guard }], guard := some (50, false) } ::
  { dst := some 75, op := Op.indexAddr 68 (Operand.tmp 73) (Operand.tmp 74), type := 0, pos := "mem.go:155", after := #[{ on := 56, ground := Ground.data }, { on := 57, ground := Ground.data }, { on := 50, ground := Ground.guard }], guard := some (50, false) } ::
  { dst := some 76, op := Op.fieldAddr 92 (Operand.tmp 75) 4, type := 0, pos := "mem.go:155", after := #[{ on := 58, ground := Ground.data }, { on := 50, ground := Ground.guard }], guard := some (50, false) } ::
  { dst := some 77, op := Op.load 22 (Operand.tmp 76), type := 22, pos := "mem.go:155", after := #[{ on := 59, ground := Ground.data }, { on := 50, ground := Ground.guard }], guard := some (50, false) } ::
  { dst := some 78, op := Op.binOp BinOp.neq 22 (Operand.tmp 72) (Operand.tmp 77) 22, type := 4, pos := "mem.go:155", after := #[{ on := 55, ground := Ground.data }, { on := 60, ground := Ground.data }, { on := 50, ground := Ground.guard }], guard := some (50, false) } ::
  { dst := some 79, op := Op.pick (Operand.tmp 67) (Operand.const (Value.bool true)) (Operand.tmp 78), type := 4, pos := "mem.go:155", after := #[{ on := 50, ground := Ground.data }, { on := 61, ground := Ground.data }], guard := none } ::
  { dst := some 80, op := Op.move (Operand.tmp 79), type := 4, pos := "mem.go:155", after := #[{ on := 62, ground := Ground.data }, { on := 50, ground := Ground.chain }], guard := none } ::
  { dst := some 81, op := Op.move (Operand.tmp 0), type := 68, pos := "mem.go:155", after := #[{ on := 63, ground := Ground.guard }], guard := some (63, false) } ::
  { dst := some 82, op := Op.move (Operand.tmp 5), type := 3, pos := "mem.go:155", after := #[{ on := 63, ground := Ground.guard }], guard := some (63, false) } ::
  { dst := some 83, op := Op.indexAddr 68 (Operand.tmp 81) (Operand.tmp 82), type := 0, pos := "mem.go:155", after := #[{ on := 64, ground := Ground.data }, { on := 65, ground := Ground.data }, { on := 63, ground := Ground.guard }], guard := some (63, false) } ::
  { dst := some 84, op := Op.fieldAddr 92 (Operand.tmp 83) 6, type := 0, pos := "mem.go:155", after := #[{ on := 66, ground := Ground.data }, { on := 63, ground := Ground.guard }], guard := some (63, false) } ::
  { dst := some 85, op := Op.load 22 (Operand.tmp 84), type := 22, pos := "mem.go:155", after := #[{ on := 67, ground := Ground.data }, { on := 63, ground := Ground.guard }], guard := some (63, false) } ::
  { dst := some 86, op := Op.move (Operand.tmp 1), type := 68, pos := "mem.go:155", after := #[{ on := 63, ground := Ground.guard }], guard := some (63, false) } ::
  { dst := some 87, op := Op.move (Operand.tmp 5), type := 3, pos := "mem.go:155", after := #[{ on := 63, ground := Ground.guard }], guard := some (63, false) } ::
  { dst := some 88, op := Op.indexAddr 68 (Operand.tmp 86) (Operand.tmp 87), type := 0, pos := "mem.go:155", after := #[{ on := 69, ground := Ground.data }, { on := 70, ground := Ground.data }, { on := 63, ground := Ground.guard }], guard := some (63, false) } ::
  { dst := some 89, op := Op.fieldAddr 92 (Operand.tmp 88) 6, type := 0, pos := "mem.go:155", after := #[{ on := 71, ground := Ground.data }, { on := 63, ground := Ground.guard }], guard := some (63, false) } ::
  { dst := some 90, op := Op.load 22 (Operand.tmp 89), type := 22, pos := "mem.go:155", after := #[{ on := 72, ground := Ground.data }, { on := 63, ground := Ground.guard }], guard := some (63, false) } ::
  { dst := some 91, op := Op.binOp BinOp.neq 22 (Operand.tmp 85) (Operand.tmp 90) 22, type := 4, pos := "mem.go:155", after := #[{ on := 68, ground := Ground.data }, { on := 73, ground := Ground.data }, { on := 63, ground := Ground.guard }], guard := some (63, false) } ::
  { dst := some 92, op := Op.pick (Operand.tmp 80) (Operand.const (Value.bool true)) (Operand.tmp 91), type := 4, pos := "mem.go:155", after := #[{ on := 63, ground := Ground.data }, { on := 74, ground := Ground.data }], guard := none } ::
  { dst := some 93, op := Op.move (Operand.tmp 92), type := 4, pos := "mem.go:155", after := #[{ on := 75, ground := Ground.data }, { on := 63, ground := Ground.chain }], guard := none } ::
  { dst := some 94, op := Op.move (Operand.tmp 0), type := 68, pos := "mem.go:155", after := #[{ on := 76, ground := Ground.guard }], guard := some (76, false) } ::
  { dst := some 95, op := Op.move (Operand.tmp 5), type := 3, pos := "mem.go:155", after := #[{ on := 76, ground := Ground.guard }], guard := some (76, false) } ::
  { dst := some 96, op := Op.indexAddr 68 (Operand.tmp 94) (Operand.tmp 95), type := 0, pos := "mem.go:155", after := #[{ on := 77, ground := Ground.data }, { on := 78, ground := Ground.data }, { on := 76, ground := Ground.guard }], guard := some (76, false) } ::
  { dst := some 97, op := Op.fieldAddr 92 (Operand.tmp 96) 7, type := 0, pos := "mem.go:155", after := #[{ on := 79, ground := Ground.data }, { on := 76, ground := Ground.guard }], guard := some (76, false) } ::
  { dst := some 98, op := Op.load 4 (Operand.tmp 97), type := 4, pos := "mem.go:155", after := #[{ on := 80, ground := Ground.data }, { on := 76, ground := Ground.guard }], guard := some (76, false) } ::
  { dst := some 99, op := Op.move (Operand.tmp 1), type := 68, pos := "mem.go:155", after := #[{ on := 76, ground := Ground.guard }], guard := some (76, false) } ::
  { dst := some 100, op := Op.move (Operand.tmp 5), type := 3, pos := "mem.go:155", after := #[{ on := 76, ground := Ground.guard }], guard := some (76, false) } ::
  { dst := some 101, op := Op.indexAddr 68 (Operand.tmp 99) (Operand.tmp 100), type := 0, pos := "mem.go:155", after := #[{ on := 82, ground := Ground.data }, { on := 83, ground := Ground.data }, { on := 76, ground := Ground.guard }], guard := some (76, false) } ::
  { dst := some 102, op := Op.fieldAddr 92 (Operand.tmp 101) 7, type := 0, pos := "mem.go:155", after := #[{ on := 84, ground := Ground.data }, { on := 76, ground := Ground.guard }], guard := some (76, false) } ::
  { dst := some 103, op := Op.load 4 (Operand.tmp 102), type := 4, pos := "mem.go:155", after := #[{ on := 85, ground := Ground.data }, { on := 76, ground := Ground.guard }], guard := some (76, false) } ::
  { dst := some 104, op := Op.binOp BinOp.neq 4 (Operand.tmp 98) (Operand.tmp 103) 4, type := 4, pos := "mem.go:155", after := #[{ on := 81, ground := Ground.data }, { on := 86, ground := Ground.data }, { on := 76, ground := Ground.guard }], guard := some (76, false) } ::
  { dst := some 105, op := Op.pick (Operand.tmp 93) (Operand.const (Value.bool true)) (Operand.tmp 104), type := 4, pos := "mem.go:155", after := #[{ on := 76, ground := Ground.data }, { on := 87, ground := Ground.data }], guard := none } ::
  { dst := some 106, op := Op.move (Operand.tmp 105), type := 4, pos := "mem.go:155", after := #[{ on := 88, ground := Ground.data }, { on := 76, ground := Ground.chain }], guard := none } ::
  { dst := some 107, op := Op.move (Operand.tmp 0), type := 68, pos := "mem.go:155", after := #[{ on := 89, ground := Ground.guard }], guard := some (89, false) } ::
  { dst := some 108, op := Op.move (Operand.tmp 5), type := 3, pos := "mem.go:155", after := #[{ on := 89, ground := Ground.guard }], guard := some (89, false) } ::
  { dst := some 109, op := Op.indexAddr 68 (Operand.tmp 107) (Operand.tmp 108), type := 0, pos := "mem.go:155", after := #[{ on := 90, ground := Ground.data }, { on := 91, ground := Ground.data }, { on := 89, ground := Ground.guard }], guard := some (89, false) } ::
  { dst := some 110, op := Op.fieldAddr 92 (Operand.tmp 109) 5, type := 0, pos := "mem.go:155", after := #[{ on := 92, ground := Ground.data }, { on := 89, ground := Ground.guard }], guard := some (89, false) } ::
  { dst := some 111, op := Op.load 70 (Operand.tmp 110), type := 70, pos := "mem.go:155", after := #[{ on := 93, ground := Ground.data }, { on := 89, ground := Ground.guard }], guard := some (89, false) } ::
  { dst := some 112, op := Op.move (Operand.tmp 1), type := 68, pos := "mem.go:155", after := #[{ on := 89, ground := Ground.guard }], guard := some (89, false) } ::
  { dst := some 113, op := Op.move (Operand.tmp 5), type := 3, pos := "mem.go:155", after := #[{ on := 89, ground := Ground.guard }], guard := some (89, false) } ::
  { dst := some 114, op := Op.indexAddr 68 (Operand.tmp 112) (Operand.tmp 113), type := 0, pos := "mem.go:155", after := #[{ on := 95, ground := Ground.data }, { on := 96, ground := Ground.data }, { on := 89, ground := Ground.guard }], guard := some (89, false) } ::
  { dst := some 115, op := Op.fieldAddr 92 (Operand.tmp 114) 5, type := 0, pos := "mem.go:155", after := #[{ on := 97, ground := Ground.data }, { on := 89, ground := Ground.guard }], guard := some (89, false) } ::
  { dst := some 116, op := Op.load 70 (Operand.tmp 115), type := 70, pos := "mem.go:155", after := #[{ on := 98, ground := Ground.data }, { on := 89, ground := Ground.guard }], guard := some (89, false) } ::
  { dst := some 117, op := Op.call { callee := Callee.value (Operand.func 39), args := #[Operand.tmp 111, Operand.tmp 116], argTypes := #[70, 70] }, type := 4, pos := "mem.go:155", after := #[{ on := 94, ground := Ground.data }, { on := 99, ground := Ground.data }, { on := 89, ground := Ground.chain }, { on := 89, ground := Ground.guard }], guard := some (89, false) } ::
  { dst := some 118, op := Op.unOp UnOp.not 4 (Operand.tmp 117), type := 4, pos := "mem.go:155", after := #[{ on := 100, ground := Ground.data }, { on := 89, ground := Ground.guard }], guard := some (89, false) } ::
  { dst := some 119, op := Op.pick (Operand.tmp 106) (Operand.const (Value.bool true)) (Operand.tmp 118), type := 4, pos := "mem.go:155", after := #[{ on := 89, ground := Ground.data }, { on := 101, ground := Ground.data }], guard := none } :: []
def lsA (k : Nat) : Array Bool := (List.replicate k true ++ List.replicate (103 - k) false).toArray
theorem lexA_step {n k : Nat} (hk : k + (n + 1) = 103) (h : ((Region.ready .any opsA.toArray (lsA k)).contains k && Region.free .any opsA.toArray (lsA k) k) = true) (h2 : Region.lexFrom .any opsA.toArray n (k + 1) (lsA (k + 1)) = true) : Region.lexFrom .any opsA.toArray (n + 1) k (lsA k) = true := by
  have e : (lsA k).setIfInBounds k true = lsA (k + 1) := by
    apply Array.ext'
    unfold lsA
    have e1 : 103 - k = (103 - (k + 1)) + 1 := by omega
    rw [e1]
    simp only [List.setIfInBounds_toArray]
    rw [List.set_append_right _ _ (by simp)]
    rw [show List.replicate (k + 1) true = List.replicate k true ++ [true] from List.replicate_succ']
    simp [List.replicate_succ]
  rw [Region.lexFrom, h, e, h2]
  rfl
theorem lexA_0 : ((Region.ready .any opsA.toArray (lsA 0)).contains 0 && Region.free .any opsA.toArray (lsA 0) 0) = true := by kernel_rfl
theorem lexA_1 : ((Region.ready .any opsA.toArray (lsA 1)).contains 1 && Region.free .any opsA.toArray (lsA 1) 1) = true := by kernel_rfl
theorem lexA_2 : ((Region.ready .any opsA.toArray (lsA 2)).contains 2 && Region.free .any opsA.toArray (lsA 2) 2) = true := by kernel_rfl
theorem lexA_3 : ((Region.ready .any opsA.toArray (lsA 3)).contains 3 && Region.free .any opsA.toArray (lsA 3) 3) = true := by kernel_rfl
theorem lexA_4 : ((Region.ready .any opsA.toArray (lsA 4)).contains 4 && Region.free .any opsA.toArray (lsA 4) 4) = true := by kernel_rfl
theorem lexA_5 : ((Region.ready .any opsA.toArray (lsA 5)).contains 5 && Region.free .any opsA.toArray (lsA 5) 5) = true := by kernel_rfl
theorem lexA_6 : ((Region.ready .any opsA.toArray (lsA 6)).contains 6 && Region.free .any opsA.toArray (lsA 6) 6) = true := by kernel_rfl
theorem lexA_7 : ((Region.ready .any opsA.toArray (lsA 7)).contains 7 && Region.free .any opsA.toArray (lsA 7) 7) = true := by kernel_rfl
theorem lexA_8 : ((Region.ready .any opsA.toArray (lsA 8)).contains 8 && Region.free .any opsA.toArray (lsA 8) 8) = true := by kernel_rfl
theorem lexA_9 : ((Region.ready .any opsA.toArray (lsA 9)).contains 9 && Region.free .any opsA.toArray (lsA 9) 9) = true := by kernel_rfl
theorem lexA_10 : ((Region.ready .any opsA.toArray (lsA 10)).contains 10 && Region.free .any opsA.toArray (lsA 10) 10) = true := by kernel_rfl
theorem lexA_11 : ((Region.ready .any opsA.toArray (lsA 11)).contains 11 && Region.free .any opsA.toArray (lsA 11) 11) = true := by kernel_rfl
theorem lexA_12 : ((Region.ready .any opsA.toArray (lsA 12)).contains 12 && Region.free .any opsA.toArray (lsA 12) 12) = true := by kernel_rfl
theorem lexA_13 : ((Region.ready .any opsA.toArray (lsA 13)).contains 13 && Region.free .any opsA.toArray (lsA 13) 13) = true := by kernel_rfl
theorem lexA_14 : ((Region.ready .any opsA.toArray (lsA 14)).contains 14 && Region.free .any opsA.toArray (lsA 14) 14) = true := by kernel_rfl
theorem lexA_15 : ((Region.ready .any opsA.toArray (lsA 15)).contains 15 && Region.free .any opsA.toArray (lsA 15) 15) = true := by kernel_rfl
theorem lexA_16 : ((Region.ready .any opsA.toArray (lsA 16)).contains 16 && Region.free .any opsA.toArray (lsA 16) 16) = true := by kernel_rfl
theorem lexA_17 : ((Region.ready .any opsA.toArray (lsA 17)).contains 17 && Region.free .any opsA.toArray (lsA 17) 17) = true := by kernel_rfl
theorem lexA_18 : ((Region.ready .any opsA.toArray (lsA 18)).contains 18 && Region.free .any opsA.toArray (lsA 18) 18) = true := by kernel_rfl
theorem lexA_19 : ((Region.ready .any opsA.toArray (lsA 19)).contains 19 && Region.free .any opsA.toArray (lsA 19) 19) = true := by kernel_rfl
theorem lexA_20 : ((Region.ready .any opsA.toArray (lsA 20)).contains 20 && Region.free .any opsA.toArray (lsA 20) 20) = true := by kernel_rfl
theorem lexA_21 : ((Region.ready .any opsA.toArray (lsA 21)).contains 21 && Region.free .any opsA.toArray (lsA 21) 21) = true := by kernel_rfl
theorem lexA_22 : ((Region.ready .any opsA.toArray (lsA 22)).contains 22 && Region.free .any opsA.toArray (lsA 22) 22) = true := by kernel_rfl
theorem lexA_23 : ((Region.ready .any opsA.toArray (lsA 23)).contains 23 && Region.free .any opsA.toArray (lsA 23) 23) = true := by kernel_rfl
theorem lexA_24 : ((Region.ready .any opsA.toArray (lsA 24)).contains 24 && Region.free .any opsA.toArray (lsA 24) 24) = true := by kernel_rfl
theorem lexA_25 : ((Region.ready .any opsA.toArray (lsA 25)).contains 25 && Region.free .any opsA.toArray (lsA 25) 25) = true := by kernel_rfl
theorem lexA_26 : ((Region.ready .any opsA.toArray (lsA 26)).contains 26 && Region.free .any opsA.toArray (lsA 26) 26) = true := by kernel_rfl
theorem lexA_27 : ((Region.ready .any opsA.toArray (lsA 27)).contains 27 && Region.free .any opsA.toArray (lsA 27) 27) = true := by kernel_rfl
theorem lexA_28 : ((Region.ready .any opsA.toArray (lsA 28)).contains 28 && Region.free .any opsA.toArray (lsA 28) 28) = true := by kernel_rfl
theorem lexA_29 : ((Region.ready .any opsA.toArray (lsA 29)).contains 29 && Region.free .any opsA.toArray (lsA 29) 29) = true := by kernel_rfl
theorem lexA_30 : ((Region.ready .any opsA.toArray (lsA 30)).contains 30 && Region.free .any opsA.toArray (lsA 30) 30) = true := by kernel_rfl
theorem lexA_31 : ((Region.ready .any opsA.toArray (lsA 31)).contains 31 && Region.free .any opsA.toArray (lsA 31) 31) = true := by kernel_rfl
theorem lexA_32 : ((Region.ready .any opsA.toArray (lsA 32)).contains 32 && Region.free .any opsA.toArray (lsA 32) 32) = true := by kernel_rfl
theorem lexA_33 : ((Region.ready .any opsA.toArray (lsA 33)).contains 33 && Region.free .any opsA.toArray (lsA 33) 33) = true := by kernel_rfl
theorem lexA_34 : ((Region.ready .any opsA.toArray (lsA 34)).contains 34 && Region.free .any opsA.toArray (lsA 34) 34) = true := by kernel_rfl
theorem lexA_35 : ((Region.ready .any opsA.toArray (lsA 35)).contains 35 && Region.free .any opsA.toArray (lsA 35) 35) = true := by kernel_rfl
theorem lexA_36 : ((Region.ready .any opsA.toArray (lsA 36)).contains 36 && Region.free .any opsA.toArray (lsA 36) 36) = true := by kernel_rfl
theorem lexA_37 : ((Region.ready .any opsA.toArray (lsA 37)).contains 37 && Region.free .any opsA.toArray (lsA 37) 37) = true := by kernel_rfl
theorem lexA_38 : ((Region.ready .any opsA.toArray (lsA 38)).contains 38 && Region.free .any opsA.toArray (lsA 38) 38) = true := by kernel_rfl
theorem lexA_39 : ((Region.ready .any opsA.toArray (lsA 39)).contains 39 && Region.free .any opsA.toArray (lsA 39) 39) = true := by kernel_rfl
theorem lexA_40 : ((Region.ready .any opsA.toArray (lsA 40)).contains 40 && Region.free .any opsA.toArray (lsA 40) 40) = true := by kernel_rfl
theorem lexA_41 : ((Region.ready .any opsA.toArray (lsA 41)).contains 41 && Region.free .any opsA.toArray (lsA 41) 41) = true := by kernel_rfl
theorem lexA_42 : ((Region.ready .any opsA.toArray (lsA 42)).contains 42 && Region.free .any opsA.toArray (lsA 42) 42) = true := by kernel_rfl
theorem lexA_43 : ((Region.ready .any opsA.toArray (lsA 43)).contains 43 && Region.free .any opsA.toArray (lsA 43) 43) = true := by kernel_rfl
theorem lexA_44 : ((Region.ready .any opsA.toArray (lsA 44)).contains 44 && Region.free .any opsA.toArray (lsA 44) 44) = true := by kernel_rfl
theorem lexA_45 : ((Region.ready .any opsA.toArray (lsA 45)).contains 45 && Region.free .any opsA.toArray (lsA 45) 45) = true := by kernel_rfl
theorem lexA_46 : ((Region.ready .any opsA.toArray (lsA 46)).contains 46 && Region.free .any opsA.toArray (lsA 46) 46) = true := by kernel_rfl
theorem lexA_47 : ((Region.ready .any opsA.toArray (lsA 47)).contains 47 && Region.free .any opsA.toArray (lsA 47) 47) = true := by kernel_rfl
theorem lexA_48 : ((Region.ready .any opsA.toArray (lsA 48)).contains 48 && Region.free .any opsA.toArray (lsA 48) 48) = true := by kernel_rfl
theorem lexA_49 : ((Region.ready .any opsA.toArray (lsA 49)).contains 49 && Region.free .any opsA.toArray (lsA 49) 49) = true := by kernel_rfl
theorem lexA_50 : ((Region.ready .any opsA.toArray (lsA 50)).contains 50 && Region.free .any opsA.toArray (lsA 50) 50) = true := by kernel_rfl
theorem lexA_51 : ((Region.ready .any opsA.toArray (lsA 51)).contains 51 && Region.free .any opsA.toArray (lsA 51) 51) = true := by kernel_rfl
theorem lexA_52 : ((Region.ready .any opsA.toArray (lsA 52)).contains 52 && Region.free .any opsA.toArray (lsA 52) 52) = true := by kernel_rfl
theorem lexA_53 : ((Region.ready .any opsA.toArray (lsA 53)).contains 53 && Region.free .any opsA.toArray (lsA 53) 53) = true := by kernel_rfl
theorem lexA_54 : ((Region.ready .any opsA.toArray (lsA 54)).contains 54 && Region.free .any opsA.toArray (lsA 54) 54) = true := by kernel_rfl
theorem lexA_55 : ((Region.ready .any opsA.toArray (lsA 55)).contains 55 && Region.free .any opsA.toArray (lsA 55) 55) = true := by kernel_rfl
theorem lexA_56 : ((Region.ready .any opsA.toArray (lsA 56)).contains 56 && Region.free .any opsA.toArray (lsA 56) 56) = true := by kernel_rfl
theorem lexA_57 : ((Region.ready .any opsA.toArray (lsA 57)).contains 57 && Region.free .any opsA.toArray (lsA 57) 57) = true := by kernel_rfl
theorem lexA_58 : ((Region.ready .any opsA.toArray (lsA 58)).contains 58 && Region.free .any opsA.toArray (lsA 58) 58) = true := by kernel_rfl
theorem lexA_59 : ((Region.ready .any opsA.toArray (lsA 59)).contains 59 && Region.free .any opsA.toArray (lsA 59) 59) = true := by kernel_rfl
theorem lexA_60 : ((Region.ready .any opsA.toArray (lsA 60)).contains 60 && Region.free .any opsA.toArray (lsA 60) 60) = true := by kernel_rfl
theorem lexA_61 : ((Region.ready .any opsA.toArray (lsA 61)).contains 61 && Region.free .any opsA.toArray (lsA 61) 61) = true := by kernel_rfl
theorem lexA_62 : ((Region.ready .any opsA.toArray (lsA 62)).contains 62 && Region.free .any opsA.toArray (lsA 62) 62) = true := by kernel_rfl
theorem lexA_63 : ((Region.ready .any opsA.toArray (lsA 63)).contains 63 && Region.free .any opsA.toArray (lsA 63) 63) = true := by kernel_rfl
theorem lexA_64 : ((Region.ready .any opsA.toArray (lsA 64)).contains 64 && Region.free .any opsA.toArray (lsA 64) 64) = true := by kernel_rfl
theorem lexA_65 : ((Region.ready .any opsA.toArray (lsA 65)).contains 65 && Region.free .any opsA.toArray (lsA 65) 65) = true := by kernel_rfl
theorem lexA_66 : ((Region.ready .any opsA.toArray (lsA 66)).contains 66 && Region.free .any opsA.toArray (lsA 66) 66) = true := by kernel_rfl
theorem lexA_67 : ((Region.ready .any opsA.toArray (lsA 67)).contains 67 && Region.free .any opsA.toArray (lsA 67) 67) = true := by kernel_rfl
theorem lexA_68 : ((Region.ready .any opsA.toArray (lsA 68)).contains 68 && Region.free .any opsA.toArray (lsA 68) 68) = true := by kernel_rfl
theorem lexA_69 : ((Region.ready .any opsA.toArray (lsA 69)).contains 69 && Region.free .any opsA.toArray (lsA 69) 69) = true := by kernel_rfl
theorem lexA_70 : ((Region.ready .any opsA.toArray (lsA 70)).contains 70 && Region.free .any opsA.toArray (lsA 70) 70) = true := by kernel_rfl
theorem lexA_71 : ((Region.ready .any opsA.toArray (lsA 71)).contains 71 && Region.free .any opsA.toArray (lsA 71) 71) = true := by kernel_rfl
theorem lexA_72 : ((Region.ready .any opsA.toArray (lsA 72)).contains 72 && Region.free .any opsA.toArray (lsA 72) 72) = true := by kernel_rfl
theorem lexA_73 : ((Region.ready .any opsA.toArray (lsA 73)).contains 73 && Region.free .any opsA.toArray (lsA 73) 73) = true := by kernel_rfl
theorem lexA_74 : ((Region.ready .any opsA.toArray (lsA 74)).contains 74 && Region.free .any opsA.toArray (lsA 74) 74) = true := by kernel_rfl
theorem lexA_75 : ((Region.ready .any opsA.toArray (lsA 75)).contains 75 && Region.free .any opsA.toArray (lsA 75) 75) = true := by kernel_rfl
theorem lexA_76 : ((Region.ready .any opsA.toArray (lsA 76)).contains 76 && Region.free .any opsA.toArray (lsA 76) 76) = true := by kernel_rfl
theorem lexA_77 : ((Region.ready .any opsA.toArray (lsA 77)).contains 77 && Region.free .any opsA.toArray (lsA 77) 77) = true := by kernel_rfl
theorem lexA_78 : ((Region.ready .any opsA.toArray (lsA 78)).contains 78 && Region.free .any opsA.toArray (lsA 78) 78) = true := by kernel_rfl
theorem lexA_79 : ((Region.ready .any opsA.toArray (lsA 79)).contains 79 && Region.free .any opsA.toArray (lsA 79) 79) = true := by kernel_rfl
theorem lexA_80 : ((Region.ready .any opsA.toArray (lsA 80)).contains 80 && Region.free .any opsA.toArray (lsA 80) 80) = true := by kernel_rfl
theorem lexA_81 : ((Region.ready .any opsA.toArray (lsA 81)).contains 81 && Region.free .any opsA.toArray (lsA 81) 81) = true := by kernel_rfl
theorem lexA_82 : ((Region.ready .any opsA.toArray (lsA 82)).contains 82 && Region.free .any opsA.toArray (lsA 82) 82) = true := by kernel_rfl
theorem lexA_83 : ((Region.ready .any opsA.toArray (lsA 83)).contains 83 && Region.free .any opsA.toArray (lsA 83) 83) = true := by kernel_rfl
theorem lexA_84 : ((Region.ready .any opsA.toArray (lsA 84)).contains 84 && Region.free .any opsA.toArray (lsA 84) 84) = true := by kernel_rfl
theorem lexA_85 : ((Region.ready .any opsA.toArray (lsA 85)).contains 85 && Region.free .any opsA.toArray (lsA 85) 85) = true := by kernel_rfl
theorem lexA_86 : ((Region.ready .any opsA.toArray (lsA 86)).contains 86 && Region.free .any opsA.toArray (lsA 86) 86) = true := by kernel_rfl
theorem lexA_87 : ((Region.ready .any opsA.toArray (lsA 87)).contains 87 && Region.free .any opsA.toArray (lsA 87) 87) = true := by kernel_rfl
theorem lexA_88 : ((Region.ready .any opsA.toArray (lsA 88)).contains 88 && Region.free .any opsA.toArray (lsA 88) 88) = true := by kernel_rfl
theorem lexA_89 : ((Region.ready .any opsA.toArray (lsA 89)).contains 89 && Region.free .any opsA.toArray (lsA 89) 89) = true := by kernel_rfl
theorem lexA_90 : ((Region.ready .any opsA.toArray (lsA 90)).contains 90 && Region.free .any opsA.toArray (lsA 90) 90) = true := by kernel_rfl
theorem lexA_91 : ((Region.ready .any opsA.toArray (lsA 91)).contains 91 && Region.free .any opsA.toArray (lsA 91) 91) = true := by kernel_rfl
theorem lexA_92 : ((Region.ready .any opsA.toArray (lsA 92)).contains 92 && Region.free .any opsA.toArray (lsA 92) 92) = true := by kernel_rfl
theorem lexA_93 : ((Region.ready .any opsA.toArray (lsA 93)).contains 93 && Region.free .any opsA.toArray (lsA 93) 93) = true := by kernel_rfl
theorem lexA_94 : ((Region.ready .any opsA.toArray (lsA 94)).contains 94 && Region.free .any opsA.toArray (lsA 94) 94) = true := by kernel_rfl
theorem lexA_95 : ((Region.ready .any opsA.toArray (lsA 95)).contains 95 && Region.free .any opsA.toArray (lsA 95) 95) = true := by kernel_rfl
theorem lexA_96 : ((Region.ready .any opsA.toArray (lsA 96)).contains 96 && Region.free .any opsA.toArray (lsA 96) 96) = true := by kernel_rfl
theorem lexA_97 : ((Region.ready .any opsA.toArray (lsA 97)).contains 97 && Region.free .any opsA.toArray (lsA 97) 97) = true := by kernel_rfl
theorem lexA_98 : ((Region.ready .any opsA.toArray (lsA 98)).contains 98 && Region.free .any opsA.toArray (lsA 98) 98) = true := by kernel_rfl
theorem lexA_99 : ((Region.ready .any opsA.toArray (lsA 99)).contains 99 && Region.free .any opsA.toArray (lsA 99) 99) = true := by kernel_rfl
theorem lexA_100 : ((Region.ready .any opsA.toArray (lsA 100)).contains 100 && Region.free .any opsA.toArray (lsA 100) 100) = true := by kernel_rfl
theorem lexA_101 : ((Region.ready .any opsA.toArray (lsA 101)).contains 101 && Region.free .any opsA.toArray (lsA 101) 101) = true := by kernel_rfl
theorem lexA_102 : ((Region.ready .any opsA.toArray (lsA 102)).contains 102 && Region.free .any opsA.toArray (lsA 102) 102) = true := by kernel_rfl
theorem lexA_end : Region.lexFrom .any opsA.toArray 0 103 (lsA 103) = true := by kernel_rfl
theorem lexA : Region.lexB .any opsA.toArray = true := by
  have h0 : Region.noSelect opsA.toArray = true := by kernel_rfl
  have h := lexA_end
  replace h := lexA_step (n := 0) (k := 102) (by rfl) lexA_102 h
  replace h := lexA_step (n := 1) (k := 101) (by rfl) lexA_101 h
  replace h := lexA_step (n := 2) (k := 100) (by rfl) lexA_100 h
  replace h := lexA_step (n := 3) (k := 99) (by rfl) lexA_99 h
  replace h := lexA_step (n := 4) (k := 98) (by rfl) lexA_98 h
  replace h := lexA_step (n := 5) (k := 97) (by rfl) lexA_97 h
  replace h := lexA_step (n := 6) (k := 96) (by rfl) lexA_96 h
  replace h := lexA_step (n := 7) (k := 95) (by rfl) lexA_95 h
  replace h := lexA_step (n := 8) (k := 94) (by rfl) lexA_94 h
  replace h := lexA_step (n := 9) (k := 93) (by rfl) lexA_93 h
  replace h := lexA_step (n := 10) (k := 92) (by rfl) lexA_92 h
  replace h := lexA_step (n := 11) (k := 91) (by rfl) lexA_91 h
  replace h := lexA_step (n := 12) (k := 90) (by rfl) lexA_90 h
  replace h := lexA_step (n := 13) (k := 89) (by rfl) lexA_89 h
  replace h := lexA_step (n := 14) (k := 88) (by rfl) lexA_88 h
  replace h := lexA_step (n := 15) (k := 87) (by rfl) lexA_87 h
  replace h := lexA_step (n := 16) (k := 86) (by rfl) lexA_86 h
  replace h := lexA_step (n := 17) (k := 85) (by rfl) lexA_85 h
  replace h := lexA_step (n := 18) (k := 84) (by rfl) lexA_84 h
  replace h := lexA_step (n := 19) (k := 83) (by rfl) lexA_83 h
  replace h := lexA_step (n := 20) (k := 82) (by rfl) lexA_82 h
  replace h := lexA_step (n := 21) (k := 81) (by rfl) lexA_81 h
  replace h := lexA_step (n := 22) (k := 80) (by rfl) lexA_80 h
  replace h := lexA_step (n := 23) (k := 79) (by rfl) lexA_79 h
  replace h := lexA_step (n := 24) (k := 78) (by rfl) lexA_78 h
  replace h := lexA_step (n := 25) (k := 77) (by rfl) lexA_77 h
  replace h := lexA_step (n := 26) (k := 76) (by rfl) lexA_76 h
  replace h := lexA_step (n := 27) (k := 75) (by rfl) lexA_75 h
  replace h := lexA_step (n := 28) (k := 74) (by rfl) lexA_74 h
  replace h := lexA_step (n := 29) (k := 73) (by rfl) lexA_73 h
  replace h := lexA_step (n := 30) (k := 72) (by rfl) lexA_72 h
  replace h := lexA_step (n := 31) (k := 71) (by rfl) lexA_71 h
  replace h := lexA_step (n := 32) (k := 70) (by rfl) lexA_70 h
  replace h := lexA_step (n := 33) (k := 69) (by rfl) lexA_69 h
  replace h := lexA_step (n := 34) (k := 68) (by rfl) lexA_68 h
  replace h := lexA_step (n := 35) (k := 67) (by rfl) lexA_67 h
  replace h := lexA_step (n := 36) (k := 66) (by rfl) lexA_66 h
  replace h := lexA_step (n := 37) (k := 65) (by rfl) lexA_65 h
  replace h := lexA_step (n := 38) (k := 64) (by rfl) lexA_64 h
  replace h := lexA_step (n := 39) (k := 63) (by rfl) lexA_63 h
  replace h := lexA_step (n := 40) (k := 62) (by rfl) lexA_62 h
  replace h := lexA_step (n := 41) (k := 61) (by rfl) lexA_61 h
  replace h := lexA_step (n := 42) (k := 60) (by rfl) lexA_60 h
  replace h := lexA_step (n := 43) (k := 59) (by rfl) lexA_59 h
  replace h := lexA_step (n := 44) (k := 58) (by rfl) lexA_58 h
  replace h := lexA_step (n := 45) (k := 57) (by rfl) lexA_57 h
  replace h := lexA_step (n := 46) (k := 56) (by rfl) lexA_56 h
  replace h := lexA_step (n := 47) (k := 55) (by rfl) lexA_55 h
  replace h := lexA_step (n := 48) (k := 54) (by rfl) lexA_54 h
  replace h := lexA_step (n := 49) (k := 53) (by rfl) lexA_53 h
  replace h := lexA_step (n := 50) (k := 52) (by rfl) lexA_52 h
  replace h := lexA_step (n := 51) (k := 51) (by rfl) lexA_51 h
  replace h := lexA_step (n := 52) (k := 50) (by rfl) lexA_50 h
  replace h := lexA_step (n := 53) (k := 49) (by rfl) lexA_49 h
  replace h := lexA_step (n := 54) (k := 48) (by rfl) lexA_48 h
  replace h := lexA_step (n := 55) (k := 47) (by rfl) lexA_47 h
  replace h := lexA_step (n := 56) (k := 46) (by rfl) lexA_46 h
  replace h := lexA_step (n := 57) (k := 45) (by rfl) lexA_45 h
  replace h := lexA_step (n := 58) (k := 44) (by rfl) lexA_44 h
  replace h := lexA_step (n := 59) (k := 43) (by rfl) lexA_43 h
  replace h := lexA_step (n := 60) (k := 42) (by rfl) lexA_42 h
  replace h := lexA_step (n := 61) (k := 41) (by rfl) lexA_41 h
  replace h := lexA_step (n := 62) (k := 40) (by rfl) lexA_40 h
  replace h := lexA_step (n := 63) (k := 39) (by rfl) lexA_39 h
  replace h := lexA_step (n := 64) (k := 38) (by rfl) lexA_38 h
  replace h := lexA_step (n := 65) (k := 37) (by rfl) lexA_37 h
  replace h := lexA_step (n := 66) (k := 36) (by rfl) lexA_36 h
  replace h := lexA_step (n := 67) (k := 35) (by rfl) lexA_35 h
  replace h := lexA_step (n := 68) (k := 34) (by rfl) lexA_34 h
  replace h := lexA_step (n := 69) (k := 33) (by rfl) lexA_33 h
  replace h := lexA_step (n := 70) (k := 32) (by rfl) lexA_32 h
  replace h := lexA_step (n := 71) (k := 31) (by rfl) lexA_31 h
  replace h := lexA_step (n := 72) (k := 30) (by rfl) lexA_30 h
  replace h := lexA_step (n := 73) (k := 29) (by rfl) lexA_29 h
  replace h := lexA_step (n := 74) (k := 28) (by rfl) lexA_28 h
  replace h := lexA_step (n := 75) (k := 27) (by rfl) lexA_27 h
  replace h := lexA_step (n := 76) (k := 26) (by rfl) lexA_26 h
  replace h := lexA_step (n := 77) (k := 25) (by rfl) lexA_25 h
  replace h := lexA_step (n := 78) (k := 24) (by rfl) lexA_24 h
  replace h := lexA_step (n := 79) (k := 23) (by rfl) lexA_23 h
  replace h := lexA_step (n := 80) (k := 22) (by rfl) lexA_22 h
  replace h := lexA_step (n := 81) (k := 21) (by rfl) lexA_21 h
  replace h := lexA_step (n := 82) (k := 20) (by rfl) lexA_20 h
  replace h := lexA_step (n := 83) (k := 19) (by rfl) lexA_19 h
  replace h := lexA_step (n := 84) (k := 18) (by rfl) lexA_18 h
  replace h := lexA_step (n := 85) (k := 17) (by rfl) lexA_17 h
  replace h := lexA_step (n := 86) (k := 16) (by rfl) lexA_16 h
  replace h := lexA_step (n := 87) (k := 15) (by rfl) lexA_15 h
  replace h := lexA_step (n := 88) (k := 14) (by rfl) lexA_14 h
  replace h := lexA_step (n := 89) (k := 13) (by rfl) lexA_13 h
  replace h := lexA_step (n := 90) (k := 12) (by rfl) lexA_12 h
  replace h := lexA_step (n := 91) (k := 11) (by rfl) lexA_11 h
  replace h := lexA_step (n := 92) (k := 10) (by rfl) lexA_10 h
  replace h := lexA_step (n := 93) (k := 9) (by rfl) lexA_9 h
  replace h := lexA_step (n := 94) (k := 8) (by rfl) lexA_8 h
  replace h := lexA_step (n := 95) (k := 7) (by rfl) lexA_7 h
  replace h := lexA_step (n := 96) (k := 6) (by rfl) lexA_6 h
  replace h := lexA_step (n := 97) (k := 5) (by rfl) lexA_5 h
  replace h := lexA_step (n := 98) (k := 4) (by rfl) lexA_4 h
  replace h := lexA_step (n := 99) (k := 3) (by rfl) lexA_3 h
  replace h := lexA_step (n := 100) (k := 2) (by rfl) lexA_2 h
  replace h := lexA_step (n := 101) (k := 1) (by rfl) lexA_1 h
  replace h := lexA_step (n := 102) (k := 0) (by rfl) lexA_0 h
  have es : opsA.toArray.size = 103 := by kernel_rfl
  have el : Array.replicate 103 false = lsA 0 := by kernel_rfl
  rw [Region.lexB, es, el, h0, h]
  rfl
end Go.Proofs.Ytinhcphhdehmhaa
