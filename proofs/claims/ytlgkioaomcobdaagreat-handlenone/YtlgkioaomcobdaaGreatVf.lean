/- Vcas's procs that are made. -/
import Derived.Test.YtlgkioaomcobdaaGreatVe
namespace Go.Proofs.YtlgkioaomcobdaaGreat
open Go.RowKit Go.Shelf

def rest0 (old now : Nat) : List Value := [.int .u8 0, .int .u64 0, .int .u64 (old : Int), .int .u64 (now : Int), .int .u8 0, .int .u64 0, .bool false, .int .i64 0]
end Go.Proofs.YtlgkioaomcobdaaGreat
