/- What must be whatever is asked (layer 13); nil ones; a Release of no handle. -/
import Derived.Test.YtlgkioaomcobdaaGreatAj
namespace Go.Proofs.YtlgkioaomcobdaaGreat
open Go.RowKit Go.Shelf
set_option linter.unusedVariables false

set_option maxRecDepth 100000 in
theorem sn_handle {W : World} {p cam fst mst pos slot seen gen h st : Nat} {cnt err : Int} {nw tk : Value} (hp : Blk W p 90 (snL cam fst cnt mst pos slot seen gen nw tk h st err)) : Calls Tryz.prog 22 #[.pointer (some ⟨p, 0, none⟩)] W fun e W' => e = .returned (.int .u64 (h : Int)) ∧ W' = W := by
  have c : W.cell? ⟨p, 10, none⟩ = some (.int .u64 (h : Int)) := hp.cell 10
  go_enter Tryz.func22, Tryz.ntmps22
  go_wp2_with fail
  go_ret
  exact ⟨by simp, rfl⟩
set_option maxRecDepth 100000 in
theorem nil_snHandle (W : World) : Calls Tryz.prog 22 #[.pointer none] W fun e W' => e = .returned (.int .u64 0) ∧ W' = W := by
  go_enter Tryz.func22, Tryz.ntmps22
  go_wp2_with fail
  go_ret
  exact ⟨by simp, rfl⟩
set_option maxRecDepth 100000 in
theorem nil_snStep (V : Value) (W : World) : Calls Tryz.prog 84 #[.pointer none, V] W fun e W' => e = .returned (.bool true) ∧ W' = W := by
  go_enter Tryz.func84, Tryz.ntmps84
  go_wp2_with fail
  go_ret
  exact ⟨by simp, rfl⟩
set_option maxRecDepth 100000 in
theorem make_nil13 (a b : Nat) (c : Int) (W : World) : Calls Tryz.prog 19 #[.pointer none, .int .u64 (a : Int), .int .i64 c, .int .u64 (b : Int)] W fun e W' => e = .returned (.tuple #[.agg #[.int .u64 0, .int .u64 0, .int .i64 0, .int .u64 0], .int .i64 1]) ∧ Chg (fun _ => False) W W' := by
  go_enter Tryz.func19, Tryz.ntmps19
  go_wp2_with fail
  exact bodyPost_ret (v := .tuple #[.agg #[.int .u64 0, .int .u64 0, .int .i64 0, .int .u64 0], .int .i64 1]) (by simp [results, Tryz.results19, go_sem]) rfl ⟨rfl, (Chg.refl _ _).alloc _⟩
set_option maxRecDepth 100000 in
theorem slots_nil (a b c : Nat) (n : Int) (W : World) : Calls Tryz.prog 26 #[.pointer none, .agg #[.int .u64 (a : Int), .int .u64 (b : Int), .int .i64 n, .int .u64 (c : Int)]] W fun e W' => e = .returned (.slice none 0 0) ∧ Chg (fun _ => False) W W' := by
  go_enter Tryz.func26, Tryz.ntmps26
  go_wp2_with fail
  go_ret
  exact ⟨by simp, (Chg.refl _ _).alloc _⟩
theorem unhandle_0 (W : World) : Calls Tryz.prog 45 #[.int .u64 0] W fun e W' => e = .returned (.tuple #[.int .i64 0, .int .u64 0, .int .i64 33]) ∧ W' = W := by
  refine (unhandle_any 0 W (by omega) (by omega)).mono ?_
  rintro e W' ⟨rfl, rfl⟩
  exact ⟨by simp [unS, unG, unE], rfl⟩
def rlL (cell gen pos seen : Nat) (err : Int) : List Value := [.int .u64 (cell : Int), .int .u64 (gen : Int), .int .u8 (pos : Int), .int .u64 (seen : Int), .int .i64 err]
end Go.Proofs.YtlgkioaomcobdaaGreat
