/- Lists of which there are none: each look of a book that keeps none of its kind tells true, and leaves the world as it was. -/
import Derived.Test.YtahgaghokpicgaaGreatChecked
import Derived.WalkKit
import Derived.WalkLawsBesides
import Derived.Laws.Tables
import Derived.Test.YtahgaghokpicgaaGreatW33BpI
namespace Go.Proofs.YtahgaghokpicgaaGreat
open Go.RowKit
set_option maxRecDepth 100000 in
theorem none_0 (Bk : Nat) (w : World) (hc : w.cell? ⟨Bk, 0, none⟩ = some (.slice none 0 0)) : Calls Tryz.prog 57 #[.pointer (some ⟨Bk, 0, none⟩)] w fun e w' => e = .returned (.bool true) ∧ w' = w := by
 go_enter Tryz.func57, Tryz.ntmps57
 go_wp2
 go_loop [3] (fun i => i = .int .i64 0) (fun _ => 0)
 case atStart => exact rfl
 case round =>
  obtain rfl := hrel
  go_wp2
  go_loop [5, 6] (fun a i => a = .slice none 0 0 ∧ i = .int .i64 0) (fun _ _ => 0)
  case atStart => exact ⟨rfl, rfl⟩
  case round =>
   obtain ⟨rfl, rfl⟩ := hrel
   go_wp2
   go_loop [9] (fun i => i = .int .i64 0) (fun _ => 0)
   case atStart => exact rfl
   case round =>
    obtain rfl := hrel
    go_wp2
    go_ret
    exact ⟨rfl, rfl⟩
set_option maxRecDepth 100000 in
theorem none_1 (Bk : Nat) (w : World) (hc : w.cell? ⟨Bk, 1, none⟩ = some (.slice none 0 0)) : Calls Tryz.prog 58 #[.pointer (some ⟨Bk, 0, none⟩)] w fun e w' => e = .returned (.bool true) ∧ w' = w := by
 go_enter Tryz.func58, Tryz.ntmps58
 go_wp2
 go_loop [3] (fun i => i = .int .i64 0) (fun _ => 0)
 case atStart => exact rfl
 case round =>
  obtain rfl := hrel
  go_wp2
  go_loop [5, 6] (fun a i => a = .slice none 0 0 ∧ i = .int .i64 0) (fun _ _ => 0)
  case atStart => exact ⟨rfl, rfl⟩
  case round =>
   obtain ⟨rfl, rfl⟩ := hrel
   go_wp2
   go_loop [9] (fun i => i = .int .i64 0) (fun _ => 0)
   case atStart => exact rfl
   case round =>
    obtain rfl := hrel
    go_wp2
    go_ret
    exact ⟨rfl, rfl⟩
set_option maxRecDepth 100000 in
theorem none_2 (Bk : Nat) (w : World) (hc : w.cell? ⟨Bk, 2, none⟩ = some (.slice none 0 0)) : Calls Tryz.prog 59 #[.pointer (some ⟨Bk, 0, none⟩)] w fun e w' => e = .returned (.bool true) ∧ w' = w := by
 go_enter Tryz.func59, Tryz.ntmps59
 go_wp2
 go_loop [3] (fun i => i = .int .i64 0) (fun _ => 0)
 case atStart => exact rfl
 case round =>
  obtain rfl := hrel
  go_wp2
  go_loop [5, 6] (fun a i => a = .slice none 0 0 ∧ i = .int .i64 0) (fun _ _ => 0)
  case atStart => exact ⟨rfl, rfl⟩
  case round =>
   obtain ⟨rfl, rfl⟩ := hrel
   go_wp2
   go_loop [9] (fun i => i = .int .i64 0) (fun _ => 0)
   case atStart => exact rfl
   case round =>
    obtain rfl := hrel
    go_wp2
    go_ret
    exact ⟨rfl, rfl⟩
set_option maxRecDepth 100000 in
theorem none_4 (Bk : Nat) (w : World) (hc : w.cell? ⟨Bk, 4, none⟩ = some (.slice none 0 0)) : Calls Tryz.prog 61 #[.pointer (some ⟨Bk, 0, none⟩)] w fun e w' => e = .returned (.bool true) ∧ w' = w := by
 go_enter Tryz.func61, Tryz.ntmps61
 go_wp2
 go_loop [3] (fun i => i = .int .i64 0) (fun _ => 0)
 case atStart => exact rfl
 case round =>
  obtain rfl := hrel
  go_wp2
  go_loop [5, 6] (fun a i => a = .slice none 0 0 ∧ i = .int .i64 0) (fun _ _ => 0)
  case atStart => exact ⟨rfl, rfl⟩
  case round =>
   obtain ⟨rfl, rfl⟩ := hrel
   go_wp2
   go_loop [9] (fun i => i = .int .i64 0) (fun _ => 0)
   case atStart => exact rfl
   case round =>
    obtain rfl := hrel
    go_wp2
    go_ret
    exact ⟨rfl, rfl⟩
set_option maxRecDepth 100000 in
theorem none_5 (Bk : Nat) (w : World) (hc : w.cell? ⟨Bk, 5, none⟩ = some (.slice none 0 0)) : Calls Tryz.prog 62 #[.pointer (some ⟨Bk, 0, none⟩)] w fun e w' => e = .returned (.bool true) ∧ w' = w := by
 go_enter Tryz.func62, Tryz.ntmps62
 go_wp2
 go_loop [3] (fun i => i = .int .i64 0) (fun _ => 0)
 case atStart => exact rfl
 case round =>
  obtain rfl := hrel
  go_wp2
  go_loop [5, 6] (fun a i => a = .slice none 0 0 ∧ i = .int .i64 0) (fun _ _ => 0)
  case atStart => exact ⟨rfl, rfl⟩
  case round =>
   obtain ⟨rfl, rfl⟩ := hrel
   go_wp2
   go_loop [9] (fun i => i = .int .i64 0) (fun _ => 0)
   case atStart => exact rfl
   case round =>
    obtain rfl := hrel
    go_wp2
    go_ret
    exact ⟨rfl, rfl⟩
set_option maxRecDepth 100000 in
theorem none_6 (Bk : Nat) (w : World) (hc : w.cell? ⟨Bk, 6, none⟩ = some (.slice none 0 0)) : Calls Tryz.prog 63 #[.pointer (some ⟨Bk, 0, none⟩)] w fun e w' => e = .returned (.bool true) ∧ w' = w := by
 go_enter Tryz.func63, Tryz.ntmps63
 go_wp2
 go_loop [3] (fun i => i = .int .i64 0) (fun _ => 0)
 case atStart => exact rfl
 case round =>
  obtain rfl := hrel
  go_wp2
  go_loop [5, 6] (fun a i => a = .slice none 0 0 ∧ i = .int .i64 0) (fun _ _ => 0)
  case atStart => exact ⟨rfl, rfl⟩
  case round =>
   obtain ⟨rfl, rfl⟩ := hrel
   go_wp2
   go_loop [9] (fun i => i = .int .i64 0) (fun _ => 0)
   case atStart => exact rfl
   case round =>
    obtain rfl := hrel
    go_wp2
    go_ret
    exact ⟨rfl, rfl⟩
set_option maxRecDepth 100000 in
theorem none_7 (Bk : Nat) (w : World) (hc : w.cell? ⟨Bk, 7, none⟩ = some (.slice none 0 0)) : Calls Tryz.prog 64 #[.pointer (some ⟨Bk, 0, none⟩)] w fun e w' => e = .returned (.bool true) ∧ w' = w := by
 go_enter Tryz.func64, Tryz.ntmps64
 go_wp2
 go_loop [3] (fun i => i = .int .i64 0) (fun _ => 0)
 case atStart => exact rfl
 case round =>
  obtain rfl := hrel
  go_wp2
  go_loop [5, 6] (fun a i => a = .slice none 0 0 ∧ i = .int .i64 0) (fun _ _ => 0)
  case atStart => exact ⟨rfl, rfl⟩
  case round =>
   obtain ⟨rfl, rfl⟩ := hrel
   go_wp2
   go_loop [9] (fun i => i = .int .i64 0) (fun _ => 0)
   case atStart => exact rfl
   case round =>
    obtain rfl := hrel
    go_wp2
    go_ret
    exact ⟨rfl, rfl⟩
set_option maxRecDepth 100000 in
theorem none_8 (Bk : Nat) (w : World) (hc : w.cell? ⟨Bk, 8, none⟩ = some (.slice none 0 0)) : Calls Tryz.prog 65 #[.pointer (some ⟨Bk, 0, none⟩)] w fun e w' => e = .returned (.bool true) ∧ w' = w := by
 go_enter Tryz.func65, Tryz.ntmps65
 go_wp2
 go_loop [3] (fun i => i = .int .i64 0) (fun _ => 0)
 case atStart => exact rfl
 case round =>
  obtain rfl := hrel
  go_wp2
  go_loop [5, 6] (fun a i => a = .slice none 0 0 ∧ i = .int .i64 0) (fun _ _ => 0)
  case atStart => exact ⟨rfl, rfl⟩
  case round =>
   obtain ⟨rfl, rfl⟩ := hrel
   go_wp2
   go_loop [9] (fun i => i = .int .i64 0) (fun _ => 0)
   case atStart => exact rfl
   case round =>
    obtain rfl := hrel
    go_wp2
    go_ret
    exact ⟨rfl, rfl⟩
set_option maxRecDepth 100000 in
theorem none_9 (Bk : Nat) (w : World) (hc : w.cell? ⟨Bk, 9, none⟩ = some (.slice none 0 0)) : Calls Tryz.prog 66 #[.pointer (some ⟨Bk, 0, none⟩)] w fun e w' => e = .returned (.bool true) ∧ w' = w := by
 go_enter Tryz.func66, Tryz.ntmps66
 go_wp2
 go_loop [3] (fun i => i = .int .i64 0) (fun _ => 0)
 case atStart => exact rfl
 case round =>
  obtain rfl := hrel
  go_wp2
  go_loop [5, 6] (fun a i => a = .slice none 0 0 ∧ i = .int .i64 0) (fun _ _ => 0)
  case atStart => exact ⟨rfl, rfl⟩
  case round =>
   obtain ⟨rfl, rfl⟩ := hrel
   go_wp2
   go_loop [9] (fun i => i = .int .i64 0) (fun _ => 0)
   case atStart => exact rfl
   case round =>
    obtain rfl := hrel
    go_wp2
    go_ret
    exact ⟨rfl, rfl⟩
set_option maxRecDepth 100000 in
theorem none_10 (Bk : Nat) (w : World) (hc : w.cell? ⟨Bk, 10, none⟩ = some (.slice none 0 0)) : Calls Tryz.prog 67 #[.pointer (some ⟨Bk, 0, none⟩)] w fun e w' => e = .returned (.bool true) ∧ w' = w := by
 go_enter Tryz.func67, Tryz.ntmps67
 go_wp2
 go_loop [3] (fun i => i = .int .i64 0) (fun _ => 0)
 case atStart => exact rfl
 case round =>
  obtain rfl := hrel
  go_wp2
  go_loop [5, 6] (fun a i => a = .slice none 0 0 ∧ i = .int .i64 0) (fun _ _ => 0)
  case atStart => exact ⟨rfl, rfl⟩
  case round =>
   obtain ⟨rfl, rfl⟩ := hrel
   go_wp2
   go_loop [9] (fun i => i = .int .i64 0) (fun _ => 0)
   case atStart => exact rfl
   case round =>
    obtain rfl := hrel
    go_wp2
    go_ret
    exact ⟨rfl, rfl⟩
set_option maxRecDepth 100000 in
theorem none_11 (Bk : Nat) (w : World) (hc : w.cell? ⟨Bk, 11, none⟩ = some (.slice none 0 0)) : Calls Tryz.prog 68 #[.pointer (some ⟨Bk, 0, none⟩)] w fun e w' => e = .returned (.bool true) ∧ w' = w := by
 go_enter Tryz.func68, Tryz.ntmps68
 go_wp2
 go_loop [3] (fun i => i = .int .i64 0) (fun _ => 0)
 case atStart => exact rfl
 case round =>
  obtain rfl := hrel
  go_wp2
  go_loop [5, 6] (fun a i => a = .slice none 0 0 ∧ i = .int .i64 0) (fun _ _ => 0)
  case atStart => exact ⟨rfl, rfl⟩
  case round =>
   obtain ⟨rfl, rfl⟩ := hrel
   go_wp2
   go_loop [9] (fun i => i = .int .i64 0) (fun _ => 0)
   case atStart => exact rfl
   case round =>
    obtain rfl := hrel
    go_wp2
    go_ret
    exact ⟨rfl, rfl⟩
set_option maxRecDepth 100000 in
theorem none_12 (Bk : Nat) (w : World) (hc : w.cell? ⟨Bk, 12, none⟩ = some (.slice none 0 0)) : Calls Tryz.prog 69 #[.pointer (some ⟨Bk, 0, none⟩)] w fun e w' => e = .returned (.bool true) ∧ w' = w := by
 go_enter Tryz.func69, Tryz.ntmps69
 go_wp2
 go_loop [3] (fun i => i = .int .i64 0) (fun _ => 0)
 case atStart => exact rfl
 case round =>
  obtain rfl := hrel
  go_wp2
  go_loop [5, 6] (fun a i => a = .slice none 0 0 ∧ i = .int .i64 0) (fun _ _ => 0)
  case atStart => exact ⟨rfl, rfl⟩
  case round =>
   obtain ⟨rfl, rfl⟩ := hrel
   go_wp2
   go_loop [9] (fun i => i = .int .i64 0) (fun _ => 0)
   case atStart => exact rfl
   case round =>
    obtain rfl := hrel
    go_wp2
    go_ret
    exact ⟨rfl, rfl⟩
set_option maxRecDepth 100000 in
theorem none_13 (Bk : Nat) (w : World) (hc : w.cell? ⟨Bk, 13, none⟩ = some (.slice none 0 0)) : Calls Tryz.prog 70 #[.pointer (some ⟨Bk, 0, none⟩)] w fun e w' => e = .returned (.bool true) ∧ w' = w := by
 go_enter Tryz.func70, Tryz.ntmps70
 go_wp2
 go_loop [3] (fun i => i = .int .i64 0) (fun _ => 0)
 case atStart => exact rfl
 case round =>
  obtain rfl := hrel
  go_wp2
  go_loop [5, 6] (fun a i => a = .slice none 0 0 ∧ i = .int .i64 0) (fun _ _ => 0)
  case atStart => exact ⟨rfl, rfl⟩
  case round =>
   obtain ⟨rfl, rfl⟩ := hrel
   go_wp2
   go_loop [9] (fun i => i = .int .i64 0) (fun _ => 0)
   case atStart => exact rfl
   case round =>
    obtain rfl := hrel
    go_wp2
    go_ret
    exact ⟨rfl, rfl⟩
set_option maxRecDepth 100000 in
theorem none_14 (Bk : Nat) (w : World) (hc : w.cell? ⟨Bk, 14, none⟩ = some (.slice none 0 0)) : Calls Tryz.prog 71 #[.pointer (some ⟨Bk, 0, none⟩)] w fun e w' => e = .returned (.bool true) ∧ w' = w := by
 go_enter Tryz.func71, Tryz.ntmps71
 go_wp2
 go_loop [3] (fun i => i = .int .i64 0) (fun _ => 0)
 case atStart => exact rfl
 case round =>
  obtain rfl := hrel
  go_wp2
  go_loop [5, 6] (fun a i => a = .slice none 0 0 ∧ i = .int .i64 0) (fun _ _ => 0)
  case atStart => exact ⟨rfl, rfl⟩
  case round =>
   obtain ⟨rfl, rfl⟩ := hrel
   go_wp2
   go_loop [9] (fun i => i = .int .i64 0) (fun _ => 0)
   case atStart => exact rfl
   case round =>
    obtain rfl := hrel
    go_wp2
    go_ret
    exact ⟨rfl, rfl⟩
set_option maxRecDepth 100000 in
theorem none_15 (Bk : Nat) (w : World) (hc : w.cell? ⟨Bk, 15, none⟩ = some (.slice none 0 0)) : Calls Tryz.prog 72 #[.pointer (some ⟨Bk, 0, none⟩)] w fun e w' => e = .returned (.bool true) ∧ w' = w := by
 go_enter Tryz.func72, Tryz.ntmps72
 go_wp2
 go_loop [3] (fun i => i = .int .i64 0) (fun _ => 0)
 case atStart => exact rfl
 case round =>
  obtain rfl := hrel
  go_wp2
  go_loop [5, 6] (fun a i => a = .slice none 0 0 ∧ i = .int .i64 0) (fun _ _ => 0)
  case atStart => exact ⟨rfl, rfl⟩
  case round =>
   obtain ⟨rfl, rfl⟩ := hrel
   go_wp2
   go_loop [9] (fun i => i = .int .i64 0) (fun _ => 0)
   case atStart => exact rfl
   case round =>
    obtain rfl := hrel
    go_wp2
    go_ret
    exact ⟨rfl, rfl⟩
set_option maxRecDepth 100000 in
theorem none_16 (Bk : Nat) (w : World) (hc : w.cell? ⟨Bk, 16, none⟩ = some (.slice none 0 0)) : Calls Tryz.prog 73 #[.pointer (some ⟨Bk, 0, none⟩)] w fun e w' => e = .returned (.bool true) ∧ w' = w := by
 go_enter Tryz.func73, Tryz.ntmps73
 go_wp2
 go_loop [3] (fun i => i = .int .i64 0) (fun _ => 0)
 case atStart => exact rfl
 case round =>
  obtain rfl := hrel
  go_wp2
  go_loop [5, 6] (fun a i => a = .slice none 0 0 ∧ i = .int .i64 0) (fun _ _ => 0)
  case atStart => exact ⟨rfl, rfl⟩
  case round =>
   obtain ⟨rfl, rfl⟩ := hrel
   go_wp2
   go_loop [9] (fun i => i = .int .i64 0) (fun _ => 0)
   case atStart => exact rfl
   case round =>
    obtain rfl := hrel
    go_wp2
    go_ret
    exact ⟨rfl, rfl⟩
set_option maxRecDepth 100000 in
theorem none_17 (Bk : Nat) (w : World) (hc : w.cell? ⟨Bk, 17, none⟩ = some (.slice none 0 0)) : Calls Tryz.prog 74 #[.pointer (some ⟨Bk, 0, none⟩)] w fun e w' => e = .returned (.bool true) ∧ w' = w := by
 go_enter Tryz.func74, Tryz.ntmps74
 go_wp2
 go_loop [3] (fun i => i = .int .i64 0) (fun _ => 0)
 case atStart => exact rfl
 case round =>
  obtain rfl := hrel
  go_wp2
  go_loop [5, 6] (fun a i => a = .slice none 0 0 ∧ i = .int .i64 0) (fun _ _ => 0)
  case atStart => exact ⟨rfl, rfl⟩
  case round =>
   obtain ⟨rfl, rfl⟩ := hrel
   go_wp2
   go_loop [9] (fun i => i = .int .i64 0) (fun _ => 0)
   case atStart => exact rfl
   case round =>
    obtain rfl := hrel
    go_wp2
    go_ret
    exact ⟨rfl, rfl⟩
set_option maxRecDepth 100000 in
theorem none_18 (Bk : Nat) (w : World) (hc : w.cell? ⟨Bk, 18, none⟩ = some (.slice none 0 0)) : Calls Tryz.prog 75 #[.pointer (some ⟨Bk, 0, none⟩)] w fun e w' => e = .returned (.bool true) ∧ w' = w := by
 go_enter Tryz.func75, Tryz.ntmps75
 go_wp2
 go_loop [3] (fun i => i = .int .i64 0) (fun _ => 0)
 case atStart => exact rfl
 case round =>
  obtain rfl := hrel
  go_wp2
  go_loop [5, 6] (fun a i => a = .slice none 0 0 ∧ i = .int .i64 0) (fun _ _ => 0)
  case atStart => exact ⟨rfl, rfl⟩
  case round =>
   obtain ⟨rfl, rfl⟩ := hrel
   go_wp2
   go_loop [9] (fun i => i = .int .i64 0) (fun _ => 0)
   case atStart => exact rfl
   case round =>
    obtain rfl := hrel
    go_wp2
    go_ret
    exact ⟨rfl, rfl⟩
set_option maxRecDepth 100000 in
theorem none_19 (Bk : Nat) (w : World) (hc : w.cell? ⟨Bk, 19, none⟩ = some (.slice none 0 0)) : Calls Tryz.prog 76 #[.pointer (some ⟨Bk, 0, none⟩)] w fun e w' => e = .returned (.bool true) ∧ w' = w := by
 go_enter Tryz.func76, Tryz.ntmps76
 go_wp2
 go_loop [3] (fun i => i = .int .i64 0) (fun _ => 0)
 case atStart => exact rfl
 case round =>
  obtain rfl := hrel
  go_wp2
  go_loop [5, 6] (fun a i => a = .slice none 0 0 ∧ i = .int .i64 0) (fun _ _ => 0)
  case atStart => exact ⟨rfl, rfl⟩
  case round =>
   obtain ⟨rfl, rfl⟩ := hrel
   go_wp2
   go_loop [9] (fun i => i = .int .i64 0) (fun _ => 0)
   case atStart => exact rfl
   case round =>
    obtain rfl := hrel
    go_wp2
    go_ret
    exact ⟨rfl, rfl⟩
end Go.Proofs.YtahgaghokpicgaaGreat
namespace Go.Proofs.YtahgaghokpicgaaGreat
open Go.RowKit Go.Maps Go.Shelf
set_option linter.unusedVariables false
set_option maxHeartbeats 16000000
set_option maxRecDepth 100000 in
theorem none_U (Bk : Nat) (w : World) (hc : w.cell? ⟨Bk, 3, none⟩ = some (.slice none 0 0)) : Calls Tryz.prog 60 #[.pointer (some ⟨Bk, 0, none⟩)] w fun e w' => e = .returned (.bool true) ∧ w' = w := by
 go_enter Tryz.func60, Tryz.ntmps60
 go_wp2
 go_loop [3] (fun i => i = .int .i64 0) (fun _ => 0)
 case atStart => exact rfl
 case round =>
  obtain rfl := hrel
  go_wp2
  go_loop [5, 6] (fun a i => a = .slice none 0 0 ∧ i = .int .i64 0) (fun _ _ => 0)
  case atStart => exact ⟨rfl, rfl⟩
  case round =>
   obtain ⟨rfl, rfl⟩ := hrel
   go_wp2
   go_loop [9] (fun i => i = .int .i64 0) (fun _ => 0)
   case atStart => exact rfl
   case round =>
    obtain rfl := hrel
    go_wp2
    go_ret
    exact ⟨rfl, rfl⟩
def bookCells2 (sv ev : Value) : Array Value := #[.slice none 0 0, .slice none 0 0, .slice none 0 0, sv, ev, .slice none 0 0, .slice none 0 0, .slice none 0 0, .slice none 0 0, .slice none 0 0, .slice none 0 0, .slice none 0 0, .slice none 0 0, .slice none 0 0, .slice none 0 0, .slice none 0 0, .slice none 0 0, .slice none 0 0, .slice none 0 0, .slice none 0 0]
structure BKept2 (base : Nat) (W : World) (Bk n : Nat) (v : Nat → Value) (len : Nat → Nat) (sv : Value) (n2 : Nat) (v2 : Nat → Value) (len2 : Nat → Nat) (ev : Value) : Prop where
 blk : W.heap[Bk]? = some (.cells (bookCells2 sv ev) 73 (0, 0))
 outer : W.ownsRow 0 33 1 sv n (LV v n)
 rows : ∀ j, j < n → ∃ xs, W.ownsRow 0 30 1 (v j) (len j) xs
 apart : Apart n v
 outer2 : W.ownsRow 0 37 1 ev n2 (LV v2 n2)
 rows2 : ∀ j, j < n2 → ∃ l : List (Nat × Nat), l.length = len2 j ∧ W.ownsRow 0 86 2 (v2 j) (len2 j) (prRow l)
 apart2 : Apart n2 v2
 bn : base ≤ Bk
 rn : ∀ j b, j < n → (v j).ownBlock = some b → base ≤ b
 sn : ∀ b, sv.ownBlock = some b → base ≤ b
 rn2 : ∀ j b, j < n2 → (v2 j).ownBlock = some b → base ≤ b
 sn2 : ∀ b, ev.ownBlock = some b → base ≤ b
 z : n = 0 → sv = .slice none 0 0
 z2 : n2 = 0 → ev = .slice none 0 0
section
variable {base : Nat} {W X : World} {Bk n : Nat} {v : Nat → Value} {len : Nat → Nat} {sv : Value} {n2 : Nat} {v2 : Nat → Value} {len2 : Nat → Nat} {ev : Value}
def Bks (Bk n : Nat) (v : Nat → Value) (sv : Value) (n2 : Nat) (v2 : Nat → Value) (ev : Value) (b : Nat) : Prop := b = Bk ∨ sv.ownBlock = some b ∨ (∃ j, j < n ∧ (v j).ownBlock = some b) ∨ ev.ownBlock = some b ∨ ∃ j, j < n2 ∧ (v2 j).ownBlock = some b
theorem BKept2.same (h : BKept2 base W Bk n v len sv n2 v2 len2 ev) (k : ∀ b, Bks Bk n v sv n2 v2 ev b → X.heap[b]? = W.heap[b]?) : BKept2 base X Bk n v len sv n2 v2 len2 ev :=
 ⟨(k Bk (.inl rfl)).trans h.blk, row_kept h.outer fun b hb => k b (.inr (.inl hb)), fun j hj => by
  obtain ⟨xs, hx⟩ := h.rows j hj
  exact ⟨xs, row_kept hx fun b hb => k b (.inr (.inr (.inl ⟨j, hj, hb⟩)))⟩, h.apart, row_kept h.outer2 fun b hb => k b (.inr (.inr (.inr (.inl hb)))), fun j hj => by
  obtain ⟨l, hl, hx⟩ := h.rows2 j hj
  exact ⟨l, hl, row_kept hx fun b hb => k b (.inr (.inr (.inr (.inr ⟨j, hj, hb⟩))))⟩, h.apart2, h.bn, h.rn, h.sn, h.rn2, h.sn2, h.z, h.z2⟩
theorem BKept2.lt (h : BKept2 base W Bk n v len sv n2 v2 len2 ev) (b : Nat) (hb : Bks Bk n v sv n2 v2 ev b) : base ≤ b ∧ b < W.heap.size := by
 rcases hb with e | e | ⟨j, hj, e⟩ | e | ⟨j, hj, e⟩
 ·subst e; exact ⟨h.bn, lt_of h.blk⟩
 ·exact ⟨h.sn b e, row_lt h.outer b e⟩
 ·obtain ⟨xs, hx⟩ := h.rows j hj
  exact ⟨h.rn j b hj e, row_lt hx b e⟩
 ·exact ⟨h.sn2 b e, row_lt h.outer2 b e⟩
 ·obtain ⟨l, hl, hx⟩ := h.rows2 j hj
  exact ⟨h.rn2 j b hj e, row_lt hx b e⟩
end
theorem BKept2.start (W : World) (base : Nat) (hb : base ≤ W.heap.size) : BKept2 base (W.alloc (.cells (bookCells2 (.slice none 0 0) (.slice none 0 0)) 73)) W.heap.size 0 (fun _ => .slice none 0 0) (fun _ => 0) (.slice none 0 0) 0 (fun _ => .slice none 0 0) (fun _ => 0) (.slice none 0 0) :=
 ⟨heap_alloc_new _ _, World.ownsRow_nil _ _ _ _, fun j hj => by omega, fun i j b hi => by omega, World.ownsRow_nil _ _ _ _, fun j hj => by omega, fun i j b hi => by omega, hb, fun j b hj => by omega, fun b h => by simp [Value.ownBlock] at h, fun j b hj => by omega, fun b h => by simp [Value.ownBlock] at h, fun _ => rfl, fun _ => rfl⟩
set_option maxRecDepth 100000 in
theorem take_i2 (base Bk n k c : Nat) (p : Option Addr) (v : Nat → Value) (len : Nat → Nat) (sv : Value) (n2 : Nat) (v2 : Nat → Value) (len2 : Nat → Nat) (ev : Value) (ys : List Value) (W : World) (hn : n ≤ 4398046511104) (hk : BKept2 base W Bk n v len sv n2 v2 len2 ev) (hr : W.ownsRow 0 30 1 (.slice p k c) k ys) (hap : ∀ j b, j < n → (v j).ownBlock = some b → (Value.slice p k c).ownBlock ≠ some b) (hxn : ∀ b, (Value.slice p k c).ownBlock = some b → base ≤ b) :
    Calls Tryz.prog 19 #[.pointer (some ⟨Bk, 0, none⟩), .slice p k c] W fun e W' => e = .returned (.tuple #[]) ∧ (∃ me', BKept2 base W' Bk (n + 1) (fun j => if j = n then .slice p k c else v j) (fun j => if j = n then k else len j) me' n2 v2 len2 ev ∧ ∀ b, me'.ownBlock = some b → sv.ownBlock = some b ∨ W.heap.size ≤ b) ∧ Chg (fun b => b = Bk ∨ sv.ownBlock = some b) W W' := by
 obtain ⟨i1, hi1, hy0, hy1, hy2⟩ := info_parts infoLists
 have c2 : W.cell? ⟨Bk, 3, none⟩ = some sv := (cell_of hk.blk 3).trans rfl
 have HK := keepH hk
 have HR := keepH hr
 have HO := keepH hk.outer
 have HAP := keepH hap
 have HXN := keepH hxn
 have f2 : ∀ (u : World), u.heap[Bk]? = some (.cells (bookCells2 sv ev) 73 (0, 0)) → u.frozen? ⟨Bk, 3, none⟩ = false ∧ u.cell? ⟨Bk, 3, none⟩ = some sv := fun u hu => ⟨free_of hu 3, (cell_of hu 3).trans rfl⟩
 have HF2 := keepH f2
 clear hk hr hap hxn f2
 go_enter Tryz.func19, Tryz.ntmps19
 go_wp2_with (first | (at_builtin; refine wpList_append_own_at _ rfl (.tmp 8) (.tmp 10) 55 rfl 0 33 i1 (.slice none 0 0) 1 24 Tryz.underlying55 hi1 hy0 hy1 hy2 rfl (by decide) sv n (LV v n) rfl (HO.out.alloc _) ⟨W.heap.size, 0, none⟩ 1 1 [.slice p k c] rfl rfl (cells_new _ _ rfl _ _) (by intro u hu; simp at hu; subst hu; rfl) (by unfold maxLen; omega) (by omega) (Nat.zero_le _) ?_; intro v9 w1 r1 r2 r3 r4; obtain ⟨pv, cv, rfl⟩ := slice_of r1; have R1 := keepH r1; have R2 := keepH r2; have R4 := keepH r4; have CC : Hid (Chg (fun b => sv.ownBlock = some b) W w1) := ((Chg.refl (fun b => sv.ownBlock = some b) W).alloc _).grown r2 (fun k e _ => e); have HBL : Hid (w1.heap[Bk]? = some (.cells (bookCells2 sv ev) 73 (0, 0))) := (CC.out.block Bk (lt_of HK.out.blk) (fun e => block_apart HK.out.outer HK.out.blk (by decide) e)).trans HK.out.blk; obtain ⟨fz, cz⟩ := HF2.out w1 HBL.out; clear r1 r2 r3 r4) | go_in)
 go_end0
 have hne : (Value.slice pv (n + 1) cv).ownBlock ≠ some Bk := block_apart R1.out HBL.out (by decide)
 have cs : Chg (fun b => b = Bk) w1 (w1.setCell ⟨Bk, 3, none⟩ (.slice pv (n + 1) cv)) := (Chg.refl (fun b => b = Bk) w1).setCell (fun _ => rfl) _
 have ct : Chg (fun b => b = Bk ∨ sv.ownBlock = some b) W (w1.setCell ⟨Bk, 3, none⟩ (.slice pv (n + 1) cv)) := CC.out.trans cs (fun _ _ x => .inr x) (fun _ _ x => .inl x)
 have rowk : ∀ (t : TypeId) (s : Nat) (x : Value) (m : Nat) (xs : List Value), t ≠ 73 → t ≠ 33 → W.ownsRow 0 t s x m xs → (w1.setCell ⟨Bk, 3, none⟩ (.slice pv (n + 1) cv)).ownsRow 0 t s x m xs := fun t s x m xs n1 n2 hx => row_kept hx fun b hb => ct.block b (row_lt hx b hb) (fun e => by
  rcases e with e | e
  ·rw [e] at hb; exact block_apart hx HK.out.blk n1 hb
  ·exact rows_apart hx HK.out.outer n2 b hb e)
 have PA : (w1.setCell ⟨Bk, 3, none⟩ (.slice pv (n + 1) cv)).heap[Bk]? = some (.cells (bookCells2 (.slice pv (n + 1) cv) ev) 73 (0, 0)) := set_of HBL.out 3 _
 have PO : (w1.setCell ⟨Bk, 3, none⟩ (.slice pv (n + 1) cv)).ownsRow 0 33 1 (.slice pv (n + 1) cv) (n + 1) (LV (fun j => if j = n then .slice p k c else v j) (n + 1)) := by
  rw [LV_snoc]
  exact row_kept R1.out fun b hb => cs.block b (row_lt R1.out b hb) (fun e => by rw [e] at hb; exact hne hb)
 have PP : Apart (n + 1) (fun j => if j = n then .slice p k c else v j) := fun i j b hi hj hij h1 => by
  by_cases e1 : i = n
  ·by_cases e2 : j = n
   ·omega
   ·simp only [if_pos e1] at h1
    simp only [if_neg e2]
    exact fun h2 => HAP.out j b (by omega) h2 h1
  ·simp only [if_neg e1] at h1
   by_cases e2 : j = n
   ·simp only [if_pos e2]
    exact HAP.out i b (by omega) h1
   ·simp only [if_neg e2]
    exact HK.out.apart i j b (by omega) (by omega) hij h1
 have PN : ∀ j b, j < n + 1 → ((fun j => if j = n then .slice p k c else v j) j : Value).ownBlock = some b → base ≤ b := fun j b hj h1 => by
  by_cases e1 : j = n
  ·simp only [if_pos e1] at h1
   exact HXN.out b h1
  ·simp only [if_neg e1] at h1
   exact HK.out.rn j b (by omega) h1
 have PS : ∀ b, (Value.slice pv (n + 1) cv).ownBlock = some b → base ≤ b := fun b h1 => by
  rcases R4.out with e | e
  ·rw [e] at h1
   exact HK.out.sn b h1
  ·rw [e] at h1
   simp at h1
   have := lt_of HK.out.blk
   have := HK.out.bn
   omega
 have PM : ∀ b, (Value.slice pv (n + 1) cv).ownBlock = some b → sv.ownBlock = some b ∨ W.heap.size ≤ b := fun b h1 => by
  rcases R4.out with e | e
  ·rw [e] at h1
   exact .inl h1
  ·rw [e] at h1
   simp at h1
   exact .inr (by omega)
 refine ⟨rfl, ⟨.slice pv (n + 1) cv, ⟨PA, PO, fun j hj => ?_, PP, ?_, fun j hj => ?_, HK.out.apart2, HK.out.bn, PN, PS, HK.out.rn2, HK.out.sn2, fun e => by omega, HK.out.z2⟩, PM⟩, ct⟩
 ·by_cases e : j = n
  ·simp only [if_pos e]
   exact ⟨_, rowk _ _ _ _ _ (by decide) (by decide) HR.out⟩
  ·simp only [if_neg e]
   obtain ⟨xs, hx⟩ := HK.out.rows j (by omega)
   exact ⟨xs, rowk _ _ _ _ _ (by decide) (by decide) hx⟩
 ·exact rowk _ _ _ _ _ (by decide) (by decide) HK.out.outer2
 ·obtain ⟨l, hl, hx⟩ := HK.out.rows2 j hj
  exact ⟨l, hl, rowk _ _ _ _ _ (by decide) (by decide) hx⟩
set_option maxRecDepth 100000 in
theorem take_e2 (base Bk n k c : Nat) (p : Option Addr) (v : Nat → Value) (len : Nat → Nat) (sv : Value) (n2 : Nat) (v2 : Nat → Value) (len2 : Nat → Nat) (ev : Value) (ys : List (Nat × Nat)) (hyl : ys.length = k) (W : World) (hn : n2 ≤ 4398046511104) (hk : BKept2 base W Bk n v len sv n2 v2 len2 ev) (hr : W.ownsRow 0 86 2 (.slice p k c) k (prRow ys)) (hap : ∀ j b, j < n2 → (v2 j).ownBlock = some b → (Value.slice p k c).ownBlock ≠ some b) (hxn : ∀ b, (Value.slice p k c).ownBlock = some b → base ≤ b) :
    Calls Tryz.prog 16 #[.pointer (some ⟨Bk, 0, none⟩), .slice p k c] W fun e W' => e = .returned (.tuple #[]) ∧ (∃ me', BKept2 base W' Bk n v len sv (n2 + 1) (fun j => if j = n2 then .slice p k c else v2 j) (fun j => if j = n2 then k else len2 j) me' ∧ ∀ b, me'.ownBlock = some b → ev.ownBlock = some b ∨ W.heap.size ≤ b) ∧ Chg (fun b => b = Bk ∨ ev.ownBlock = some b) W W' := by
 obtain ⟨i1, hi1, hy0, hy1, hy2⟩ := info_parts infoListsP
 have c2 : W.cell? ⟨Bk, 4, none⟩ = some ev := (cell_of hk.blk 4).trans rfl
 have HK := keepH hk
 have HR := keepH hr
 have HO := keepH hk.outer2
 have HAP := keepH hap
 have HXN := keepH hxn
 have HYL := keepH hyl
 have f2 : ∀ (u : World), u.heap[Bk]? = some (.cells (bookCells2 sv ev) 73 (0, 0)) → u.frozen? ⟨Bk, 4, none⟩ = false ∧ u.cell? ⟨Bk, 4, none⟩ = some ev := fun u hu => ⟨free_of hu 4, (cell_of hu 4).trans rfl⟩
 have HF2 := keepH f2
 clear hk hr hap hxn f2
 go_enter Tryz.func16, Tryz.ntmps16
 go_wp2_with (first | (at_builtin; refine wpList_append_own_at _ rfl (.tmp 8) (.tmp 10) 56 rfl 0 37 i1 (.slice none 0 0) 1 24 Tryz.underlying56 hi1 hy0 hy1 hy2 rfl (by decide) ev n2 (LV v2 n2) rfl (HO.out.alloc _) ⟨W.heap.size, 0, none⟩ 1 1 [.slice p k c] rfl rfl (cells_new _ _ rfl _ _) (by intro u hu; simp at hu; subst hu; rfl) (by unfold maxLen; omega) (by omega) (Nat.zero_le _) ?_; intro v9 w1 r1 r2 r3 r4; obtain ⟨pv, cv, rfl⟩ := slice_of r1; have R1 := keepH r1; have R2 := keepH r2; have R4 := keepH r4; have CC : Hid (Chg (fun b => ev.ownBlock = some b) W w1) := ((Chg.refl (fun b => ev.ownBlock = some b) W).alloc _).grown r2 (fun k e _ => e); have HBL : Hid (w1.heap[Bk]? = some (.cells (bookCells2 sv ev) 73 (0, 0))) := (CC.out.block Bk (lt_of HK.out.blk) (fun e => block_apart HK.out.outer2 HK.out.blk (by decide) e)).trans HK.out.blk; obtain ⟨fz, cz⟩ := HF2.out w1 HBL.out; clear r1 r2 r3 r4) | go_in)
 go_end0
 have hne : (Value.slice pv (n2 + 1) cv).ownBlock ≠ some Bk := block_apart R1.out HBL.out (by decide)
 have cs : Chg (fun b => b = Bk) w1 (w1.setCell ⟨Bk, 4, none⟩ (.slice pv (n2 + 1) cv)) := (Chg.refl (fun b => b = Bk) w1).setCell (fun _ => rfl) _
 have ct : Chg (fun b => b = Bk ∨ ev.ownBlock = some b) W (w1.setCell ⟨Bk, 4, none⟩ (.slice pv (n2 + 1) cv)) := CC.out.trans cs (fun _ _ x => .inr x) (fun _ _ x => .inl x)
 have rowk : ∀ (t : TypeId) (s : Nat) (x : Value) (m : Nat) (xs : List Value), t ≠ 73 → t ≠ 37 → W.ownsRow 0 t s x m xs → (w1.setCell ⟨Bk, 4, none⟩ (.slice pv (n2 + 1) cv)).ownsRow 0 t s x m xs := fun t s x m xs n1 n2 hx => row_kept hx fun b hb => ct.block b (row_lt hx b hb) (fun e => by
  rcases e with e | e
  ·rw [e] at hb; exact block_apart hx HK.out.blk n1 hb
  ·exact rows_apart hx HK.out.outer2 n2 b hb e)
 have PA : (w1.setCell ⟨Bk, 4, none⟩ (.slice pv (n2 + 1) cv)).heap[Bk]? = some (.cells (bookCells2 sv (.slice pv (n2 + 1) cv)) 73 (0, 0)) := set_of HBL.out 4 _
 have PO : (w1.setCell ⟨Bk, 4, none⟩ (.slice pv (n2 + 1) cv)).ownsRow 0 37 1 (.slice pv (n2 + 1) cv) (n2 + 1) (LV (fun j => if j = n2 then .slice p k c else v2 j) (n2 + 1)) := by
  rw [LV_snoc]
  exact row_kept R1.out fun b hb => cs.block b (row_lt R1.out b hb) (fun e => by rw [e] at hb; exact hne hb)
 have PP : Apart (n2 + 1) (fun j => if j = n2 then .slice p k c else v2 j) := fun i j b hi hj hij h1 => by
  by_cases e1 : i = n2
  ·by_cases e2 : j = n2
   ·omega
   ·simp only [if_pos e1] at h1
    simp only [if_neg e2]
    exact fun h2 => HAP.out j b (by omega) h2 h1
  ·simp only [if_neg e1] at h1
   by_cases e2 : j = n2
   ·simp only [if_pos e2]
    exact HAP.out i b (by omega) h1
   ·simp only [if_neg e2]
    exact HK.out.apart2 i j b (by omega) (by omega) hij h1
 have PN : ∀ j b, j < n2 + 1 → ((fun j => if j = n2 then .slice p k c else v2 j) j : Value).ownBlock = some b → base ≤ b := fun j b hj h1 => by
  by_cases e1 : j = n2
  ·simp only [if_pos e1] at h1
   exact HXN.out b h1
  ·simp only [if_neg e1] at h1
   exact HK.out.rn2 j b (by omega) h1
 have PS : ∀ b, (Value.slice pv (n2 + 1) cv).ownBlock = some b → base ≤ b := fun b h1 => by
  rcases R4.out with e | e
  ·rw [e] at h1
   exact HK.out.sn2 b h1
  ·rw [e] at h1
   simp at h1
   have := lt_of HK.out.blk
   have := HK.out.bn
   omega
 have PM : ∀ b, (Value.slice pv (n2 + 1) cv).ownBlock = some b → ev.ownBlock = some b ∨ W.heap.size ≤ b := fun b h1 => by
  rcases R4.out with e | e
  ·rw [e] at h1
   exact .inl h1
  ·rw [e] at h1
   simp at h1
   exact .inr (by omega)
 refine ⟨rfl, ⟨.slice pv (n2 + 1) cv, ⟨PA, ?_, fun j hj => ?_, HK.out.apart, PO, fun j hj => ?_, PP, HK.out.bn, HK.out.rn, HK.out.sn, PN, PS, HK.out.z, fun e => by omega⟩, PM⟩, ct⟩
 ·exact rowk _ _ _ _ _ (by decide) (by decide) HK.out.outer
 ·obtain ⟨xs, hx⟩ := HK.out.rows j hj
  exact ⟨xs, rowk _ _ _ _ _ (by decide) (by decide) hx⟩
 ·by_cases e : j = n2
  ·simp only [if_pos e]
   exact ⟨ys, HYL.out, rowk _ _ _ _ _ (by decide) (by decide) HR.out⟩
  ·simp only [if_neg e]
   obtain ⟨l, hl, hx⟩ := HK.out.rows2 j (by omega)
   exact ⟨l, hl, rowk _ _ _ _ _ (by decide) (by decide) hx⟩
theorem nil_one2 : (bookCells2 (.slice none 0 0) (.slice none 0 0)).all (·.oneCell') = true := by simp [bookCells2, Value.oneCell']
theorem chg_setRow2 (W : World) (g : Nat) (cs : Array Value) : Chg (fun b => b = g) W (W.setRow g cs) :=
 ⟨rfl, rfl, rfl, by simp [World.setRow], fun k hk hn => by simp [World.setRow, Array.getElem?_modify]; omega⟩
section
variable {base : Nat} {W : World} {Bk n : Nat} {v : Nat → Value} {len : Nat → Nat} {sv : Value} {n2 : Nat} {v2 : Nat → Value} {len2 : Nat → Nat} {ev : Value}
theorem look_u (hk : BKept2 base W Bk n v len sv n2 v2 len2 ev) (hn : n ≤ 4398046511104) (hlen : ∀ j, j < n → len j ≤ 17592186043904) : Calls Tryz.prog 60 #[.pointer (some ⟨Bk, 0, none⟩)] W fun e w' => e = .returned (.bool true) ∧ Chg (Fv n v) W w' := by
 by_cases h0 : n = 0
 ·refine (none_U Bk W ((cell_of hk.blk 3).trans (by rw [hk.z h0]; rfl))).mono ?_
  rintro e w' ⟨rfl, rfl⟩
  exact ⟨rfl, Chg.refl _ _⟩
 ·exact alone_g Bk n sv v len W hn (by omega) ⟨⟨_, hk.blk, rfl⟩, hk.outer⟩ (fun j hj => by obtain ⟨xs, hx⟩ := hk.rows j hj; exact ⟨xs, hx, fun q hq => absurd hq (Nat.not_lt_zero q)⟩) hk.apart hlen
end
theorem alone4_at {base : Nat} {W X : World} {Bk n : Nat} {v : Nat → Value} {len : Nat → Nat} {sv : Value} {n2 : Nat} {v2 : Nat → Value} {len2 : Nat → Nat} {ev : Value} (hk : BKept2 base W Bk n v len sv n2 v2 len2 ev) (l1 : Chg (Fv n v) W X) (hn : n2 ≤ 4398046511104) (hlen : ∀ j, j < n2 → len2 j ≤ 8796093022000) : Calls Tryz.prog 61 #[.pointer (some ⟨Bk, 0, none⟩)] X fun e w' => e = .returned (.bool true) ∧ Chg (Fv n2 v2) X w' := by
 have hb : X.heap[Bk]? = some (.cells (bookCells2 sv ev) 73 (0, 0)) := (l1.block Bk (lt_of hk.blk) (fun ⟨j, hj, e⟩ => by obtain ⟨xs, hx⟩ := hk.rows j hj; exact block_apart hx hk.blk (by decide) e)).trans hk.blk
 have ho : X.ownsRow 0 37 1 ev n2 (LV v2 n2) := row_kept hk.outer2 fun b hb => l1.block b (row_lt hk.outer2 b hb) (fun ⟨j, hj, e⟩ => by obtain ⟨xs, hx⟩ := hk.rows j hj; exact rows_apart hx hk.outer2 (by decide) b e hb)
 have hr : ∀ j, j < n2 → ∃ l : List (Nat × Nat), l.length = len2 j ∧ X.ownsRow 0 86 2 (v2 j) (len2 j) (prRow l) := fun i hi => by
  obtain ⟨l, hl, hx2⟩ := hk.rows2 i hi
  exact ⟨l, hl, row_kept hx2 fun b hb => l1.block b (row_lt hx2 b hb) (fun ⟨j, hj, e⟩ => by obtain ⟨xs, hx⟩ := hk.rows j hj; exact rows_apart hx hx2 (by decide) b e hb)⟩
 by_cases h0 : n2 = 0
 ·refine (none_4 Bk X ((cell_of hb 4).trans (by rw [hk.z2 h0]; rfl))).mono ?_
  rintro e w' ⟨rfl, rfl⟩
  exact ⟨rfl, Chg.refl _ _⟩
 ·exact alone_p Bk n2 ev v2 len2 X hn (by omega) ⟨⟨_, hb, rfl⟩, ho⟩ (fun j hj => by obtain ⟨l, hl, hx⟩ := hr j hj; exact ⟨l, hl, hx, fun q hq => absurd hq (Nat.not_lt_zero q)⟩) hk.apart2 hlen
set_option maxRecDepth 100000 in
theorem aloneAll_2 (base Bk n : Nat) (v : Nat → Value) (len : Nat → Nat) (sv : Value) (n2 : Nat) (v2 : Nat → Value) (len2 : Nat → Nat) (ev : Value) (W : World) (hn : n ≤ 4398046511104) (hn2 : n2 ≤ 4398046511104) (hk : BKept2 base W Bk n v len sv n2 v2 len2 ev) (hlen : ∀ j, j < n → len j ≤ 17592186043904) (hlen2 : ∀ j, j < n2 → len2 j ≤ 8796093022000) :
    Calls Tryz.prog 23 #[.pointer (some ⟨Bk, 0, none⟩)] W fun e W' => e = .returned (.bool true) ∧ Chg (Bks Bk n v sv n2 v2 ev) W W' := by
 have HB := keepH hk.blk
 have HK := keepH hk
 have HLEN := keepH hlen
 have HLEN2 := keepH hlen2
 clear hk hlen hlen2
 have bc : ∀ (u : World) (i : Nat), u.heap[Bk]? = some (.cells (bookCells2 sv ev) 73 (0, 0)) → u.cell? ⟨Bk, i, none⟩ = (bookCells2 sv ev)[i]? := fun u i hu => cell_of hu i
 have HBC := keepH bc
 clear bc
 go_enter Tryz.func23, Tryz.ntmps23
 go_wp2_with fail
 refine (none_0 Bk _ ((HBC.out _ 0 HB.out).trans rfl)).mono ?_
 rintro e w' ⟨rfl, rfl⟩
 go_wp2_with fail
 refine (none_1 Bk _ ((HBC.out _ 1 HB.out).trans rfl)).mono ?_
 rintro e w' ⟨rfl, rfl⟩
 go_wp2_with fail
 refine (none_2 Bk _ ((HBC.out _ 2 HB.out).trans rfl)).mono ?_
 rintro e w' ⟨rfl, rfl⟩
 go_wp2_with fail
 refine (look_u HK.out hn HLEN.out).mono ?_
 rintro e w1 ⟨rfl, l1⟩
 have HB1 : Hid (w1.heap[Bk]? = some (.cells (bookCells2 sv ev) 73 (0, 0))) := (l1.block Bk (lt_of HK.out.blk) (fun ⟨j, hj, e⟩ => by obtain ⟨xs, hx⟩ := HK.out.rows j hj; exact block_apart hx HB.out (by decide) e)).trans HB.out
 have HL5 := keepH (alone4_at HK.out l1 hn2 HLEN2.out)
 have HC1 : Hid (Chg (Bks Bk n v sv n2 v2 ev) _ w1) := l1.mono (fun b _ ⟨j, hj, e⟩ => .inr (.inr (.inl ⟨j, hj, e⟩)))
 clear l1
 go_wp2_with fail
 refine HL5.out.mono ?_
 rintro e w2 ⟨rfl, l2⟩
 have HB2 : Hid (w2.heap[Bk]? = some (.cells (bookCells2 sv ev) 73 (0, 0))) := (l2.block Bk (lt_of HB1.out) (fun ⟨j, hj, e⟩ => by obtain ⟨l, hl, hx⟩ := HK.out.rows2 j hj; exact block_apart hx HB.out (by decide) e)).trans HB1.out
 have HC2 : Hid (Chg (Bks Bk n v sv n2 v2 ev) _ w2) := HC1.out.trans l2 (fun _ _ x => x) (fun b _ ⟨j, hj, e⟩ => .inr (.inr (.inr (.inr ⟨j, hj, e⟩))))
 clear l2
 go_wp2_with fail
 refine (none_5 Bk _ ((HBC.out _ 5 HB2.out).trans rfl)).mono ?_
 rintro e w' ⟨rfl, rfl⟩
 go_wp2_with fail
 refine (none_6 Bk _ ((HBC.out _ 6 HB2.out).trans rfl)).mono ?_
 rintro e w' ⟨rfl, rfl⟩
 go_wp2_with fail
 refine (none_7 Bk _ ((HBC.out _ 7 HB2.out).trans rfl)).mono ?_
 rintro e w' ⟨rfl, rfl⟩
 go_wp2_with fail
 refine (none_8 Bk _ ((HBC.out _ 8 HB2.out).trans rfl)).mono ?_
 rintro e w' ⟨rfl, rfl⟩
 go_wp2_with fail
 refine (none_9 Bk _ ((HBC.out _ 9 HB2.out).trans rfl)).mono ?_
 rintro e w' ⟨rfl, rfl⟩
 go_wp2_with fail
 refine (none_10 Bk _ ((HBC.out _ 10 HB2.out).trans rfl)).mono ?_
 rintro e w' ⟨rfl, rfl⟩
 go_wp2_with fail
 refine (none_11 Bk _ ((HBC.out _ 11 HB2.out).trans rfl)).mono ?_
 rintro e w' ⟨rfl, rfl⟩
 go_wp2_with fail
 refine (none_12 Bk _ ((HBC.out _ 12 HB2.out).trans rfl)).mono ?_
 rintro e w' ⟨rfl, rfl⟩
 go_wp2_with fail
 refine (none_13 Bk _ ((HBC.out _ 13 HB2.out).trans rfl)).mono ?_
 rintro e w' ⟨rfl, rfl⟩
 go_wp2_with fail
 refine (none_14 Bk _ ((HBC.out _ 14 HB2.out).trans rfl)).mono ?_
 rintro e w' ⟨rfl, rfl⟩
 go_wp2_with fail
 refine (none_15 Bk _ ((HBC.out _ 15 HB2.out).trans rfl)).mono ?_
 rintro e w' ⟨rfl, rfl⟩
 go_wp2_with fail
 refine (none_16 Bk _ ((HBC.out _ 16 HB2.out).trans rfl)).mono ?_
 rintro e w' ⟨rfl, rfl⟩
 go_wp2_with fail
 refine (none_17 Bk _ ((HBC.out _ 17 HB2.out).trans rfl)).mono ?_
 rintro e w' ⟨rfl, rfl⟩
 go_wp2_with fail
 refine (none_18 Bk _ ((HBC.out _ 18 HB2.out).trans rfl)).mono ?_
 rintro e w' ⟨rfl, rfl⟩
 go_wp2_with fail
 refine (none_19 Bk _ ((HBC.out _ 19 HB2.out).trans rfl)).mono ?_
 rintro e w' ⟨rfl, rfl⟩
 have hb1 := HB2.out
 go_wp2_with (refine wpList_store_row rfl 73 _ _ rfl Bk (bookCells2 (.slice none 0 0) (.slice none 0 0)) rfl rfl 73 (bookCells2 sv ev) hb1 (by kernel_rfl) rfl nil_one2 ?_)
 go_ret
 exact ⟨by simp, HC2.out.trans (chg_setRow2 _ _ _) (fun _ _ x => x) (fun b _ e => .inl e)⟩
end Go.Proofs.YtahgaghokpicgaaGreat
