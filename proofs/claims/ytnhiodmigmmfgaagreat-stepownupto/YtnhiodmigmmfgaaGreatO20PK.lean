/- Lists of which there are none: each look of a book that keeps none of its kind tells true, and leaves the world as it was. -/
import Derived.Test.YtnhiodmigmmfgaaGreatChecked
import Derived.WalkKit
import Derived.WalkLawsBesides
import Derived.Laws.Tables
import Derived.Test.YtnhiodmigmmfgaaGreatO19BkIE
import Derived.Test.YtnhiodmigmmfgaaGreatO18BkGs
namespace Go.Proofs.YtnhiodmigmmfgaaGreat
open Go.RowKit

set_option maxRecDepth 100000 in
set_option maxHeartbeats 1000000 in
theorem none_0 (Bk : Nat) (w : World) (hc : w.cell? ⟨Bk, 0, none⟩ = some (.slice none 0 0)) : Calls Tryz.prog 53 #[.pointer (some ⟨Bk, 0, none⟩)] w fun e w' => e = .returned (.bool true) ∧ w' = w := by
  go_enter Tryz.func53, Tryz.ntmps53
  go_wp2
  go_loop [3] (fun i => i = .int .i64 0) (fun _ => 0)
  case atStart => exact rfl
  case round =>
    obtain rfl := hrel
    go_wp2
    go_loop [5, 6] (fun a i => a = .slice none 0 0 ∧ i = .int .i64 0) (fun _ _ => 0)
    case atStart => exact ⟨rfl, rfl⟩
    case round =>
      obtain ⟨rfl, rfl⟩ := hrel
      go_wp2
      go_loop [9] (fun i => i = .int .i64 0) (fun _ => 0)
      case atStart => exact rfl
      case round =>
        obtain rfl := hrel
        go_wp2
        go_ret
        exact ⟨rfl, rfl⟩

set_option maxRecDepth 100000 in
set_option maxHeartbeats 1000000 in
theorem none_1 (Bk : Nat) (w : World) (hc : w.cell? ⟨Bk, 1, none⟩ = some (.slice none 0 0)) : Calls Tryz.prog 54 #[.pointer (some ⟨Bk, 0, none⟩)] w fun e w' => e = .returned (.bool true) ∧ w' = w := by
  go_enter Tryz.func54, Tryz.ntmps54
  go_wp2
  go_loop [3] (fun i => i = .int .i64 0) (fun _ => 0)
  case atStart => exact rfl
  case round =>
    obtain rfl := hrel
    go_wp2
    go_loop [5, 6] (fun a i => a = .slice none 0 0 ∧ i = .int .i64 0) (fun _ _ => 0)
    case atStart => exact ⟨rfl, rfl⟩
    case round =>
      obtain ⟨rfl, rfl⟩ := hrel
      go_wp2
      go_loop [9] (fun i => i = .int .i64 0) (fun _ => 0)
      case atStart => exact rfl
      case round =>
        obtain rfl := hrel
        go_wp2
        go_ret
        exact ⟨rfl, rfl⟩

set_option maxRecDepth 100000 in
set_option maxHeartbeats 1000000 in
theorem none_3 (Bk : Nat) (w : World) (hc : w.cell? ⟨Bk, 3, none⟩ = some (.slice none 0 0)) : Calls Tryz.prog 56 #[.pointer (some ⟨Bk, 0, none⟩)] w fun e w' => e = .returned (.bool true) ∧ w' = w := by
  go_enter Tryz.func56, Tryz.ntmps56
  go_wp2
  go_loop [3] (fun i => i = .int .i64 0) (fun _ => 0)
  case atStart => exact rfl
  case round =>
    obtain rfl := hrel
    go_wp2
    go_loop [5, 6] (fun a i => a = .slice none 0 0 ∧ i = .int .i64 0) (fun _ _ => 0)
    case atStart => exact ⟨rfl, rfl⟩
    case round =>
      obtain ⟨rfl, rfl⟩ := hrel
      go_wp2
      go_loop [9] (fun i => i = .int .i64 0) (fun _ => 0)
      case atStart => exact rfl
      case round =>
        obtain rfl := hrel
        go_wp2
        go_ret
        exact ⟨rfl, rfl⟩

set_option maxRecDepth 100000 in
set_option maxHeartbeats 1000000 in
theorem none_4 (Bk : Nat) (w : World) (hc : w.cell? ⟨Bk, 4, none⟩ = some (.slice none 0 0)) : Calls Tryz.prog 57 #[.pointer (some ⟨Bk, 0, none⟩)] w fun e w' => e = .returned (.bool true) ∧ w' = w := by
  go_enter Tryz.func57, Tryz.ntmps57
  go_wp2
  go_loop [3] (fun i => i = .int .i64 0) (fun _ => 0)
  case atStart => exact rfl
  case round =>
    obtain rfl := hrel
    go_wp2
    go_loop [5, 6] (fun a i => a = .slice none 0 0 ∧ i = .int .i64 0) (fun _ _ => 0)
    case atStart => exact ⟨rfl, rfl⟩
    case round =>
      obtain ⟨rfl, rfl⟩ := hrel
      go_wp2
      go_loop [9] (fun i => i = .int .i64 0) (fun _ => 0)
      case atStart => exact rfl
      case round =>
        obtain rfl := hrel
        go_wp2
        go_ret
        exact ⟨rfl, rfl⟩

set_option maxRecDepth 100000 in
set_option maxHeartbeats 1000000 in
theorem none_5 (Bk : Nat) (w : World) (hc : w.cell? ⟨Bk, 5, none⟩ = some (.slice none 0 0)) : Calls Tryz.prog 58 #[.pointer (some ⟨Bk, 0, none⟩)] w fun e w' => e = .returned (.bool true) ∧ w' = w := by
  go_enter Tryz.func58, Tryz.ntmps58
  go_wp2
  go_loop [3] (fun i => i = .int .i64 0) (fun _ => 0)
  case atStart => exact rfl
  case round =>
    obtain rfl := hrel
    go_wp2
    go_loop [5, 6] (fun a i => a = .slice none 0 0 ∧ i = .int .i64 0) (fun _ _ => 0)
    case atStart => exact ⟨rfl, rfl⟩
    case round =>
      obtain ⟨rfl, rfl⟩ := hrel
      go_wp2
      go_loop [9] (fun i => i = .int .i64 0) (fun _ => 0)
      case atStart => exact rfl
      case round =>
        obtain rfl := hrel
        go_wp2
        go_ret
        exact ⟨rfl, rfl⟩

set_option maxRecDepth 100000 in
set_option maxHeartbeats 1000000 in
theorem none_6 (Bk : Nat) (w : World) (hc : w.cell? ⟨Bk, 6, none⟩ = some (.slice none 0 0)) : Calls Tryz.prog 59 #[.pointer (some ⟨Bk, 0, none⟩)] w fun e w' => e = .returned (.bool true) ∧ w' = w := by
  go_enter Tryz.func59, Tryz.ntmps59
  go_wp2
  go_loop [3] (fun i => i = .int .i64 0) (fun _ => 0)
  case atStart => exact rfl
  case round =>
    obtain rfl := hrel
    go_wp2
    go_loop [5, 6] (fun a i => a = .slice none 0 0 ∧ i = .int .i64 0) (fun _ _ => 0)
    case atStart => exact ⟨rfl, rfl⟩
    case round =>
      obtain ⟨rfl, rfl⟩ := hrel
      go_wp2
      go_loop [9] (fun i => i = .int .i64 0) (fun _ => 0)
      case atStart => exact rfl
      case round =>
        obtain rfl := hrel
        go_wp2
        go_ret
        exact ⟨rfl, rfl⟩

set_option maxRecDepth 100000 in
set_option maxHeartbeats 1000000 in
theorem none_7 (Bk : Nat) (w : World) (hc : w.cell? ⟨Bk, 7, none⟩ = some (.slice none 0 0)) : Calls Tryz.prog 60 #[.pointer (some ⟨Bk, 0, none⟩)] w fun e w' => e = .returned (.bool true) ∧ w' = w := by
  go_enter Tryz.func60, Tryz.ntmps60
  go_wp2
  go_loop [3] (fun i => i = .int .i64 0) (fun _ => 0)
  case atStart => exact rfl
  case round =>
    obtain rfl := hrel
    go_wp2
    go_loop [5, 6] (fun a i => a = .slice none 0 0 ∧ i = .int .i64 0) (fun _ _ => 0)
    case atStart => exact ⟨rfl, rfl⟩
    case round =>
      obtain ⟨rfl, rfl⟩ := hrel
      go_wp2
      go_loop [9] (fun i => i = .int .i64 0) (fun _ => 0)
      case atStart => exact rfl
      case round =>
        obtain rfl := hrel
        go_wp2
        go_ret
        exact ⟨rfl, rfl⟩

set_option maxRecDepth 100000 in
set_option maxHeartbeats 1000000 in
theorem none_8 (Bk : Nat) (w : World) (hc : w.cell? ⟨Bk, 8, none⟩ = some (.slice none 0 0)) : Calls Tryz.prog 61 #[.pointer (some ⟨Bk, 0, none⟩)] w fun e w' => e = .returned (.bool true) ∧ w' = w := by
  go_enter Tryz.func61, Tryz.ntmps61
  go_wp2
  go_loop [3] (fun i => i = .int .i64 0) (fun _ => 0)
  case atStart => exact rfl
  case round =>
    obtain rfl := hrel
    go_wp2
    go_loop [5, 6] (fun a i => a = .slice none 0 0 ∧ i = .int .i64 0) (fun _ _ => 0)
    case atStart => exact ⟨rfl, rfl⟩
    case round =>
      obtain ⟨rfl, rfl⟩ := hrel
      go_wp2
      go_loop [9] (fun i => i = .int .i64 0) (fun _ => 0)
      case atStart => exact rfl
      case round =>
        obtain rfl := hrel
        go_wp2
        go_ret
        exact ⟨rfl, rfl⟩

set_option maxRecDepth 100000 in
set_option maxHeartbeats 1000000 in
theorem none_9 (Bk : Nat) (w : World) (hc : w.cell? ⟨Bk, 9, none⟩ = some (.slice none 0 0)) : Calls Tryz.prog 62 #[.pointer (some ⟨Bk, 0, none⟩)] w fun e w' => e = .returned (.bool true) ∧ w' = w := by
  go_enter Tryz.func62, Tryz.ntmps62
  go_wp2
  go_loop [3] (fun i => i = .int .i64 0) (fun _ => 0)
  case atStart => exact rfl
  case round =>
    obtain rfl := hrel
    go_wp2
    go_loop [5, 6] (fun a i => a = .slice none 0 0 ∧ i = .int .i64 0) (fun _ _ => 0)
    case atStart => exact ⟨rfl, rfl⟩
    case round =>
      obtain ⟨rfl, rfl⟩ := hrel
      go_wp2
      go_loop [9] (fun i => i = .int .i64 0) (fun _ => 0)
      case atStart => exact rfl
      case round =>
        obtain rfl := hrel
        go_wp2
        go_ret
        exact ⟨rfl, rfl⟩

set_option maxRecDepth 100000 in
set_option maxHeartbeats 1000000 in
theorem none_10 (Bk : Nat) (w : World) (hc : w.cell? ⟨Bk, 10, none⟩ = some (.slice none 0 0)) : Calls Tryz.prog 63 #[.pointer (some ⟨Bk, 0, none⟩)] w fun e w' => e = .returned (.bool true) ∧ w' = w := by
  go_enter Tryz.func63, Tryz.ntmps63
  go_wp2
  go_loop [3] (fun i => i = .int .i64 0) (fun _ => 0)
  case atStart => exact rfl
  case round =>
    obtain rfl := hrel
    go_wp2
    go_loop [5, 6] (fun a i => a = .slice none 0 0 ∧ i = .int .i64 0) (fun _ _ => 0)
    case atStart => exact ⟨rfl, rfl⟩
    case round =>
      obtain ⟨rfl, rfl⟩ := hrel
      go_wp2
      go_loop [9] (fun i => i = .int .i64 0) (fun _ => 0)
      case atStart => exact rfl
      case round =>
        obtain rfl := hrel
        go_wp2
        go_ret
        exact ⟨rfl, rfl⟩

set_option maxRecDepth 100000 in
set_option maxHeartbeats 1000000 in
theorem none_11 (Bk : Nat) (w : World) (hc : w.cell? ⟨Bk, 11, none⟩ = some (.slice none 0 0)) : Calls Tryz.prog 64 #[.pointer (some ⟨Bk, 0, none⟩)] w fun e w' => e = .returned (.bool true) ∧ w' = w := by
  go_enter Tryz.func64, Tryz.ntmps64
  go_wp2
  go_loop [3] (fun i => i = .int .i64 0) (fun _ => 0)
  case atStart => exact rfl
  case round =>
    obtain rfl := hrel
    go_wp2
    go_loop [5, 6] (fun a i => a = .slice none 0 0 ∧ i = .int .i64 0) (fun _ _ => 0)
    case atStart => exact ⟨rfl, rfl⟩
    case round =>
      obtain ⟨rfl, rfl⟩ := hrel
      go_wp2
      go_loop [9] (fun i => i = .int .i64 0) (fun _ => 0)
      case atStart => exact rfl
      case round =>
        obtain rfl := hrel
        go_wp2
        go_ret
        exact ⟨rfl, rfl⟩

set_option maxRecDepth 100000 in
set_option maxHeartbeats 1000000 in
theorem none_12 (Bk : Nat) (w : World) (hc : w.cell? ⟨Bk, 12, none⟩ = some (.slice none 0 0)) : Calls Tryz.prog 65 #[.pointer (some ⟨Bk, 0, none⟩)] w fun e w' => e = .returned (.bool true) ∧ w' = w := by
  go_enter Tryz.func65, Tryz.ntmps65
  go_wp2
  go_loop [3] (fun i => i = .int .i64 0) (fun _ => 0)
  case atStart => exact rfl
  case round =>
    obtain rfl := hrel
    go_wp2
    go_loop [5, 6] (fun a i => a = .slice none 0 0 ∧ i = .int .i64 0) (fun _ _ => 0)
    case atStart => exact ⟨rfl, rfl⟩
    case round =>
      obtain ⟨rfl, rfl⟩ := hrel
      go_wp2
      go_loop [9] (fun i => i = .int .i64 0) (fun _ => 0)
      case atStart => exact rfl
      case round =>
        obtain rfl := hrel
        go_wp2
        go_ret
        exact ⟨rfl, rfl⟩

set_option maxRecDepth 100000 in
set_option maxHeartbeats 1000000 in
theorem none_13 (Bk : Nat) (w : World) (hc : w.cell? ⟨Bk, 13, none⟩ = some (.slice none 0 0)) : Calls Tryz.prog 66 #[.pointer (some ⟨Bk, 0, none⟩)] w fun e w' => e = .returned (.bool true) ∧ w' = w := by
  go_enter Tryz.func66, Tryz.ntmps66
  go_wp2
  go_loop [3] (fun i => i = .int .i64 0) (fun _ => 0)
  case atStart => exact rfl
  case round =>
    obtain rfl := hrel
    go_wp2
    go_loop [5, 6] (fun a i => a = .slice none 0 0 ∧ i = .int .i64 0) (fun _ _ => 0)
    case atStart => exact ⟨rfl, rfl⟩
    case round =>
      obtain ⟨rfl, rfl⟩ := hrel
      go_wp2
      go_loop [9] (fun i => i = .int .i64 0) (fun _ => 0)
      case atStart => exact rfl
      case round =>
        obtain rfl := hrel
        go_wp2
        go_ret
        exact ⟨rfl, rfl⟩

set_option maxRecDepth 100000 in
set_option maxHeartbeats 1000000 in
theorem none_14 (Bk : Nat) (w : World) (hc : w.cell? ⟨Bk, 14, none⟩ = some (.slice none 0 0)) : Calls Tryz.prog 67 #[.pointer (some ⟨Bk, 0, none⟩)] w fun e w' => e = .returned (.bool true) ∧ w' = w := by
  go_enter Tryz.func67, Tryz.ntmps67
  go_wp2
  go_loop [3] (fun i => i = .int .i64 0) (fun _ => 0)
  case atStart => exact rfl
  case round =>
    obtain rfl := hrel
    go_wp2
    go_loop [5, 6] (fun a i => a = .slice none 0 0 ∧ i = .int .i64 0) (fun _ _ => 0)
    case atStart => exact ⟨rfl, rfl⟩
    case round =>
      obtain ⟨rfl, rfl⟩ := hrel
      go_wp2
      go_loop [9] (fun i => i = .int .i64 0) (fun _ => 0)
      case atStart => exact rfl
      case round =>
        obtain rfl := hrel
        go_wp2
        go_ret
        exact ⟨rfl, rfl⟩

set_option maxRecDepth 100000 in
set_option maxHeartbeats 1000000 in
theorem none_15 (Bk : Nat) (w : World) (hc : w.cell? ⟨Bk, 15, none⟩ = some (.slice none 0 0)) : Calls Tryz.prog 68 #[.pointer (some ⟨Bk, 0, none⟩)] w fun e w' => e = .returned (.bool true) ∧ w' = w := by
  go_enter Tryz.func68, Tryz.ntmps68
  go_wp2
  go_loop [3] (fun i => i = .int .i64 0) (fun _ => 0)
  case atStart => exact rfl
  case round =>
    obtain rfl := hrel
    go_wp2
    go_loop [5, 6] (fun a i => a = .slice none 0 0 ∧ i = .int .i64 0) (fun _ _ => 0)
    case atStart => exact ⟨rfl, rfl⟩
    case round =>
      obtain ⟨rfl, rfl⟩ := hrel
      go_wp2
      go_loop [9] (fun i => i = .int .i64 0) (fun _ => 0)
      case atStart => exact rfl
      case round =>
        obtain rfl := hrel
        go_wp2
        go_ret
        exact ⟨rfl, rfl⟩

set_option maxRecDepth 100000 in
set_option maxHeartbeats 1000000 in
theorem none_16 (Bk : Nat) (w : World) (hc : w.cell? ⟨Bk, 16, none⟩ = some (.slice none 0 0)) : Calls Tryz.prog 69 #[.pointer (some ⟨Bk, 0, none⟩)] w fun e w' => e = .returned (.bool true) ∧ w' = w := by
  go_enter Tryz.func69, Tryz.ntmps69
  go_wp2
  go_loop [3] (fun i => i = .int .i64 0) (fun _ => 0)
  case atStart => exact rfl
  case round =>
    obtain rfl := hrel
    go_wp2
    go_loop [5, 6] (fun a i => a = .slice none 0 0 ∧ i = .int .i64 0) (fun _ _ => 0)
    case atStart => exact ⟨rfl, rfl⟩
    case round =>
      obtain ⟨rfl, rfl⟩ := hrel
      go_wp2
      go_loop [9] (fun i => i = .int .i64 0) (fun _ => 0)
      case atStart => exact rfl
      case round =>
        obtain rfl := hrel
        go_wp2
        go_ret
        exact ⟨rfl, rfl⟩

set_option maxRecDepth 100000 in
set_option maxHeartbeats 1000000 in
theorem none_17 (Bk : Nat) (w : World) (hc : w.cell? ⟨Bk, 17, none⟩ = some (.slice none 0 0)) : Calls Tryz.prog 70 #[.pointer (some ⟨Bk, 0, none⟩)] w fun e w' => e = .returned (.bool true) ∧ w' = w := by
  go_enter Tryz.func70, Tryz.ntmps70
  go_wp2
  go_loop [3] (fun i => i = .int .i64 0) (fun _ => 0)
  case atStart => exact rfl
  case round =>
    obtain rfl := hrel
    go_wp2
    go_loop [5, 6] (fun a i => a = .slice none 0 0 ∧ i = .int .i64 0) (fun _ _ => 0)
    case atStart => exact ⟨rfl, rfl⟩
    case round =>
      obtain ⟨rfl, rfl⟩ := hrel
      go_wp2
      go_loop [9] (fun i => i = .int .i64 0) (fun _ => 0)
      case atStart => exact rfl
      case round =>
        obtain rfl := hrel
        go_wp2
        go_ret
        exact ⟨rfl, rfl⟩

set_option maxRecDepth 100000 in
set_option maxHeartbeats 1000000 in
theorem none_18 (Bk : Nat) (w : World) (hc : w.cell? ⟨Bk, 18, none⟩ = some (.slice none 0 0)) : Calls Tryz.prog 71 #[.pointer (some ⟨Bk, 0, none⟩)] w fun e w' => e = .returned (.bool true) ∧ w' = w := by
  go_enter Tryz.func71, Tryz.ntmps71
  go_wp2
  go_loop [3] (fun i => i = .int .i64 0) (fun _ => 0)
  case atStart => exact rfl
  case round =>
    obtain rfl := hrel
    go_wp2
    go_loop [5, 6] (fun a i => a = .slice none 0 0 ∧ i = .int .i64 0) (fun _ _ => 0)
    case atStart => exact ⟨rfl, rfl⟩
    case round =>
      obtain ⟨rfl, rfl⟩ := hrel
      go_wp2
      go_loop [9] (fun i => i = .int .i64 0) (fun _ => 0)
      case atStart => exact rfl
      case round =>
        obtain rfl := hrel
        go_wp2
        go_ret
        exact ⟨rfl, rfl⟩

set_option maxRecDepth 100000 in
set_option maxHeartbeats 1000000 in
theorem none_19 (Bk : Nat) (w : World) (hc : w.cell? ⟨Bk, 19, none⟩ = some (.slice none 0 0)) : Calls Tryz.prog 72 #[.pointer (some ⟨Bk, 0, none⟩)] w fun e w' => e = .returned (.bool true) ∧ w' = w := by
  go_enter Tryz.func72, Tryz.ntmps72
  go_wp2
  go_loop [3] (fun i => i = .int .i64 0) (fun _ => 0)
  case atStart => exact rfl
  case round =>
    obtain rfl := hrel
    go_wp2
    go_loop [5, 6] (fun a i => a = .slice none 0 0 ∧ i = .int .i64 0) (fun _ _ => 0)
    case atStart => exact ⟨rfl, rfl⟩
    case round =>
      obtain ⟨rfl, rfl⟩ := hrel
      go_wp2
      go_loop [9] (fun i => i = .int .i64 0) (fun _ => 0)
      case atStart => exact rfl
      case round =>
        obtain rfl := hrel
        go_wp2
        go_ret
        exact ⟨rfl, rfl⟩

end Go.Proofs.YtnhiodmigmmfgaaGreat
/- A book that takes lists of ints and lists of events, of any lengths; all its looks. -/
namespace Go.Proofs.YtnhiodmigmmfgaaGreat
open Go.RowKit Go.Maps Go.Shelf
set_option linter.unusedVariables false

set_option maxRecDepth 100000 in
set_option maxHeartbeats 1000000 in
theorem none_2 (Bk : Nat) (w : World) (hc : w.cell? ⟨Bk, 2, none⟩ = some (.slice none 0 0)) : Calls Tryz.prog 55 #[.pointer (some ⟨Bk, 0, none⟩)] w fun e w' => e = .returned (.bool true) ∧ w' = w := by
  go_enter Tryz.func55, Tryz.ntmps55
  go_wp2
  go_loop [3] (fun i => i = .int .i64 0) (fun _ => 0)
  case atStart => exact rfl
  case round =>
    obtain rfl := hrel
    go_wp2
    go_loop [5, 6] (fun a i => a = .slice none 0 0 ∧ i = .int .i64 0) (fun _ _ => 0)
    case atStart => exact ⟨rfl, rfl⟩
    case round =>
      obtain ⟨rfl, rfl⟩ := hrel
      go_wp2
      go_loop [9] (fun i => i = .int .i64 0) (fun _ => 0)
      case atStart => exact rfl
      case round =>
        obtain rfl := hrel
        go_wp2
        go_ret
        exact ⟨rfl, rfl⟩

def bookCells2 (sv ev : Value) : Array Value := #[.slice none 0 0, .slice none 0 0, sv, .slice none 0 0, .slice none 0 0, ev, .slice none 0 0, .slice none 0 0, .slice none 0 0, .slice none 0 0, .slice none 0 0, .slice none 0 0, .slice none 0 0, .slice none 0 0, .slice none 0 0, .slice none 0 0, .slice none 0 0, .slice none 0 0, .slice none 0 0, .slice none 0 0]
structure BKept2 (base : Nat) (W : World) (Bk n : Nat) (v : Nat → Value) (len : Nat → Nat) (sv : Value) (n2 : Nat) (v2 : Nat → Value) (len2 : Nat → Nat) (ev : Value) : Prop where
  blk : W.heap[Bk]? = some (.cells (bookCells2 sv ev) 63 (0, 0))
  outer : W.ownsRow 0 23 1 sv n (LV v n)
  rows : ∀ j, j < n → ∃ xs, W.ownsRow 0 3 1 (v j) (len j) xs
  apart : Apart n v
  outer2 : W.ownsRow 0 65 1 ev n2 (LV v2 n2)
  rows2 : ∀ j, j < n2 → ∃ l : List Ev, l.length = len2 j ∧ W.ownsRow 0 100 4 (v2 j) (len2 j) (evRow l)
  apart2 : Apart n2 v2
  bn : base ≤ Bk
  rn : ∀ j b, j < n → (v j).ownBlock = some b → base ≤ b
  sn : ∀ b, sv.ownBlock = some b → base ≤ b
  rn2 : ∀ j b, j < n2 → (v2 j).ownBlock = some b → base ≤ b
  sn2 : ∀ b, ev.ownBlock = some b → base ≤ b
  z : n = 0 → sv = .slice none 0 0
  z2 : n2 = 0 → ev = .slice none 0 0
section
variable {base : Nat} {W X : World} {Bk n : Nat} {v : Nat → Value} {len : Nat → Nat} {sv : Value} {n2 : Nat} {v2 : Nat → Value} {len2 : Nat → Nat} {ev : Value}
/-- What the book has of its own. -/
def Bks (Bk n : Nat) (v : Nat → Value) (sv : Value) (n2 : Nat) (v2 : Nat → Value) (ev : Value) (b : Nat) : Prop := b = Bk ∨ sv.ownBlock = some b ∨ (∃ j, j < n ∧ (v j).ownBlock = some b) ∨ ev.ownBlock = some b ∨ ∃ j, j < n2 ∧ (v2 j).ownBlock = some b
theorem BKept2.same (h : BKept2 base W Bk n v len sv n2 v2 len2 ev) (k : ∀ b, Bks Bk n v sv n2 v2 ev b → X.heap[b]? = W.heap[b]?) : BKept2 base X Bk n v len sv n2 v2 len2 ev :=
  ⟨(k Bk (.inl rfl)).trans h.blk, row_kept h.outer fun b hb => k b (.inr (.inl hb)), fun j hj => by
    obtain ⟨xs, hx⟩ := h.rows j hj
    exact ⟨xs, row_kept hx fun b hb => k b (.inr (.inr (.inl ⟨j, hj, hb⟩)))⟩, h.apart, row_kept h.outer2 fun b hb => k b (.inr (.inr (.inr (.inl hb)))), fun j hj => by
    obtain ⟨l, hl, hx⟩ := h.rows2 j hj
    exact ⟨l, hl, row_kept hx fun b hb => k b (.inr (.inr (.inr (.inr ⟨j, hj, hb⟩))))⟩, h.apart2, h.bn, h.rn, h.sn, h.rn2, h.sn2, h.z, h.z2⟩
theorem BKept2.lt (h : BKept2 base W Bk n v len sv n2 v2 len2 ev) (b : Nat) (hb : Bks Bk n v sv n2 v2 ev b) : base ≤ b ∧ b < W.heap.size := by
  rcases hb with e | e | ⟨j, hj, e⟩ | e | ⟨j, hj, e⟩
  · subst e; exact ⟨h.bn, lt_of h.blk⟩
  · exact ⟨h.sn b e, row_lt h.outer b e⟩
  · obtain ⟨xs, hx⟩ := h.rows j hj
    exact ⟨h.rn j b hj e, row_lt hx b e⟩
  · exact ⟨h.sn2 b e, row_lt h.outer2 b e⟩
  · obtain ⟨l, hl, hx⟩ := h.rows2 j hj
    exact ⟨h.rn2 j b hj e, row_lt hx b e⟩
theorem BKept2.quiet (h : BKept2 base W Bk n v len sv n2 v2 len2 ev) (hc : Chg (fun _ => False) W X) : BKept2 base X Bk n v len sv n2 v2 len2 ev := h.same (fun b hb => hc.block b (h.lt b hb).2 (fun x => x))
end
theorem BKept2.start (W : World) (base : Nat) (hb : base ≤ W.heap.size) : BKept2 base (W.alloc (.cells (bookCells2 (.slice none 0 0) (.slice none 0 0)) 63)) W.heap.size 0 (fun _ => .slice none 0 0) (fun _ => 0) (.slice none 0 0) 0 (fun _ => .slice none 0 0) (fun _ => 0) (.slice none 0 0) :=
  ⟨heap_alloc_new _ _, World.ownsRow_nil _ _ _ _, fun j hj => by omega, fun i j b hi => by omega, World.ownsRow_nil _ _ _ _, fun j hj => by omega, fun i j b hi => by omega, hb, fun j b hj => by omega, fun b h => by simp [Value.ownBlock] at h, fun j b hj => by omega, fun b h => by simp [Value.ownBlock] at h, fun _ => rfl, fun _ => rfl⟩
set_option maxRecDepth 100000 in
set_option maxHeartbeats 4000000 in
theorem take_i2 (base Bk n k c : Nat) (p : Option Addr) (v : Nat → Value) (len : Nat → Nat) (sv : Value) (n2 : Nat) (v2 : Nat → Value) (len2 : Nat → Nat) (ev : Value) (ys : List Value) (W : World) (hn : n ≤ 8388608) (hk : BKept2 base W Bk n v len sv n2 v2 len2 ev) (hr : W.ownsRow 0 3 1 (.slice p k c) k ys) (hap : ∀ j b, j < n → (v j).ownBlock = some b → (Value.slice p k c).ownBlock ≠ some b) (hxn : ∀ b, (Value.slice p k c).ownBlock = some b → base ≤ b) :
    Calls Tryz.prog 18 #[.pointer (some ⟨Bk, 0, none⟩), .slice p k c] W fun e W' => e = .returned (.tuple #[]) ∧ (∃ me', BKept2 base W' Bk (n + 1) (fun j => if j = n then .slice p k c else v j) (fun j => if j = n then k else len j) me' n2 v2 len2 ev ∧ ∀ b, me'.ownBlock = some b → sv.ownBlock = some b ∨ W.heap.size ≤ b) ∧ Chg (fun b => b = Bk ∨ sv.ownBlock = some b) W W' := by
  obtain ⟨i1, hi1, hy0, hy1, hy2⟩ := info_parts infoLists
  have c2 : W.cell? ⟨Bk, 2, none⟩ = some sv := (cell_of hk.blk 2).trans rfl
  have HK := keepH hk
  have HR := keepH hr
  have HO := keepH hk.outer
  have HAP := keepH hap
  have HXN := keepH hxn
  have f2 : ∀ (u : World), u.heap[Bk]? = some (.cells (bookCells2 sv ev) 63 (0, 0)) → u.frozen? ⟨Bk, 2, none⟩ = false ∧ u.cell? ⟨Bk, 2, none⟩ = some sv := fun u hu => ⟨free_of hu 2, (cell_of hu 2).trans rfl⟩
  have HF2 := keepH f2
  clear hk hr hap hxn f2
  go_enter Tryz.func18, Tryz.ntmps18
  go_wp2_with (first | (at_builtin; refine wpList_append_own_at _ rfl (.tmp 8) (.tmp 10) 44 rfl 0 23 i1 (.slice none 0 0) 1 24 Tryz.underlying44 hi1 hy0 hy1 hy2 rfl (by decide) sv n (LV v n) rfl (HO.out.alloc _) ⟨W.heap.size, 0, none⟩ 1 1 [.slice p k c] rfl rfl (cells_new _ _ rfl _ _) (by intro u hu; simp at hu; subst hu; rfl) (by unfold maxLen; omega) (by omega) (Nat.zero_le _) ?_; intro v9 w1 r1 r2 r3 r4; obtain ⟨pv, cv, rfl⟩ := slice_of r1; have R1 := keepH r1; have R2 := keepH r2; have R4 := keepH r4; have CC : Hid (Chg (fun b => sv.ownBlock = some b) W w1) := ((Chg.refl (fun b => sv.ownBlock = some b) W).alloc _).grown r2 (fun k e _ => e); have HBL : Hid (w1.heap[Bk]? = some (.cells (bookCells2 sv ev) 63 (0, 0))) := (CC.out.block Bk (lt_of HK.out.blk) (fun e => block_apart HK.out.outer HK.out.blk (by decide) e)).trans HK.out.blk; obtain ⟨fz, cz⟩ := HF2.out w1 HBL.out; clear r1 r2 r3 r4) | go_in)
  go_end0
  have hne : (Value.slice pv (n + 1) cv).ownBlock ≠ some Bk := block_apart R1.out HBL.out (by decide)
  have cs : Chg (fun b => b = Bk) w1 (w1.setCell ⟨Bk, 2, none⟩ (.slice pv (n + 1) cv)) := (Chg.refl (fun b => b = Bk) w1).setCell (fun _ => rfl) _
  have ct : Chg (fun b => b = Bk ∨ sv.ownBlock = some b) W (w1.setCell ⟨Bk, 2, none⟩ (.slice pv (n + 1) cv)) := CC.out.trans cs (fun _ _ x => .inr x) (fun _ _ x => .inl x)
  have rowk : ∀ (t : TypeId) (s : Nat) (x : Value) (m : Nat) (xs : List Value), t ≠ 63 → t ≠ 23 → W.ownsRow 0 t s x m xs → (w1.setCell ⟨Bk, 2, none⟩ (.slice pv (n + 1) cv)).ownsRow 0 t s x m xs := fun t s x m xs n1 n2 hx => row_kept hx fun b hb => ct.block b (row_lt hx b hb) (fun e => by
    rcases e with e | e
    · rw [e] at hb; exact block_apart hx HK.out.blk n1 hb
    · exact rows_apart hx HK.out.outer n2 b hb e)
  have PA : (w1.setCell ⟨Bk, 2, none⟩ (.slice pv (n + 1) cv)).heap[Bk]? = some (.cells (bookCells2 (.slice pv (n + 1) cv) ev) 63 (0, 0)) := set_of HBL.out 2 _
  have PO : (w1.setCell ⟨Bk, 2, none⟩ (.slice pv (n + 1) cv)).ownsRow 0 23 1 (.slice pv (n + 1) cv) (n + 1) (LV (fun j => if j = n then .slice p k c else v j) (n + 1)) := by
    rw [LV_snoc]
    exact row_kept R1.out fun b hb => cs.block b (row_lt R1.out b hb) (fun e => by rw [e] at hb; exact hne hb)
  have PP : Apart (n + 1) (fun j => if j = n then .slice p k c else v j) := fun i j b hi hj hij h1 => by
    by_cases e1 : i = n
    · by_cases e2 : j = n
      · omega
      · simp only [if_pos e1] at h1
        simp only [if_neg e2]
        exact fun h2 => HAP.out j b (by omega) h2 h1
    · simp only [if_neg e1] at h1
      by_cases e2 : j = n
      · simp only [if_pos e2]
        exact HAP.out i b (by omega) h1
      · simp only [if_neg e2]
        exact HK.out.apart i j b (by omega) (by omega) hij h1
  have PN : ∀ j b, j < n + 1 → ((fun j => if j = n then .slice p k c else v j) j : Value).ownBlock = some b → base ≤ b := fun j b hj h1 => by
    by_cases e1 : j = n
    · simp only [if_pos e1] at h1
      exact HXN.out b h1
    · simp only [if_neg e1] at h1
      exact HK.out.rn j b (by omega) h1
  have PS : ∀ b, (Value.slice pv (n + 1) cv).ownBlock = some b → base ≤ b := fun b h1 => by
    rcases R4.out with e | e
    · rw [e] at h1
      exact HK.out.sn b h1
    · rw [e] at h1
      simp at h1
      have := lt_of HK.out.blk
      have := HK.out.bn
      omega
  have PM : ∀ b, (Value.slice pv (n + 1) cv).ownBlock = some b → sv.ownBlock = some b ∨ W.heap.size ≤ b := fun b h1 => by
    rcases R4.out with e | e
    · rw [e] at h1
      exact .inl h1
    · rw [e] at h1
      simp at h1
      exact .inr (by omega)
  refine ⟨rfl, ⟨.slice pv (n + 1) cv, ⟨PA, PO, fun j hj => ?_, PP, ?_, fun j hj => ?_, HK.out.apart2, HK.out.bn, PN, PS, HK.out.rn2, HK.out.sn2, fun e => by omega, HK.out.z2⟩, PM⟩, ct⟩
  · by_cases e : j = n
    · simp only [if_pos e]
      exact ⟨_, rowk _ _ _ _ _ (by decide) (by decide) HR.out⟩
    · simp only [if_neg e]
      obtain ⟨xs, hx⟩ := HK.out.rows j (by omega)
      exact ⟨xs, rowk _ _ _ _ _ (by decide) (by decide) hx⟩
  · exact rowk _ _ _ _ _ (by decide) (by decide) HK.out.outer2
  · obtain ⟨l, hl, hx⟩ := HK.out.rows2 j hj
    exact ⟨l, hl, rowk _ _ _ _ _ (by decide) (by decide) hx⟩
set_option maxRecDepth 100000 in
set_option maxHeartbeats 4000000 in
theorem take_e2 (base Bk n k c : Nat) (p : Option Addr) (v : Nat → Value) (len : Nat → Nat) (sv : Value) (n2 : Nat) (v2 : Nat → Value) (len2 : Nat → Nat) (ev : Value) (ys : List Ev) (hyl : ys.length = k) (W : World) (hn : n2 ≤ 8388608) (hk : BKept2 base W Bk n v len sv n2 v2 len2 ev) (hr : W.ownsRow 0 100 4 (.slice p k c) k (evRow ys)) (hap : ∀ j b, j < n2 → (v2 j).ownBlock = some b → (Value.slice p k c).ownBlock ≠ some b) (hxn : ∀ b, (Value.slice p k c).ownBlock = some b → base ≤ b) :
    Calls Tryz.prog 16 #[.pointer (some ⟨Bk, 0, none⟩), .slice p k c] W fun e W' => e = .returned (.tuple #[]) ∧ (∃ me', BKept2 base W' Bk n v len sv (n2 + 1) (fun j => if j = n2 then .slice p k c else v2 j) (fun j => if j = n2 then k else len2 j) me' ∧ ∀ b, me'.ownBlock = some b → ev.ownBlock = some b ∨ W.heap.size ≤ b) ∧ Chg (fun b => b = Bk ∨ ev.ownBlock = some b) W W' := by
  obtain ⟨i1, hi1, hy0, hy1, hy2⟩ := info_parts infoListsE
  have c2 : W.cell? ⟨Bk, 5, none⟩ = some ev := (cell_of hk.blk 5).trans rfl
  have HK := keepH hk
  have HR := keepH hr
  have HO := keepH hk.outer2
  have HAP := keepH hap
  have HXN := keepH hxn
  have HYL := keepH hyl
  have f2 : ∀ (u : World), u.heap[Bk]? = some (.cells (bookCells2 sv ev) 63 (0, 0)) → u.frozen? ⟨Bk, 5, none⟩ = false ∧ u.cell? ⟨Bk, 5, none⟩ = some ev := fun u hu => ⟨free_of hu 5, (cell_of hu 5).trans rfl⟩
  have HF2 := keepH f2
  clear hk hr hap hxn f2
  go_enter Tryz.func16, Tryz.ntmps16
  go_wp2_with (first | (at_builtin; refine wpList_append_own_at _ rfl (.tmp 8) (.tmp 10) 47 rfl 0 65 i1 (.slice none 0 0) 1 24 Tryz.underlying47 hi1 hy0 hy1 hy2 rfl (by decide) ev n2 (LV v2 n2) rfl (HO.out.alloc _) ⟨W.heap.size, 0, none⟩ 1 1 [.slice p k c] rfl rfl (cells_new _ _ rfl _ _) (by intro u hu; simp at hu; subst hu; rfl) (by unfold maxLen; omega) (by omega) (Nat.zero_le _) ?_; intro v9 w1 r1 r2 r3 r4; obtain ⟨pv, cv, rfl⟩ := slice_of r1; have R1 := keepH r1; have R2 := keepH r2; have R4 := keepH r4; have CC : Hid (Chg (fun b => ev.ownBlock = some b) W w1) := ((Chg.refl (fun b => ev.ownBlock = some b) W).alloc _).grown r2 (fun k e _ => e); have HBL : Hid (w1.heap[Bk]? = some (.cells (bookCells2 sv ev) 63 (0, 0))) := (CC.out.block Bk (lt_of HK.out.blk) (fun e => block_apart HK.out.outer2 HK.out.blk (by decide) e)).trans HK.out.blk; obtain ⟨fz, cz⟩ := HF2.out w1 HBL.out; clear r1 r2 r3 r4) | go_in)
  go_end0
  have hne : (Value.slice pv (n2 + 1) cv).ownBlock ≠ some Bk := block_apart R1.out HBL.out (by decide)
  have cs : Chg (fun b => b = Bk) w1 (w1.setCell ⟨Bk, 5, none⟩ (.slice pv (n2 + 1) cv)) := (Chg.refl (fun b => b = Bk) w1).setCell (fun _ => rfl) _
  have ct : Chg (fun b => b = Bk ∨ ev.ownBlock = some b) W (w1.setCell ⟨Bk, 5, none⟩ (.slice pv (n2 + 1) cv)) := CC.out.trans cs (fun _ _ x => .inr x) (fun _ _ x => .inl x)
  have rowk : ∀ (t : TypeId) (s : Nat) (x : Value) (m : Nat) (xs : List Value), t ≠ 63 → t ≠ 65 → W.ownsRow 0 t s x m xs → (w1.setCell ⟨Bk, 5, none⟩ (.slice pv (n2 + 1) cv)).ownsRow 0 t s x m xs := fun t s x m xs n1 n2 hx => row_kept hx fun b hb => ct.block b (row_lt hx b hb) (fun e => by
    rcases e with e | e
    · rw [e] at hb; exact block_apart hx HK.out.blk n1 hb
    · exact rows_apart hx HK.out.outer2 n2 b hb e)
  have PA : (w1.setCell ⟨Bk, 5, none⟩ (.slice pv (n2 + 1) cv)).heap[Bk]? = some (.cells (bookCells2 sv (.slice pv (n2 + 1) cv)) 63 (0, 0)) := set_of HBL.out 5 _
  have PO : (w1.setCell ⟨Bk, 5, none⟩ (.slice pv (n2 + 1) cv)).ownsRow 0 65 1 (.slice pv (n2 + 1) cv) (n2 + 1) (LV (fun j => if j = n2 then .slice p k c else v2 j) (n2 + 1)) := by
    rw [LV_snoc]
    exact row_kept R1.out fun b hb => cs.block b (row_lt R1.out b hb) (fun e => by rw [e] at hb; exact hne hb)
  have PP : Apart (n2 + 1) (fun j => if j = n2 then .slice p k c else v2 j) := fun i j b hi hj hij h1 => by
    by_cases e1 : i = n2
    · by_cases e2 : j = n2
      · omega
      · simp only [if_pos e1] at h1
        simp only [if_neg e2]
        exact fun h2 => HAP.out j b (by omega) h2 h1
    · simp only [if_neg e1] at h1
      by_cases e2 : j = n2
      · simp only [if_pos e2]
        exact HAP.out i b (by omega) h1
      · simp only [if_neg e2]
        exact HK.out.apart2 i j b (by omega) (by omega) hij h1
  have PN : ∀ j b, j < n2 + 1 → ((fun j => if j = n2 then .slice p k c else v2 j) j : Value).ownBlock = some b → base ≤ b := fun j b hj h1 => by
    by_cases e1 : j = n2
    · simp only [if_pos e1] at h1
      exact HXN.out b h1
    · simp only [if_neg e1] at h1
      exact HK.out.rn2 j b (by omega) h1
  have PS : ∀ b, (Value.slice pv (n2 + 1) cv).ownBlock = some b → base ≤ b := fun b h1 => by
    rcases R4.out with e | e
    · rw [e] at h1
      exact HK.out.sn2 b h1
    · rw [e] at h1
      simp at h1
      have := lt_of HK.out.blk
      have := HK.out.bn
      omega
  have PM : ∀ b, (Value.slice pv (n2 + 1) cv).ownBlock = some b → ev.ownBlock = some b ∨ W.heap.size ≤ b := fun b h1 => by
    rcases R4.out with e | e
    · rw [e] at h1
      exact .inl h1
    · rw [e] at h1
      simp at h1
      exact .inr (by omega)
  refine ⟨rfl, ⟨.slice pv (n2 + 1) cv, ⟨PA, ?_, fun j hj => ?_, HK.out.apart, PO, fun j hj => ?_, PP, HK.out.bn, HK.out.rn, HK.out.sn, PN, PS, HK.out.z, fun e => by omega⟩, PM⟩, ct⟩
  · exact rowk _ _ _ _ _ (by decide) (by decide) HK.out.outer
  · obtain ⟨xs, hx⟩ := HK.out.rows j hj
    exact ⟨xs, rowk _ _ _ _ _ (by decide) (by decide) hx⟩
  · by_cases e : j = n2
    · simp only [if_pos e]
      exact ⟨ys, HYL.out, rowk _ _ _ _ _ (by decide) (by decide) HR.out⟩
    · simp only [if_neg e]
      obtain ⟨l, hl, hx⟩ := HK.out.rows2 j (by omega)
      exact ⟨l, hl, rowk _ _ _ _ _ (by decide) (by decide) hx⟩
theorem nil_one2 : (bookCells2 (.slice none 0 0) (.slice none 0 0)).all (·.oneCell') = true := by simp [bookCells2, Value.oneCell']
theorem chg_setRow2 (W : World) (g : Nat) (cs : Array Value) : Chg (fun b => b = g) W (W.setRow g cs) :=
  ⟨rfl, rfl, rfl, by simp [World.setRow], fun k hk hn => by simp [World.setRow, Array.getElem?_modify]; omega⟩
section
variable {base : Nat} {W : World} {Bk n : Nat} {v : Nat → Value} {len : Nat → Nat} {sv : Value} {n2 : Nat} {v2 : Nat → Value} {len2 : Nat → Nat} {ev : Value}
theorem look_i (hk : BKept2 base W Bk n v len sv n2 v2 len2 ev) (hn : n ≤ 8388608) (hlen : ∀ j, j < n → len j ≤ 4398046511000) : Calls Tryz.prog 55 #[.pointer (some ⟨Bk, 0, none⟩)] W fun e w' => e = .returned (.bool true) ∧ Chg (Fv n v) W w' := by
  by_cases h0 : n = 0
  · refine (none_2 Bk W ((cell_of hk.blk 2).trans (by rw [hk.z h0]; rfl))).mono ?_
    rintro e w' ⟨rfl, rfl⟩
    exact ⟨rfl, Chg.refl _ _⟩
  · exact alone_g Bk n sv v len W hn (by omega) ⟨⟨_, hk.blk, rfl⟩, hk.outer⟩ (fun j hj => by obtain ⟨xs, hx⟩ := hk.rows j hj; exact ⟨xs, hx, fun q hq => absurd hq (Nat.not_lt_zero q)⟩) hk.apart hlen
end
theorem alone5_at {base : Nat} {W X : World} {Bk n : Nat} {v : Nat → Value} {len : Nat → Nat} {sv : Value} {n2 : Nat} {v2 : Nat → Value} {len2 : Nat → Nat} {ev : Value} (hk : BKept2 base W Bk n v len sv n2 v2 len2 ev) (l1 : Chg (Fv n v) W X) (hn : n2 ≤ 8388608) (hlen : ∀ j, j < n2 → len2 j ≤ 4398046511000) : Calls Tryz.prog 58 #[.pointer (some ⟨Bk, 0, none⟩)] X fun e w' => e = .returned (.bool true) ∧ Chg (Fv n2 v2) X w' := by
  have hb : X.heap[Bk]? = some (.cells (bookCells2 sv ev) 63 (0, 0)) := (l1.block Bk (lt_of hk.blk) (fun ⟨j, hj, e⟩ => by obtain ⟨xs, hx⟩ := hk.rows j hj; exact block_apart hx hk.blk (by decide) e)).trans hk.blk
  have ho : X.ownsRow 0 65 1 ev n2 (LV v2 n2) := row_kept hk.outer2 fun b hb => l1.block b (row_lt hk.outer2 b hb) (fun ⟨j, hj, e⟩ => by obtain ⟨xs, hx⟩ := hk.rows j hj; exact rows_apart hx hk.outer2 (by decide) b e hb)
  have hr : ∀ j, j < n2 → ∃ l : List Ev, l.length = len2 j ∧ X.ownsRow 0 100 4 (v2 j) (len2 j) (evRow l) := fun i hi => by
    obtain ⟨l, hl, hx2⟩ := hk.rows2 i hi
    exact ⟨l, hl, row_kept hx2 fun b hb => l1.block b (row_lt hx2 b hb) (fun ⟨j, hj, e⟩ => by obtain ⟨xs, hx⟩ := hk.rows j hj; exact rows_apart hx hx2 (by decide) b e hb)⟩
  by_cases h0 : n2 = 0
  · refine (none_5 Bk X ((cell_of hb 5).trans (by rw [hk.z2 h0]; rfl))).mono ?_
    rintro e w' ⟨rfl, rfl⟩
    exact ⟨rfl, Chg.refl _ _⟩
  · exact alone_e Bk n2 ev v2 len2 X hn (by omega) ⟨⟨_, hb, rfl⟩, ho⟩ (fun j hj => by obtain ⟨l, hl, hx⟩ := hr j hj; exact ⟨l, hl, hx, fun q hq => absurd hq (Nat.not_lt_zero q)⟩) hk.apart2 hlen
set_option maxRecDepth 100000 in
set_option maxHeartbeats 8000000 in
theorem aloneAll_2 (base Bk n : Nat) (v : Nat → Value) (len : Nat → Nat) (sv : Value) (n2 : Nat) (v2 : Nat → Value) (len2 : Nat → Nat) (ev : Value) (W : World) (hn : n ≤ 8388608) (hn2 : n2 ≤ 8388608) (hk : BKept2 base W Bk n v len sv n2 v2 len2 ev) (hlen : ∀ j, j < n → len j ≤ 4398046511000) (hlen2 : ∀ j, j < n2 → len2 j ≤ 4398046511000) :
    Calls Tryz.prog 21 #[.pointer (some ⟨Bk, 0, none⟩)] W fun e W' => e = .returned (.bool true) ∧ Chg (Bks Bk n v sv n2 v2 ev) W W' := by
  have HB := keepH hk.blk
  have HK := keepH hk
  have HLEN := keepH hlen
  have HLEN2 := keepH hlen2
  clear hk hlen hlen2
  have bc : ∀ (u : World) (i : Nat), u.heap[Bk]? = some (.cells (bookCells2 sv ev) 63 (0, 0)) → u.cell? ⟨Bk, i, none⟩ = (bookCells2 sv ev)[i]? := fun u i hu => cell_of hu i
  have HBC := keepH bc
  clear bc
  go_enter Tryz.func21, Tryz.ntmps21
  go_wp2_with fail
  refine (none_0 Bk _ ((HBC.out _ 0 HB.out).trans rfl)).mono ?_
  rintro e w' ⟨rfl, rfl⟩
  go_wp2_with fail
  refine (none_1 Bk _ ((HBC.out _ 1 HB.out).trans rfl)).mono ?_
  rintro e w' ⟨rfl, rfl⟩
  go_wp2_with fail
  refine (look_i HK.out hn HLEN.out).mono ?_
  rintro e w1 ⟨rfl, l1⟩
  have HB1 : Hid (w1.heap[Bk]? = some (.cells (bookCells2 sv ev) 63 (0, 0))) := (l1.block Bk (lt_of HK.out.blk) (fun ⟨j, hj, e⟩ => by obtain ⟨xs, hx⟩ := HK.out.rows j hj; exact block_apart hx HB.out (by decide) e)).trans HB.out
  have HL5 := keepH (alone5_at HK.out l1 hn2 HLEN2.out)
  have HC1 : Hid (Chg (Bks Bk n v sv n2 v2 ev) _ w1) := l1.mono (fun b _ ⟨j, hj, e⟩ => .inr (.inr (.inl ⟨j, hj, e⟩)))
  clear l1
  go_wp2_with fail
  refine (none_3 Bk _ ((HBC.out _ 3 HB1.out).trans rfl)).mono ?_
  rintro e w' ⟨rfl, rfl⟩
  go_wp2_with fail
  refine (none_4 Bk _ ((HBC.out _ 4 HB1.out).trans rfl)).mono ?_
  rintro e w' ⟨rfl, rfl⟩
  go_wp2_with fail
  refine HL5.out.mono ?_
  rintro e w2 ⟨rfl, l2⟩
  have HB2 : Hid (w2.heap[Bk]? = some (.cells (bookCells2 sv ev) 63 (0, 0))) := (l2.block Bk (lt_of HB1.out) (fun ⟨j, hj, e⟩ => by obtain ⟨l, hl, hx⟩ := HK.out.rows2 j hj; exact block_apart hx HB.out (by decide) e)).trans HB1.out
  have HC2 : Hid (Chg (Bks Bk n v sv n2 v2 ev) _ w2) := HC1.out.trans l2 (fun _ _ x => x) (fun b _ ⟨j, hj, e⟩ => .inr (.inr (.inr (.inr ⟨j, hj, e⟩))))
  clear l2
  go_wp2_with fail
  refine (none_6 Bk _ ((HBC.out _ 6 HB2.out).trans rfl)).mono ?_
  rintro e w' ⟨rfl, rfl⟩
  go_wp2_with fail
  refine (none_7 Bk _ ((HBC.out _ 7 HB2.out).trans rfl)).mono ?_
  rintro e w' ⟨rfl, rfl⟩
  go_wp2_with fail
  refine (none_8 Bk _ ((HBC.out _ 8 HB2.out).trans rfl)).mono ?_
  rintro e w' ⟨rfl, rfl⟩
  go_wp2_with fail
  refine (none_9 Bk _ ((HBC.out _ 9 HB2.out).trans rfl)).mono ?_
  rintro e w' ⟨rfl, rfl⟩
  go_wp2_with fail
  refine (none_10 Bk _ ((HBC.out _ 10 HB2.out).trans rfl)).mono ?_
  rintro e w' ⟨rfl, rfl⟩
  go_wp2_with fail
  refine (none_11 Bk _ ((HBC.out _ 11 HB2.out).trans rfl)).mono ?_
  rintro e w' ⟨rfl, rfl⟩
  go_wp2_with fail
  refine (none_12 Bk _ ((HBC.out _ 12 HB2.out).trans rfl)).mono ?_
  rintro e w' ⟨rfl, rfl⟩
  go_wp2_with fail
  refine (none_13 Bk _ ((HBC.out _ 13 HB2.out).trans rfl)).mono ?_
  rintro e w' ⟨rfl, rfl⟩
  go_wp2_with fail
  refine (none_14 Bk _ ((HBC.out _ 14 HB2.out).trans rfl)).mono ?_
  rintro e w' ⟨rfl, rfl⟩
  go_wp2_with fail
  refine (none_15 Bk _ ((HBC.out _ 15 HB2.out).trans rfl)).mono ?_
  rintro e w' ⟨rfl, rfl⟩
  go_wp2_with fail
  refine (none_16 Bk _ ((HBC.out _ 16 HB2.out).trans rfl)).mono ?_
  rintro e w' ⟨rfl, rfl⟩
  go_wp2_with fail
  refine (none_17 Bk _ ((HBC.out _ 17 HB2.out).trans rfl)).mono ?_
  rintro e w' ⟨rfl, rfl⟩
  go_wp2_with fail
  refine (none_18 Bk _ ((HBC.out _ 18 HB2.out).trans rfl)).mono ?_
  rintro e w' ⟨rfl, rfl⟩
  go_wp2_with fail
  refine (none_19 Bk _ ((HBC.out _ 19 HB2.out).trans rfl)).mono ?_
  rintro e w' ⟨rfl, rfl⟩
  have hb1 := HB2.out
  go_wp2_with (refine wpList_store_row rfl 63 _ _ rfl Bk (bookCells2 (.slice none 0 0) (.slice none 0 0)) rfl rfl 63 (bookCells2 sv ev) hb1 (by kernel_rfl) rfl nil_one2 ?_)
  go_ret
  exact ⟨by simp, HC2.out.trans (chg_setRow2 _ _ _) (fun _ _ x => x) (fun b _ e => .inl e)⟩
end Go.Proofs.YtnhiodmigmmfgaaGreat
/- The program's run and the document's runner beside a book. -/
namespace Go.Proofs.YtnhiodmigmmfgaaGreat
open Go.RowKit Go.Shelf
set_option linter.unusedVariables false

section
variable {P : Type} {Lo : Nat} {W0 : World} {κ : KindL P Lo W0} {most m b T : Nat} {cl : Nat → Nat} {vb : Nat → Nat} {pv : Nat → Nat → Value} {c : Cfg P} {W Z X Y : World} {S : Nat → Prop} {r : Nat}
set_option maxRecDepth 100000 in
set_option maxHeartbeats 4000000 in
theorem gr_pendingF (h : GR κ most m b T cl vb pv c W Z X S r) : Calls Tryz.prog 20 #[.pointer (some ⟨r, 0, none⟩)] X fun e Y => ∃ v', e = .returned v' ∧ Y.ownsRow 0 3 1 v' (pndL c.bg T).length ((pndL c.bg T).map i64V) ∧ Chg (fun _ => False) X Y ∧ ∀ k, v'.ownBlock = some k → X.heap.size ≤ k := by
  obtain ⟨G, K, vw, tv, ev, av, ths, h⟩ := h
  have c0 : X.cell? ⟨r, 65, none⟩ = some tv := h.run.cellk 0
  have hl := h.len
  obtain ⟨p, c8, htv⟩ := slice_of h.run.tr
  have H := keepH h
  rw [htv, hl] at c0
  have h64 := h.run.thl
  have HTV := keepH htv
  obtain ⟨f, hf⟩ : ∃ f, f = c.bg := ⟨_, rfl⟩
  rw [← hf]
  have HF := keepH hf
  obtain ⟨i0, hi0, hz0, hz1, hz2⟩ := info_parts infoIk
  clear h htv hf
  go_enter Tryz.func20, Tryz.ntmps20
  go_wp2_with fail
  go_loopw [3, 12] (fun s3 s wr => ∃ (k : Nat) (pv' : Option Addr) (cv : Nat), k ≤ T ∧ s = .int .i64 (k : Int) ∧ s3 = .slice pv' (pndL f k).length cv ∧ Hid (wr.ownsRow 0 3 1 (.slice pv' (pndL f k).length cv) (pndL f k).length ((pndL f k).map i64V)) ∧ Hid (Chg (fun _ => False) X wr) ∧ Hid (∀ k', (Value.slice pv' (pndL f k).length cv).ownBlock = some k' → X.heap.size ≤ k')) (fun _ s _ => T - (intOf s).toNat)
  case atStart => exact ⟨0, none, 0, by omega, rfl, rfl, by have e : pndL f 0 = [] := rfl; rw [e]; exact keepH (World.ownsRow_nil _ _ _ _), keepH (Chg.refl _ _), keepH (fun k' e => by simp [Value.ownBlock] at e)⟩
  case round =>
    obtain ⟨k, pv', cv, hk, rfl, rfl, HR, HC, HB⟩ := hrel
    obtain ⟨wo, hwo⟩ : ∃ q, q = wr := ⟨_, rfl⟩
    subst hwo
    by_cases hlt : k < T
    · have t1 : (k : Int) < (T : Int) := by omega
      obtain ⟨x, hx⟩ : ∃ x, ths[k]? = some x := ⟨ths[k]'(by omega), List.getElem?_eq_getElem _⟩
      obtain ⟨g, cc, htv2⟩ := slice_pos H.out.run.tr (by omega)
      have hr := H.out.run
      rw [htv2] at hr
      have e3 := hr.thrCell k 2 (by omega) x hx
      have e4 : x.begun = f k := by rw [(H.out.thr k x hx).2.2.2, HF.out]
      have ep : p = some ⟨g, 0, none⟩ := by
        have z := HTV.out
        rw [htv2] at z
        injection z with z1 _ _
        exact z1.symm
      subst ep
      have d0 : wo.cell? ⟨r, 65, none⟩ = some (.slice (some ⟨g, 0, none⟩) T c8) := cell_chg HC.out c0 (fun h => h)
      have HS := keepH (pndL_succ f k)
      have hle : (pndL f k).length ≤ 64 := by have := pndL_len f k; omega
      cases hg : f k with
      | true =>
        have e5 : X.cell? ⟨g, k * 3 + 2, none⟩ = some (.bool true) := by rw [e3, ← hg, ← e4]; rfl
        have d1 : wo.cell? ⟨g, k * 3 + 2, none⟩ = some (.bool true) := cell_chg HC.out e5 (fun h => h)
        clear hx hr e3 e4 e5 htv2 c0
        go_wp2_with (at_builtin; refine wpList_append_own_at _ rfl _ _ 23 rfl 0 3 i0 (.int .i64 0) 1 8 Tryz.underlying23 hi0 hz0 hz1 hz2 rfl (by decide) _ _ _ rfl (HR.out.alloc _) ⟨_, 0, none⟩ 1 1 [.int .i64 (k : Int)] rfl rfl (cells_new _ _ rfl _ _) (by intro u hu; simp at hu; subst hu; rfl) (by unfold maxLen; omega) (by omega) (Nat.zero_le _) ?_; intro v9 w9 r1 r2 r3 r4; have HR1 := keepH r1; have HR2 := keepH r2; have HR4 := keepH r4; clear r1 r2 r3 r4)
        go_roundw
        case rel =>
          obtain ⟨p9, c9, e9⟩ := slice_of HR1.out
          have eS : pndL f (k + 1) = pndL f k ++ [(k : Int)] := by rw [HS.out, if_pos hg]
          have eN : (pndL f (k + 1)).length = (pndL f k).length + 1 := by rw [eS]; simp
          refine ⟨k + 1, p9, c9, by omega, by first | rfl | go_num, by rw [eN, ← e9], keepH ?_, keepH ?_, keepH ?_⟩
          · rw [eN, eS, ← e9, List.map_append]
            exact HR1.out
          · exact HC.out.trans (((Chg.refl (fun k2 => (Value.slice pv' (pndL f k).length cv).ownBlock = some k2) wo).alloc _).grown HR2.out (fun k e _ => e)) (fun _ _ x => x) (fun k' hk' e => by have := HB.out k' e; omega)
          · intro k' e
            rw [eN, ← e9] at e
            rcases HR4.out with z | z
            · exact HB.out k' (z ▸ e)
            · rw [z] at e
              injection e with e
              rw [World.size_alloc] at e
              have := HC.out.size
              omega
        case measure => simp [intOf]; omega
      | false =>
        have e5 : X.cell? ⟨g, k * 3 + 2, none⟩ = some (.bool false) := by rw [e3, ← hg, ← e4]; rfl
        have d1 : wo.cell? ⟨g, k * 3 + 2, none⟩ = some (.bool false) := cell_chg HC.out e5 (fun h => h)
        have eS : pndL f (k + 1) = pndL f k := by rw [HS.out, if_neg (by simp [hg]), List.append_nil]
        have HES := keepH eS
        clear hx hr e3 e4 e5 htv2 c0 eS
        go_wp2_with fail
        go_roundw
        case rel => exact ⟨k + 1, pv', cv, by omega, by first | rfl | go_num, by rw [HES.out], by rw [HES.out]; exact HR, HC, by rw [HES.out]; exact HB⟩
        case measure => simp [intOf]; omega
    · obtain rfl : k = T := by omega
      have t1 : ¬ (k : Int) < (k : Int) := by omega
      go_wp2_with fail
      go_ret
      exact ⟨_, by simp, HR.out, HC.out, HB.out⟩
theorem gr_eventsF (h : GR κ most m b T cl vb pv c W Z X S r) (hst : c.st ≤ 500000000) : Calls Tryz.prog 17 #[.pointer (some ⟨r, 0, none⟩)] X fun e Y => ∃ v', e = .returned v' ∧ Y.ownsRow 0 100 4 v' c.evs.length (evRow c.evs) ∧ Chg (fun _ => False) X Y ∧ ∀ k, v'.ownBlock = some k → X.heap.size ≤ k := by
  obtain ⟨G, K, vw, tv, ev, av, ths, h⟩ := h
  refine (r_events X h.run (by have := h.evl; omega)).mono ?_
  rintro e Y ⟨p', c', rfl, h1, h2, h3⟩
  exact ⟨_, rfl, h1, h2, h3⟩
theorem gr_atF (h : GR κ most m b T cl vb pv c W Z X S r) (hst : c.st ≤ 500000000) (ha : c.ats.length ≤ c.t.length) : Calls Tryz.prog 19 #[.pointer (some ⟨r, 0, none⟩)] X fun e Y => ∃ v', e = .returned v' ∧ Y.ownsRow 0 3 1 v' (extN c.ats c.t.length (-1)).length ((extN c.ats c.t.length (-1)).map i64V) ∧ Chg (fun _ => False) X Y ∧ ∀ k, v'.ownBlock = some k → X.heap.size ≤ k := by
  obtain ⟨G, K, vw, tv, ev, av, ths, h⟩ := h
  obtain ⟨F, D, md, tg, g⟩ := h.ma
  obtain ⟨l, B, L⟩ := g.bank
  have hl : l.length = c.t.length := by rw [← L]; simp
  have htn := g.tn
  refine (r_at X h.run g.mem B (by omega) (by omega)).mono ?_
  rintro e Y ⟨p', c', rfl, h1, h2, h3⟩
  rw [hl] at h1 h3 ⊢
  exact ⟨_, rfl, h1, h2, h3⟩
end
/-- As HWx, with blocks E of the law's own that stay. -/
def HWy (W V0 X : World) (ll : List (List PlP)) (p : Option Addr) (c8 : Nat) (c : Cfg PS) (s : R4S) (wb q nm m r b : Nat) (sv : Value) (qv : Nat → Value) (vb : Nat → Nat) (pb : Nat → Nat → Nat) (E : Nat → Prop) : Prop :=
  ∃ K, GR (plK W.heap.size W) 200 m b ll.length (clOf ll) vb (pvOf ll pb) c V0 X X (fun k => (K k ∨ k = wb ∨ mineS ll.length sv qv k) ∨ E k) r ∧ D4x X W.heap.size q nm ll.length p c8 s K ∧ X.heap[wb]? = some (.cells #[.pointer (some ⟨m, 0, none⟩), .pointer (some ⟨r, 0, none⟩), sv] 33 (0, 0)) ∧ V0.heap.size ≤ wb ∧ (∀ k, K k → V0.heap.size ≤ k ∧ ¬ mineS ll.length sv qv k ∧ k ≠ wb) ∧ (∀ k, mineS ll.length sv qv k → V0.heap.size ≤ k ∧ k ≠ wb) ∧ MineAt X ll sv qv pb ∧ ∀ k, E k → V0.heap.size ≤ k ∧ ¬ K k ∧ k ≠ wb ∧ ¬ mineS ll.length sv qv k
section
variable {W V0 X Y : World} {ll : List (List PlP)} {p : Option Addr} {c8 : Nat} {c d : Cfg PS} {s : R4S} {wb q nm m r b : Nat} {sv : Value} {qv : Nat → Value} {vb : Nat → Nat} {pb : Nat → Nat → Nat} {E E' : Nat → Prop}
theorem HWy.of (h : HWx W V0 X ll p c8 c s wb q nm m r b sv qv vb pb) : HWy W V0 X ll p c8 c s wb q nm m r b sv qv vb pb (fun _ => False) := by
  obtain ⟨K, h1, h2, h3, h4, h5, h6, h7⟩ := h
  exact ⟨K, h1.rebase (Chg.refl _ _) (fun k e => .inl (e.elim (fun z => z) (fun z => z.elim))), h2, h3, h4, h5, h6, h7, fun k e => e.elim⟩
theorem HWy.x (h : HWy W V0 X ll p c8 c s wb q nm m r b sv qv vb pb E) : HWx W V0 X ll p c8 c s wb q nm m r b sv qv vb pb := by
  obtain ⟨K, h1, h2, h3, h4, h5, h6, h7, h8⟩ := h
  exact ⟨K, h1.rebase (Chg.refl _ _) (fun k e => .inl (.inl e)), h2, h3, h4, h5, h6, h7⟩
theorem HWy.ltE (h : HWy W V0 X ll p c8 c s wb q nm m r b sv qv vb pb E) (k : Nat) (hk : E k) : k < X.heap.size := by
  obtain ⟨K, h1, _⟩ := h
  exact (h1.kept k (.inr hk)).2
/-- The law's own blocks turn. -/
theorem HWy.others (h : HWy W V0 X ll p c8 c s wb q nm m r b sv qv vb pb E) {H : Nat → Prop} (g : Chg H X Y) (hH : ∀ k, k < X.heap.size → H k → E k) (hE : ∀ k, E' k → E k ∨ (X.heap.size ≤ k ∧ k < Y.heap.size)) : HWy W V0 Y ll p c8 c s wb q nm m r b sv qv vb pb E' := by
  have lo := h.x.lo
  have lE := h.ltE
  obtain ⟨K, h1, h2, h3, h4, h5, h6, h7, h8⟩ := h
  have lS := fun k e => (h1.kept k e).2
  have away : ∀ k, (K k ∨ k = wb ∨ mineS ll.length sv qv k) → Y.heap[k]? = X.heap[k]? := fun k e => g.block k (lS k (.inl e)) (fun z => by
    have a := h8 k (hH k (lS k (.inl e)) z)
    rcases e with e | e | e
    · exact a.2.1 e
    · exact a.2.2.1 e
    · exact a.2.2.2 e)
  have cV : Chg (fun _ => False) V0 Y := h1.chgW.trans g (fun _ _ x => x) (fun k hk z => by have a := h1.chgW.size; have := (h8 k (hH k (by omega) z)).1; omega)
  refine ⟨K, h1.shift (Nat.le_refl _) lo cV g.size E (fun k e => .inr e) (fun k a1 a2 _ => g.block k a1 (fun z => a2 (hH k a1 z))) (fun k e => ?_), h2.keep g.size (fun k e => away k (.inl e)), (away wb (.inr (.inl rfl))).trans h3, h4, h5, h6, h7.kept (fun k e => away k (.inr (.inr e))), fun k e => ?_⟩
  · have s1 := h1.chgW.size
    have s2 := g.size
    rcases e with e | e
    · have a := lS k (.inl e)
      refine ⟨?_, by omega, .inr (.inr (.inl e))⟩
      rcases e with e | e | e
      · have := (h5 k e).1; omega
      · subst e; omega
      · have := (h6 k e).1; omega
    · rcases hE k e with z | z
      · have := (h8 k z).1; have := lE k z; exact ⟨by omega, by omega, .inr (.inr (.inr z))⟩
      · exact ⟨by omega, z.2, .inr (.inl z.1)⟩
  · rcases hE k e with z | z
    · exact h8 k z
    · have s1 := h1.chgW.size
      refine ⟨by omega, fun a => ?_, fun a => ?_, fun a => ?_⟩
      · have := lS k (.inl (.inl a)); omega
      · have := lS k (.inl (.inr (.inl a))); omega
      · have := lS k (.inl (.inr (.inr a))); omega
theorem HWy.pickP (h : HWy W V0 X ll p c8 c s wb q nm m r b sv qv vb pb E) (th : Int) (hst : c.st ≤ 16777216) : Calls Tryz.prog 8 #[.pointer (some ⟨r, 0, none⟩), .int .i64 th] X fun e Y => (∃ bb, e = .returned (.bool bb)) ∧ HWy W V0 Y ll p c8 (c.pick (plK W.heap.size W) 200 ll.length (clOf ll) th) s wb q nm m r b sv qv vb pb E ∧ ∀ k, E k → Y.heap[k]? = X.heap[k]? := by
  obtain ⟨K, h1, h2, h3, h4, h5, h6, h7, h8⟩ := h
  refine (gr_pick h1 th hst).mono ?_
  rintro e Y ⟨rfl, g⟩
  have kp := fun k e => (g.kept k e).1
  exact ⟨⟨_, rfl⟩, ⟨K, g.rebase (Chg.refl _ _) (fun k e => .inl e), h2.keep g.zsize (fun k e => kp k (.inl (.inl e))), (kp wb (.inl (.inr (.inl rfl)))).trans h3, h4, h5, h6, h7.kept (fun k e => kp k (.inl (.inr (.inr e)))), h8⟩, fun k e => kp k (.inr e)⟩
theorem HWy.doc {K K' : Nat → Prop} {s' : R4S} (h1 : GR (plK W.heap.size W) 200 m b ll.length (clOf ll) vb (pvOf ll pb) c V0 X X (fun k => (K k ∨ k = wb ∨ mineS ll.length sv qv k) ∨ E k) r) (h3 : X.heap[wb]? = some (.cells #[.pointer (some ⟨m, 0, none⟩), .pointer (some ⟨r, 0, none⟩), sv] 33 (0, 0))) (h4 : V0.heap.size ≤ wb) (h5 : ∀ k, K k → V0.heap.size ≤ k ∧ ¬ mineS ll.length sv qv k ∧ k ≠ wb) (h6 : ∀ k, mineS ll.length sv qv k → V0.heap.size ≤ k ∧ k ≠ wb) (h7 : MineAt X ll sv qv pb) (h8 : ∀ k, E k → V0.heap.size ≤ k ∧ ¬ K k ∧ k ≠ wb ∧ ¬ mineS ll.length sv qv k) (lo : W.heap.size ≤ V0.heap.size) (d : D4x Y W.heap.size q nm ll.length p c8 s' K') (g : Goes X Y K K') : HWy W V0 Y ll p c8 c s' wb q nm m r b sv qv vb pb E ∧ ∀ k, E k → Y.heap[k]? = X.heap[k]? := by
  have hs := g.chg.size
  have lS := fun k e => (h1.kept k e).2
  have cV : Chg (fun _ => False) V0 Y := h1.chgW.trans g.chg (fun _ _ x => x) (fun k hk e => by have := (h5 k e).1; omega)
  have kE : ∀ k, E k → Y.heap[k]? = X.heap[k]? := fun k e => g.chg.block k (lS k (.inr e)) (fun z => (h8 k e).2.1 z)
  refine ⟨⟨fun k => K' k ∧ k < Y.heap.size, h1.shift (Nat.le_refl _) lo cV hs K (fun k e => .inl (.inl e)) (fun k a1 a2 _ => g.chg.block k a1 a2) (fun k e => ?_), d.small, (g.chg.block wb (lt_of h3) (fun e => (h5 wb e).2.2 rfl)).trans h3, h4, fun k e => ⟨?_, fun x => ?_, fun x => ?_⟩, h6, h7.kept (fun k e => g.chg.block k (lS k (.inl (.inr (.inr e)))) (fun z => (h5 k z).2.1 e)), fun k e => ⟨(h8 k e).1, fun x => ?_, (h8 k e).2.2⟩⟩, kE⟩
  · have lw := lt_of h3
    rcases e with (e | e | e) | e
    · rcases g.new k e.1 with z | z
      · have := h5 k z; exact ⟨by omega, e.2, .inr (.inr (.inl (.inl z)))⟩
      · have := h1.chgW.size; exact ⟨by omega, e.2, .inr (.inl z)⟩
    · subst e; exact ⟨by omega, by omega, .inr (.inr (.inl (.inr (.inl rfl))))⟩
    · have a1 := lS k (.inl (.inr (.inr e))); have a2 := (h6 k e).1
      exact ⟨by omega, by omega, .inr (.inr (.inl (.inr (.inr e))))⟩
    · have a1 := lS k (.inr e); have a2 := (h8 k e).1
      exact ⟨by omega, by omega, .inr (.inr (.inr e))⟩
  · rcases g.new k e.1 with z | z
    · exact (h5 k z).1
    · have := h1.chgW.size; omega
  · rcases g.new k e.1 with z | z
    · exact (h5 k z).2.1 x
    · have := lS k (.inl (.inr (.inr x))); omega
  · rcases g.new k e.1 with z | z
    · exact (h5 k z).2.2 x
    · have := lt_of h3; omega
  · rcases g.new k x.1 with z | z
    · exact (h8 k e).2.1 z
    · have := lS k (.inr e); omega
theorem HWy.pickD (h : HWy W V0 X ll p c8 c s wb q nm m r b sv qv vb pb E) (hWV : Chg (fun _ => False) W V0) {ap : Nat → Option Addr} {ac : Nat → Nat} {lp : Nat → Nat → Option Addr} {lc : Nat → Nat → Nat} (hP : ThsAt W W.heap.size p ll ap ac lp lc) (hls : ∀ l ∈ ll, l.length ≤ 1048576) (hL : ∀ l ∈ ll, ∀ q ∈ l, q.L.length ≤ 1048576) (hD : DRx ll.length (clOf ll) d s) (hI : PInv ll.length (clOf ll) (qOf ll) d) (hst : s.st ≤ 16777216) (th : Int) :
    Calls Tryz.prog 9 #[.pointer (some ⟨q, 0, none⟩), .int .i64 th] X fun e Y => (∃ bb, e = .returned (.bool bb)) ∧ ∃ s', (HWy W V0 Y ll p c8 c s' wb q nm m r b sv qv vb pb E ∧ ∀ k, E k → Y.heap[k]? = X.heap[k]?) ∧ DRx ll.length (clOf ll) (d.pick (plK W.heap.size W) 200 ll.length (clOf ll) th) s' := by
  have cX := h.x.chg
  have lo := h.x.lo
  have hPX : ThsAt X W.heap.size p ll ap ac lp lc := hP.low (fun k hk => (cX.block k (by omega) (fun x => x)).trans (hWV.block k hk (fun x => x)))
  have hcl : ∀ i l, ll[i]? = some l → l.length = clOf ll i := fun i l e => by
    have hi := (List.getElem?_eq_some_iff.1 e).1
    rw [lOf_get hi] at e
    injection e with e
    rw [← e]; rfl
  obtain ⟨K, h1, h2, h3, h4, h5, h6, h7, h8⟩ := h
  have hBX : W.heap.size ≤ X.heap.size := by have := cX.size; omega
  by_cases hc : Cfg.can ll.length (clOf ll) d th
  · have hcan := hc
    obtain ⟨z1, z2, z3⟩ := hc
    obtain ⟨i, rfl⟩ : ∃ i : Nat, th = (i : Int) := ⟨th.toNat, by omega⟩
    have hi : i < ll.length := by omega
    have hix : d.ix i < clOf ll i := by simpa using z3
    have hci := hD.rel.ix i hi
    have hll := lOf_get hi
    have hqq : (lOf ll i)[s.call i]? = some (qOf ll i (d.ix i)) := by rw [hci]; exact qOf_get hix
    have hat : s.at_ i < nst (qOf ll i (d.ix i)) := by
      have a1 := hI.at_ i _ hi hix (Nat.le_refl _)
      rw [hI.pl i _ hi hix] at a1
      rw [hD.rel.at_ i hi hix]; exact a1
    refine (d4_pick_yes h2 hPX rfl (clOf ll) hcl i hi hst (by show s.call i < _; omega) hll hqq hat (hL _ (List.mem_of_getElem? hll) _ (List.mem_of_getElem? hqq)) (hls _ (List.mem_of_getElem? hll)) hBX).mono ?_
    rintro e Y ⟨rfl, K', hx', g⟩
    refine ⟨⟨_, rfl⟩, _, HWy.doc h1 h3 h4 h5 h6 h7 h8 lo hx' g, ?_⟩
    have e : d.pick (plK W.heap.size W) 200 ll.length (clOf ll) (i : Int) = (d.go (plK W.heap.size W) 200 i).tick := by
      unfold Cfg.pick
      rw [if_pos hcan]
      rfl
    rw [e]
    exact hD.pick hI i hi hix
  · have hn : ¬ (0 ≤ th ∧ th < (ll.length : Int) ∧ s.call th.toNat < clOf ll th.toNat) := fun z => hc ((can_rel hD th).2 z)
    refine (d4x_pick_no h2 hPX rfl (clOf ll) hcl th hst hn).mono ?_
    rintro e Y ⟨rfl, hx', g⟩
    refine ⟨⟨_, rfl⟩, _, HWy.doc h1 h3 h4 h5 h6 h7 h8 lo hx' ⟨g, fun k e => .inl e⟩, ?_⟩
    have e : d.pick (plK W.heap.size W) 200 ll.length (clOf ll) th = d.tick := by
      unfold Cfg.pick
      rw [if_neg hc]
    rw [e]
    exact hD.tick
theorem HWy.gr (h : HWy W V0 X ll p c8 c s wb q nm m r b sv qv vb pb E) : ∃ S, GR (plK W.heap.size W) 200 m b ll.length (clOf ll) vb (pvOf ll pb) c V0 X X S r := by
  obtain ⟨K, h1, _⟩ := h
  exact ⟨_, h1⟩
end
end Go.Proofs.YtnhiodmigmmfgaaGreat
