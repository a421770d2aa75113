/- What the camera's procs tell. -/
import Derived.Test.YtlgkioaomcobdaaGreatCam
namespace Go.Proofs.YtlgkioaomcobdaaGreat
open Go.RowKit Go.Shelf

set_option maxRecDepth 100000 in
theorem n_stamp (p cell pos st : Nat) (W : World) (hp : IsNow W p cell pos st) : Calls Tryz.prog 101 #[.pointer (some ⟨p, 0, none⟩)] W fun e W' => e = .returned (.int .u64 (st : Int)) ∧ W' = W := by
  have c2 : W.cell? ⟨p, 2, none⟩ = some (.int .u64 (st : Int)) := cell_of hp 2
  go_enter Tryz.func101, Tryz.ntmps101
  go_wp2_with fail
  go_ret
  exact ⟨by simp, rfl⟩
set_option maxRecDepth 100000 in
theorem t_stamp (p cell mx pos st err : Nat) (mv : Bool) (W : World) (hp : IsTake W p cell mx pos st err mv) : Calls Tryz.prog 104 #[.pointer (some ⟨p, 0, none⟩)] W fun e W' => e = .returned (.int .u64 ((if pos = 2 ∧ err = 0 then st else 0 : Nat) : Int)) ∧ W' = W := by
  have c2 : W.cell? ⟨p, 2, none⟩ = some (.int .u8 (pos : Int)) := cell_of hp 2
  have c3 : W.cell? ⟨p, 3, none⟩ = some (.int .u64 (st : Int)) := cell_of hp 3
  have c4 : W.cell? ⟨p, 4, none⟩ = some (.int .i64 (err : Int)) := cell_of hp 4
  by_cases h1 : pos = 2
  · subst h1
    by_cases h2 : err = 0
    · subst h2
      go_enter Tryz.func104, Tryz.ntmps104
      go_wp2_with fail
      go_ret
      exact ⟨by simp, rfl⟩
    · have n1 : ((err : Int) != 0) = true := bne_iff_ne.2 (by omega)
      have n2 : ((err : Int) == 0) = false := beq_eq_false_iff_ne.2 (by omega)
      go_enter Tryz.func104, Tryz.ntmps104
      go_wp2_with fail
      go_ret
      exact ⟨by simp, rfl⟩
  · have n1 : ((pos : Int) != 2) = true := bne_iff_ne.2 (by omega)
    have n2 : ((pos : Int) == 2) = false := beq_eq_false_iff_ne.2 (by omega)
    go_enter Tryz.func104, Tryz.ntmps104
    go_wp2_with fail
    go_ret
    exact ⟨by simp, rfl⟩
set_option maxRecDepth 100000 in
theorem t_errno (p cell mx pos st err : Nat) (mv : Bool) (W : World) (hp : IsTake W p cell mx pos st err mv) : Calls Tryz.prog 103 #[.pointer (some ⟨p, 0, none⟩)] W fun e W' => e = .returned (.int .i64 (err : Int)) ∧ W' = W := by
  have c4 : W.cell? ⟨p, 4, none⟩ = some (.int .i64 (err : Int)) := cell_of hp 4
  go_enter Tryz.func103, Tryz.ntmps103
  go_wp2_with fail
  go_ret
  exact ⟨by simp, rfl⟩
end Go.Proofs.YtlgkioaomcobdaaGreat
