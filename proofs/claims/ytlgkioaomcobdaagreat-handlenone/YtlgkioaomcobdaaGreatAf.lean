/- The Snapshot's Step, by what is next. -/
import Derived.Test.YtlgkioaomcobdaaGreatAe
import Derived.Laws.EntriesVeiled
namespace Go.Proofs.YtlgkioaomcobdaaGreat
open Go.RowKit Go.Shelf
set_option linter.unusedVariables false

set_option maxRecDepth 100000 in
theorem sn_steps (W : World) : Calls Tryz.prog 86 #[] W fun e W' => e = .returned (.agg #[.func (.func 87) #[] #[], .func (.func 88) #[] #[], .func (.func 89) #[] #[], .func (.func 90) #[] #[], .func (.func 91) #[] #[], .func (.func 92) #[] #[], .func (.func 93) #[] #[], .func (.func 94) #[] #[]]) ∧ Chg (fun _ => False) W W' := by
  go_enter Tryz.func86, Tryz.ntmps86
  go_wp2_with fail
  exact bodyPost_ret (v := .agg #[.func (.func 87) #[] #[], .func (.func 88) #[] #[], .func (.func 89) #[] #[], .func (.func 90) #[] #[], .func (.func 91) #[] #[], .func (.func 92) #[] #[], .func (.func 93) #[] #[], .func (.func 94) #[] #[]]) (by simp [results, Tryz.results86, go_sem]) rfl ⟨rfl, (Chg.refl _ _).alloc _⟩

theorem ix_snLook (w : World) : (Instr.index 160 (.agg #[.func (.func 87) #[] #[], .func (.func 88) #[] #[], .func (.func 89) #[] #[], .func (.func 90) #[] #[], .func (.func 91) #[] #[], .func (.func 92) #[] #[], .func (.func 93) #[] #[], .func (.func 94) #[] #[]]) (.int .u8 1)).run Tryz.prog w = .ok (.func (.func 88) #[] #[]) w := by kernel_rfl
set_option maxRecDepth 100000 in
set_option maxHeartbeats 2000000 in
theorem step_snLook {W : World} {p cam fst mst slot seen gen h st : Nat} {cnt err : Int} {nw tk : Value} (hp : Blk W p 90 (snL cam fst cnt mst 1 slot seen gen nw tk h st err)) (V : Value) (nx : Nat) (d : Bool) (hd : ((nx : Int) == 8) = d) (R : World → Prop)
    (hF : ∀ w, Chg (fun _ => False) W w → Calls Tryz.prog 88 #[.pointer (some ⟨p, 0, none⟩), V] w fun e w' => e = .returned (.tuple #[]) ∧ R w' ∧ w'.cell? ⟨p, 4, none⟩ = some (.int .u8 (nx : Int))) :
    Calls Tryz.prog 84 #[.pointer (some ⟨p, 0, none⟩), V] W fun e W' => e = .returned (.bool d) ∧ R W' := by
  have c4 : W.cell? ⟨p, 4, none⟩ = some (.int .u8 1) := hp.cell 4
  have hix := ix_snLook
  have HF := keepH hF
  have HS0 := keepH c4
  have HC : Hid (Chg (fun _ => False) W W.drew) := (Chg.refl (fun _ => False) W).drew
  have HP := keepH hp
  clear hp hF
  go_enter Tryz.func84, Tryz.ntmps84
  go_upto_region 3 with fail
  go_region_with (first | (go_at_call 86; refine (sn_steps _).mono ?_; rintro e w2 ⟨rfl, C2⟩; replace HC : Hid (Chg (fun _ => False) W w2) := HC.out.f C2; have hS5 : w2.cell? ⟨p, 4, none⟩ = some (.int .u8 1) := (HP.out.chg HC.out (fun x => x)).cell 4; clear C2) | (refine (HF.out _ (by first | exact HC.out | exact HC.out.drew)).mono ?_; rintro e w3 ⟨rfl, hR, d4⟩; have HR := keepH hR; clear hR))
  all_goals (
    clear c4
    go_wp2_with fail
    go_ret
    exact ⟨by simp, HR.out⟩)

theorem ix_snClaim (w : World) : (Instr.index 160 (.agg #[.func (.func 87) #[] #[], .func (.func 88) #[] #[], .func (.func 89) #[] #[], .func (.func 90) #[] #[], .func (.func 91) #[] #[], .func (.func 92) #[] #[], .func (.func 93) #[] #[], .func (.func 94) #[] #[]]) (.int .u8 2)).run Tryz.prog w = .ok (.func (.func 89) #[] #[]) w := by kernel_rfl
set_option maxRecDepth 100000 in
set_option maxHeartbeats 2000000 in
theorem step_snClaim {W : World} {p cam fst mst slot seen gen h st : Nat} {cnt err : Int} {nw tk : Value} (hp : Blk W p 90 (snL cam fst cnt mst 2 slot seen gen nw tk h st err)) (V : Value) (nx : Nat) (d : Bool) (hd : ((nx : Int) == 8) = d) (R : World → Prop)
    (hF : ∀ w, Chg (fun _ => False) W w → Calls Tryz.prog 89 #[.pointer (some ⟨p, 0, none⟩), V] w fun e w' => e = .returned (.tuple #[]) ∧ R w' ∧ w'.cell? ⟨p, 4, none⟩ = some (.int .u8 (nx : Int))) :
    Calls Tryz.prog 84 #[.pointer (some ⟨p, 0, none⟩), V] W fun e W' => e = .returned (.bool d) ∧ R W' := by
  have c4 : W.cell? ⟨p, 4, none⟩ = some (.int .u8 2) := hp.cell 4
  have hix := ix_snClaim
  have HF := keepH hF
  have HS0 := keepH c4
  have HC : Hid (Chg (fun _ => False) W W.drew) := (Chg.refl (fun _ => False) W).drew
  have HP := keepH hp
  clear hp hF
  go_enter Tryz.func84, Tryz.ntmps84
  go_upto_region 3 with fail
  go_region_with (first | (go_at_call 86; refine (sn_steps _).mono ?_; rintro e w2 ⟨rfl, C2⟩; replace HC : Hid (Chg (fun _ => False) W w2) := HC.out.f C2; have hS5 : w2.cell? ⟨p, 4, none⟩ = some (.int .u8 2) := (HP.out.chg HC.out (fun x => x)).cell 4; clear C2) | (refine (HF.out _ (by first | exact HC.out | exact HC.out.drew)).mono ?_; rintro e w3 ⟨rfl, hR, d4⟩; have HR := keepH hR; clear hR))
  all_goals (
    clear c4
    go_wp2_with fail
    go_ret
    exact ⟨by simp, HR.out⟩)

theorem ix_snAsk (w : World) : (Instr.index 160 (.agg #[.func (.func 87) #[] #[], .func (.func 88) #[] #[], .func (.func 89) #[] #[], .func (.func 90) #[] #[], .func (.func 91) #[] #[], .func (.func 92) #[] #[], .func (.func 93) #[] #[], .func (.func 94) #[] #[]]) (.int .u8 3)).run Tryz.prog w = .ok (.func (.func 90) #[] #[]) w := by kernel_rfl
set_option maxRecDepth 100000 in
set_option maxHeartbeats 2000000 in
theorem step_snAsk {W : World} {p cam fst mst slot seen gen h st : Nat} {cnt err : Int} {nw tk : Value} (hp : Blk W p 90 (snL cam fst cnt mst 3 slot seen gen nw tk h st err)) (V : Value) (nx : Nat) (d : Bool) (hd : ((nx : Int) == 8) = d) (R : World → Prop)
    (hF : ∀ w, Chg (fun _ => False) W w → Calls Tryz.prog 90 #[.pointer (some ⟨p, 0, none⟩), V] w fun e w' => e = .returned (.tuple #[]) ∧ R w' ∧ w'.cell? ⟨p, 4, none⟩ = some (.int .u8 (nx : Int))) :
    Calls Tryz.prog 84 #[.pointer (some ⟨p, 0, none⟩), V] W fun e W' => e = .returned (.bool d) ∧ R W' := by
  have c4 : W.cell? ⟨p, 4, none⟩ = some (.int .u8 3) := hp.cell 4
  have hix := ix_snAsk
  have HF := keepH hF
  have HS0 := keepH c4
  have HC : Hid (Chg (fun _ => False) W W.drew) := (Chg.refl (fun _ => False) W).drew
  have HP := keepH hp
  clear hp hF
  go_enter Tryz.func84, Tryz.ntmps84
  go_upto_region 3 with fail
  go_region_with (first | (go_at_call 86; refine (sn_steps _).mono ?_; rintro e w2 ⟨rfl, C2⟩; replace HC : Hid (Chg (fun _ => False) W w2) := HC.out.f C2; have hS5 : w2.cell? ⟨p, 4, none⟩ = some (.int .u8 3) := (HP.out.chg HC.out (fun x => x)).cell 4; clear C2) | (refine (HF.out _ (by first | exact HC.out | exact HC.out.drew)).mono ?_; rintro e w3 ⟨rfl, hR, d4⟩; have HR := keepH hR; clear hR))
  all_goals (
    clear c4
    go_wp2_with fail
    go_ret
    exact ⟨by simp, HR.out⟩)

theorem ix_snEarly (w : World) : (Instr.index 160 (.agg #[.func (.func 87) #[] #[], .func (.func 88) #[] #[], .func (.func 89) #[] #[], .func (.func 90) #[] #[], .func (.func 91) #[] #[], .func (.func 92) #[] #[], .func (.func 93) #[] #[], .func (.func 94) #[] #[]]) (.int .u8 4)).run Tryz.prog w = .ok (.func (.func 91) #[] #[]) w := by kernel_rfl
set_option maxRecDepth 100000 in
set_option maxHeartbeats 2000000 in
theorem step_snEarly {W : World} {p cam fst mst slot seen gen h st : Nat} {cnt err : Int} {nw tk : Value} (hp : Blk W p 90 (snL cam fst cnt mst 4 slot seen gen nw tk h st err)) (V : Value) (nx : Nat) (d : Bool) (hd : ((nx : Int) == 8) = d) (R : World → Prop)
    (hF : ∀ w, Chg (fun _ => False) W w → Calls Tryz.prog 91 #[.pointer (some ⟨p, 0, none⟩), V] w fun e w' => e = .returned (.tuple #[]) ∧ R w' ∧ w'.cell? ⟨p, 4, none⟩ = some (.int .u8 (nx : Int))) :
    Calls Tryz.prog 84 #[.pointer (some ⟨p, 0, none⟩), V] W fun e W' => e = .returned (.bool d) ∧ R W' := by
  have c4 : W.cell? ⟨p, 4, none⟩ = some (.int .u8 4) := hp.cell 4
  have hix := ix_snEarly
  have HF := keepH hF
  have HS0 := keepH c4
  have HC : Hid (Chg (fun _ => False) W W.drew) := (Chg.refl (fun _ => False) W).drew
  have HP := keepH hp
  clear hp hF
  go_enter Tryz.func84, Tryz.ntmps84
  go_upto_region 3 with fail
  go_region_with (first | (go_at_call 86; refine (sn_steps _).mono ?_; rintro e w2 ⟨rfl, C2⟩; replace HC : Hid (Chg (fun _ => False) W w2) := HC.out.f C2; have hS5 : w2.cell? ⟨p, 4, none⟩ = some (.int .u8 4) := (HP.out.chg HC.out (fun x => x)).cell 4; clear C2) | (refine (HF.out _ (by first | exact HC.out | exact HC.out.drew)).mono ?_; rintro e w3 ⟨rfl, hR, d4⟩; have HR := keepH hR; clear hR))
  all_goals (
    clear c4
    go_wp2_with fail
    go_ret
    exact ⟨by simp, HR.out⟩)

theorem ix_snShoot (w : World) : (Instr.index 160 (.agg #[.func (.func 87) #[] #[], .func (.func 88) #[] #[], .func (.func 89) #[] #[], .func (.func 90) #[] #[], .func (.func 91) #[] #[], .func (.func 92) #[] #[], .func (.func 93) #[] #[], .func (.func 94) #[] #[]]) (.int .u8 5)).run Tryz.prog w = .ok (.func (.func 92) #[] #[]) w := by kernel_rfl
set_option maxRecDepth 100000 in
set_option maxHeartbeats 2000000 in
theorem step_snShoot {W : World} {p cam fst mst slot seen gen h st : Nat} {cnt err : Int} {nw tk : Value} (hp : Blk W p 90 (snL cam fst cnt mst 5 slot seen gen nw tk h st err)) (V : Value) (nx : Nat) (d : Bool) (hd : ((nx : Int) == 8) = d) (R : World → Prop)
    (hF : ∀ w, Chg (fun _ => False) W w → Calls Tryz.prog 92 #[.pointer (some ⟨p, 0, none⟩), V] w fun e w' => e = .returned (.tuple #[]) ∧ R w' ∧ w'.cell? ⟨p, 4, none⟩ = some (.int .u8 (nx : Int))) :
    Calls Tryz.prog 84 #[.pointer (some ⟨p, 0, none⟩), V] W fun e W' => e = .returned (.bool d) ∧ R W' := by
  have c4 : W.cell? ⟨p, 4, none⟩ = some (.int .u8 5) := hp.cell 4
  have hix := ix_snShoot
  have HF := keepH hF
  have HS0 := keepH c4
  have HC : Hid (Chg (fun _ => False) W W.drew) := (Chg.refl (fun _ => False) W).drew
  have HP := keepH hp
  clear hp hF
  go_enter Tryz.func84, Tryz.ntmps84
  go_upto_region 3 with fail
  go_region_with (first | (go_at_call 86; refine (sn_steps _).mono ?_; rintro e w2 ⟨rfl, C2⟩; replace HC : Hid (Chg (fun _ => False) W w2) := HC.out.f C2; have hS5 : w2.cell? ⟨p, 4, none⟩ = some (.int .u8 5) := (HP.out.chg HC.out (fun x => x)).cell 4; clear C2) | (refine (HF.out _ (by first | exact HC.out | exact HC.out.drew)).mono ?_; rintro e w3 ⟨rfl, hR, d4⟩; have HR := keepH hR; clear hR))
  all_goals (
    clear c4
    go_wp2_with fail
    go_ret
    exact ⟨by simp, HR.out⟩)

theorem ix_snExact (w : World) : (Instr.index 160 (.agg #[.func (.func 87) #[] #[], .func (.func 88) #[] #[], .func (.func 89) #[] #[], .func (.func 90) #[] #[], .func (.func 91) #[] #[], .func (.func 92) #[] #[], .func (.func 93) #[] #[], .func (.func 94) #[] #[]]) (.int .u8 6)).run Tryz.prog w = .ok (.func (.func 93) #[] #[]) w := by kernel_rfl
set_option maxRecDepth 100000 in
set_option maxHeartbeats 2000000 in
theorem step_snExact {W : World} {p cam fst mst slot seen gen h st : Nat} {cnt err : Int} {nw tk : Value} (hp : Blk W p 90 (snL cam fst cnt mst 6 slot seen gen nw tk h st err)) (V : Value) (nx : Nat) (d : Bool) (hd : ((nx : Int) == 8) = d) (R : World → Prop)
    (hF : ∀ w, Chg (fun _ => False) W w → Calls Tryz.prog 93 #[.pointer (some ⟨p, 0, none⟩), V] w fun e w' => e = .returned (.tuple #[]) ∧ R w' ∧ w'.cell? ⟨p, 4, none⟩ = some (.int .u8 (nx : Int))) :
    Calls Tryz.prog 84 #[.pointer (some ⟨p, 0, none⟩), V] W fun e W' => e = .returned (.bool d) ∧ R W' := by
  have c4 : W.cell? ⟨p, 4, none⟩ = some (.int .u8 6) := hp.cell 4
  have hix := ix_snExact
  have HF := keepH hF
  have HS0 := keepH c4
  have HC : Hid (Chg (fun _ => False) W W.drew) := (Chg.refl (fun _ => False) W).drew
  have HP := keepH hp
  clear hp hF
  go_enter Tryz.func84, Tryz.ntmps84
  go_upto_region 3 with fail
  go_region_with (first | (go_at_call 86; refine (sn_steps _).mono ?_; rintro e w2 ⟨rfl, C2⟩; replace HC : Hid (Chg (fun _ => False) W w2) := HC.out.f C2; have hS5 : w2.cell? ⟨p, 4, none⟩ = some (.int .u8 6) := (HP.out.chg HC.out (fun x => x)).cell 4; clear C2) | (refine (HF.out _ (by first | exact HC.out | exact HC.out.drew)).mono ?_; rintro e w3 ⟨rfl, hR, d4⟩; have HR := keepH hR; clear hR))
  all_goals (
    clear c4
    go_wp2_with fail
    go_ret
    exact ⟨by simp, HR.out⟩)

end Go.Proofs.YtlgkioaomcobdaaGreat
