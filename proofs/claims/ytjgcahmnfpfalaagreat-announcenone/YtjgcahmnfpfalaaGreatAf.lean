/- The Snapshot's Step, by what is next. -/
import Derived.Test.YtjgcahmnfpfalaaGreatAe
import Derived.Laws.EntriesVeiled
namespace Go.Proofs.YtjgcahmnfpfalaaGreat
open Go.RowKit Go.Shelf
set_option linter.unusedVariables false

set_option maxRecDepth 100000 in
theorem sn_steps (W : World) : Calls Tryz.prog 26 #[] W fun e W' => e = .returned (.agg #[.func (.func 37) #[] #[], .func (.func 38) #[] #[], .func (.func 39) #[] #[], .func (.func 40) #[] #[], .func (.func 41) #[] #[], .func (.func 42) #[] #[], .func (.func 43) #[] #[], .func (.func 44) #[] #[]]) ∧ Chg (fun _ => False) W W' := by
  go_enter Tryz.func26, Tryz.ntmps26
  go_wp2_with fail
  exact bodyPost_ret (v := .agg #[.func (.func 37) #[] #[], .func (.func 38) #[] #[], .func (.func 39) #[] #[], .func (.func 40) #[] #[], .func (.func 41) #[] #[], .func (.func 42) #[] #[], .func (.func 43) #[] #[], .func (.func 44) #[] #[]]) (by simp [results, Tryz.results26, go_sem]) rfl ⟨rfl, (Chg.refl _ _).alloc _⟩

theorem ix_snLook (w : World) : (Instr.index 70 (.agg #[.func (.func 37) #[] #[], .func (.func 38) #[] #[], .func (.func 39) #[] #[], .func (.func 40) #[] #[], .func (.func 41) #[] #[], .func (.func 42) #[] #[], .func (.func 43) #[] #[], .func (.func 44) #[] #[]]) (.int .u8 1)).run Tryz.prog w = .ok (.func (.func 38) #[] #[]) w := by kernel_rfl
set_option maxRecDepth 100000 in
set_option maxHeartbeats 2000000 in
theorem step_snLook {W : World} {p cam fst mst slot seen gen h st : Nat} {cnt err : Int} {nw tk : Value} (hp : Blk W p 67 (snL cam fst cnt mst 1 slot seen gen nw tk h st err)) (V : Value) (nx : Nat) (d : Bool) (hd : ((nx : Int) == 8) = d) (R : World → Prop)
    (hF : ∀ w, Chg (fun _ => False) W w → Calls Tryz.prog 38 #[.pointer (some ⟨p, 0, none⟩), V] w fun e w' => e = .returned (.tuple #[]) ∧ R w' ∧ w'.cell? ⟨p, 4, none⟩ = some (.int .u8 (nx : Int))) :
    Calls Tryz.prog 7 #[.pointer (some ⟨p, 0, none⟩), V] W fun e W' => e = .returned (.bool d) ∧ R W' := by
  have c4 : W.cell? ⟨p, 4, none⟩ = some (.int .u8 1) := hp.cell 4
  have hix := ix_snLook
  have HF := keepH hF
  have HS0 := keepH c4
  have HC : Hid (Chg (fun _ => False) W W.drew) := (Chg.refl (fun _ => False) W).drew
  have HP := keepH hp
  clear hp hF
  go_enter Tryz.func7, Tryz.ntmps7
  go_upto_region 3 with fail
  go_region_with (first | (go_at_call 26; refine (sn_steps _).mono ?_; rintro e w2 ⟨rfl, C2⟩; replace HC : Hid (Chg (fun _ => False) W w2) := HC.out.f C2; have hS5 : w2.cell? ⟨p, 4, none⟩ = some (.int .u8 1) := (HP.out.chg HC.out (fun x => x)).cell 4; clear C2) | (refine (HF.out _ (by first | exact HC.out | exact HC.out.drew)).mono ?_; rintro e w3 ⟨rfl, hR, d4⟩; have HR := keepH hR; clear hR))
  all_goals (
    clear c4
    go_wp2_with fail
    go_ret
    exact ⟨by simp, HR.out⟩)

theorem ix_snClaim (w : World) : (Instr.index 70 (.agg #[.func (.func 37) #[] #[], .func (.func 38) #[] #[], .func (.func 39) #[] #[], .func (.func 40) #[] #[], .func (.func 41) #[] #[], .func (.func 42) #[] #[], .func (.func 43) #[] #[], .func (.func 44) #[] #[]]) (.int .u8 2)).run Tryz.prog w = .ok (.func (.func 39) #[] #[]) w := by kernel_rfl
set_option maxRecDepth 100000 in
set_option maxHeartbeats 2000000 in
theorem step_snClaim {W : World} {p cam fst mst slot seen gen h st : Nat} {cnt err : Int} {nw tk : Value} (hp : Blk W p 67 (snL cam fst cnt mst 2 slot seen gen nw tk h st err)) (V : Value) (nx : Nat) (d : Bool) (hd : ((nx : Int) == 8) = d) (R : World → Prop)
    (hF : ∀ w, Chg (fun _ => False) W w → Calls Tryz.prog 39 #[.pointer (some ⟨p, 0, none⟩), V] w fun e w' => e = .returned (.tuple #[]) ∧ R w' ∧ w'.cell? ⟨p, 4, none⟩ = some (.int .u8 (nx : Int))) :
    Calls Tryz.prog 7 #[.pointer (some ⟨p, 0, none⟩), V] W fun e W' => e = .returned (.bool d) ∧ R W' := by
  have c4 : W.cell? ⟨p, 4, none⟩ = some (.int .u8 2) := hp.cell 4
  have hix := ix_snClaim
  have HF := keepH hF
  have HS0 := keepH c4
  have HC : Hid (Chg (fun _ => False) W W.drew) := (Chg.refl (fun _ => False) W).drew
  have HP := keepH hp
  clear hp hF
  go_enter Tryz.func7, Tryz.ntmps7
  go_upto_region 3 with fail
  go_region_with (first | (go_at_call 26; refine (sn_steps _).mono ?_; rintro e w2 ⟨rfl, C2⟩; replace HC : Hid (Chg (fun _ => False) W w2) := HC.out.f C2; have hS5 : w2.cell? ⟨p, 4, none⟩ = some (.int .u8 2) := (HP.out.chg HC.out (fun x => x)).cell 4; clear C2) | (refine (HF.out _ (by first | exact HC.out | exact HC.out.drew)).mono ?_; rintro e w3 ⟨rfl, hR, d4⟩; have HR := keepH hR; clear hR))
  all_goals (
    clear c4
    go_wp2_with fail
    go_ret
    exact ⟨by simp, HR.out⟩)

theorem ix_snAsk (w : World) : (Instr.index 70 (.agg #[.func (.func 37) #[] #[], .func (.func 38) #[] #[], .func (.func 39) #[] #[], .func (.func 40) #[] #[], .func (.func 41) #[] #[], .func (.func 42) #[] #[], .func (.func 43) #[] #[], .func (.func 44) #[] #[]]) (.int .u8 3)).run Tryz.prog w = .ok (.func (.func 40) #[] #[]) w := by kernel_rfl
set_option maxRecDepth 100000 in
set_option maxHeartbeats 2000000 in
theorem step_snAsk {W : World} {p cam fst mst slot seen gen h st : Nat} {cnt err : Int} {nw tk : Value} (hp : Blk W p 67 (snL cam fst cnt mst 3 slot seen gen nw tk h st err)) (V : Value) (nx : Nat) (d : Bool) (hd : ((nx : Int) == 8) = d) (R : World → Prop)
    (hF : ∀ w, Chg (fun _ => False) W w → Calls Tryz.prog 40 #[.pointer (some ⟨p, 0, none⟩), V] w fun e w' => e = .returned (.tuple #[]) ∧ R w' ∧ w'.cell? ⟨p, 4, none⟩ = some (.int .u8 (nx : Int))) :
    Calls Tryz.prog 7 #[.pointer (some ⟨p, 0, none⟩), V] W fun e W' => e = .returned (.bool d) ∧ R W' := by
  have c4 : W.cell? ⟨p, 4, none⟩ = some (.int .u8 3) := hp.cell 4
  have hix := ix_snAsk
  have HF := keepH hF
  have HS0 := keepH c4
  have HC : Hid (Chg (fun _ => False) W W.drew) := (Chg.refl (fun _ => False) W).drew
  have HP := keepH hp
  clear hp hF
  go_enter Tryz.func7, Tryz.ntmps7
  go_upto_region 3 with fail
  go_region_with (first | (go_at_call 26; refine (sn_steps _).mono ?_; rintro e w2 ⟨rfl, C2⟩; replace HC : Hid (Chg (fun _ => False) W w2) := HC.out.f C2; have hS5 : w2.cell? ⟨p, 4, none⟩ = some (.int .u8 3) := (HP.out.chg HC.out (fun x => x)).cell 4; clear C2) | (refine (HF.out _ (by first | exact HC.out | exact HC.out.drew)).mono ?_; rintro e w3 ⟨rfl, hR, d4⟩; have HR := keepH hR; clear hR))
  all_goals (
    clear c4
    go_wp2_with fail
    go_ret
    exact ⟨by simp, HR.out⟩)

theorem ix_snEarly (w : World) : (Instr.index 70 (.agg #[.func (.func 37) #[] #[], .func (.func 38) #[] #[], .func (.func 39) #[] #[], .func (.func 40) #[] #[], .func (.func 41) #[] #[], .func (.func 42) #[] #[], .func (.func 43) #[] #[], .func (.func 44) #[] #[]]) (.int .u8 4)).run Tryz.prog w = .ok (.func (.func 41) #[] #[]) w := by kernel_rfl
set_option maxRecDepth 100000 in
set_option maxHeartbeats 2000000 in
theorem step_snEarly {W : World} {p cam fst mst slot seen gen h st : Nat} {cnt err : Int} {nw tk : Value} (hp : Blk W p 67 (snL cam fst cnt mst 4 slot seen gen nw tk h st err)) (V : Value) (nx : Nat) (d : Bool) (hd : ((nx : Int) == 8) = d) (R : World → Prop)
    (hF : ∀ w, Chg (fun _ => False) W w → Calls Tryz.prog 41 #[.pointer (some ⟨p, 0, none⟩), V] w fun e w' => e = .returned (.tuple #[]) ∧ R w' ∧ w'.cell? ⟨p, 4, none⟩ = some (.int .u8 (nx : Int))) :
    Calls Tryz.prog 7 #[.pointer (some ⟨p, 0, none⟩), V] W fun e W' => e = .returned (.bool d) ∧ R W' := by
  have c4 : W.cell? ⟨p, 4, none⟩ = some (.int .u8 4) := hp.cell 4
  have hix := ix_snEarly
  have HF := keepH hF
  have HS0 := keepH c4
  have HC : Hid (Chg (fun _ => False) W W.drew) := (Chg.refl (fun _ => False) W).drew
  have HP := keepH hp
  clear hp hF
  go_enter Tryz.func7, Tryz.ntmps7
  go_upto_region 3 with fail
  go_region_with (first | (go_at_call 26; refine (sn_steps _).mono ?_; rintro e w2 ⟨rfl, C2⟩; replace HC : Hid (Chg (fun _ => False) W w2) := HC.out.f C2; have hS5 : w2.cell? ⟨p, 4, none⟩ = some (.int .u8 4) := (HP.out.chg HC.out (fun x => x)).cell 4; clear C2) | (refine (HF.out _ (by first | exact HC.out | exact HC.out.drew)).mono ?_; rintro e w3 ⟨rfl, hR, d4⟩; have HR := keepH hR; clear hR))
  all_goals (
    clear c4
    go_wp2_with fail
    go_ret
    exact ⟨by simp, HR.out⟩)

theorem ix_snShoot (w : World) : (Instr.index 70 (.agg #[.func (.func 37) #[] #[], .func (.func 38) #[] #[], .func (.func 39) #[] #[], .func (.func 40) #[] #[], .func (.func 41) #[] #[], .func (.func 42) #[] #[], .func (.func 43) #[] #[], .func (.func 44) #[] #[]]) (.int .u8 5)).run Tryz.prog w = .ok (.func (.func 42) #[] #[]) w := by kernel_rfl
set_option maxRecDepth 100000 in
set_option maxHeartbeats 2000000 in
theorem step_snShoot {W : World} {p cam fst mst slot seen gen h st : Nat} {cnt err : Int} {nw tk : Value} (hp : Blk W p 67 (snL cam fst cnt mst 5 slot seen gen nw tk h st err)) (V : Value) (nx : Nat) (d : Bool) (hd : ((nx : Int) == 8) = d) (R : World → Prop)
    (hF : ∀ w, Chg (fun _ => False) W w → Calls Tryz.prog 42 #[.pointer (some ⟨p, 0, none⟩), V] w fun e w' => e = .returned (.tuple #[]) ∧ R w' ∧ w'.cell? ⟨p, 4, none⟩ = some (.int .u8 (nx : Int))) :
    Calls Tryz.prog 7 #[.pointer (some ⟨p, 0, none⟩), V] W fun e W' => e = .returned (.bool d) ∧ R W' := by
  have c4 : W.cell? ⟨p, 4, none⟩ = some (.int .u8 5) := hp.cell 4
  have hix := ix_snShoot
  have HF := keepH hF
  have HS0 := keepH c4
  have HC : Hid (Chg (fun _ => False) W W.drew) := (Chg.refl (fun _ => False) W).drew
  have HP := keepH hp
  clear hp hF
  go_enter Tryz.func7, Tryz.ntmps7
  go_upto_region 3 with fail
  go_region_with (first | (go_at_call 26; refine (sn_steps _).mono ?_; rintro e w2 ⟨rfl, C2⟩; replace HC : Hid (Chg (fun _ => False) W w2) := HC.out.f C2; have hS5 : w2.cell? ⟨p, 4, none⟩ = some (.int .u8 5) := (HP.out.chg HC.out (fun x => x)).cell 4; clear C2) | (refine (HF.out _ (by first | exact HC.out | exact HC.out.drew)).mono ?_; rintro e w3 ⟨rfl, hR, d4⟩; have HR := keepH hR; clear hR))
  all_goals (
    clear c4
    go_wp2_with fail
    go_ret
    exact ⟨by simp, HR.out⟩)

theorem ix_snExact (w : World) : (Instr.index 70 (.agg #[.func (.func 37) #[] #[], .func (.func 38) #[] #[], .func (.func 39) #[] #[], .func (.func 40) #[] #[], .func (.func 41) #[] #[], .func (.func 42) #[] #[], .func (.func 43) #[] #[], .func (.func 44) #[] #[]]) (.int .u8 6)).run Tryz.prog w = .ok (.func (.func 43) #[] #[]) w := by kernel_rfl
set_option maxRecDepth 100000 in
set_option maxHeartbeats 2000000 in
theorem step_snExact {W : World} {p cam fst mst slot seen gen h st : Nat} {cnt err : Int} {nw tk : Value} (hp : Blk W p 67 (snL cam fst cnt mst 6 slot seen gen nw tk h st err)) (V : Value) (nx : Nat) (d : Bool) (hd : ((nx : Int) == 8) = d) (R : World → Prop)
    (hF : ∀ w, Chg (fun _ => False) W w → Calls Tryz.prog 43 #[.pointer (some ⟨p, 0, none⟩), V] w fun e w' => e = .returned (.tuple #[]) ∧ R w' ∧ w'.cell? ⟨p, 4, none⟩ = some (.int .u8 (nx : Int))) :
    Calls Tryz.prog 7 #[.pointer (some ⟨p, 0, none⟩), V] W fun e W' => e = .returned (.bool d) ∧ R W' := by
  have c4 : W.cell? ⟨p, 4, none⟩ = some (.int .u8 6) := hp.cell 4
  have hix := ix_snExact
  have HF := keepH hF
  have HS0 := keepH c4
  have HC : Hid (Chg (fun _ => False) W W.drew) := (Chg.refl (fun _ => False) W).drew
  have HP := keepH hp
  clear hp hF
  go_enter Tryz.func7, Tryz.ntmps7
  go_upto_region 3 with fail
  go_region_with (first | (go_at_call 26; refine (sn_steps _).mono ?_; rintro e w2 ⟨rfl, C2⟩; replace HC : Hid (Chg (fun _ => False) W w2) := HC.out.f C2; have hS5 : w2.cell? ⟨p, 4, none⟩ = some (.int .u8 6) := (HP.out.chg HC.out (fun x => x)).cell 4; clear C2) | (refine (HF.out _ (by first | exact HC.out | exact HC.out.drew)).mono ?_; rintro e w3 ⟨rfl, hR, d4⟩; have HR := keepH hR; clear hR))
  all_goals (
    clear c4
    go_wp2_with fail
    go_ret
    exact ⟨by simp, HR.out⟩)

end Go.Proofs.YtjgcahmnfpfalaaGreat
