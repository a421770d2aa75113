/- The Snapshot's steps, over any view: the claim, and what it says exactly. -/
import Derived.Test.YtlgkioaomcobdaaGreatAd
namespace Go.Proofs.YtlgkioaomcobdaaGreat
open Go.RowKit Go.Shelf
set_option linter.unusedVariables false

set_option maxRecDepth 100000 in
set_option maxHeartbeats 4000000 in
theorem sn_claimT {W : World} {p cam fst mst slot seen gen h st : Nat} {cnt err : Int} {nw tk : Value} (hp : Blk W p 90 (snL cam fst cnt mst 2 slot seen gen nw tk h st err)) (hs : slot < 256) (hg : gen < 18446744073709551616) (V : Value) (R : World → Prop)
    (hL : ∀ w, Chg (fun _ => False) W w → Calls Tryz.prog 97 #[V, .int .u64 (sumN fst slot : Int), .int .u64 (seen : Int), .int .u64 (wordN 1 gen 0 : Int)] w fun e w' => e = .returned (.bool true) ∧ R w' ∧ Blk w' p 90 (snL cam fst cnt mst 2 slot seen gen nw tk h st err)) :
    Calls Tryz.prog 89 #[.pointer (some ⟨p, 0, none⟩), V] W fun e W' => e = .returned (.tuple #[]) ∧ (∃ w1, R w1 ∧ Chg (fun k => k = p) w1 W') ∧ Blk W' p 90 (snL cam fst cnt mst 3 slot seen gen nw tk h st err) := by
  have HS0 : Hid (W.cell? ⟨p, 0, none⟩ = some (.int .u64 (cam : Int)) ∧ W.cell? ⟨p, 1, none⟩ = some (.int .u64 (fst : Int)) ∧ W.cell? ⟨p, 2, none⟩ = some (.int .i64 cnt) ∧ W.cell? ⟨p, 3, none⟩ = some (.int .u64 (mst : Int)) ∧ W.cell? ⟨p, 5, none⟩ = some (.int .i64 (slot : Int)) ∧ W.cell? ⟨p, 6, none⟩ = some (.int .u64 (seen : Int)) ∧ W.cell? ⟨p, 7, none⟩ = some (.int .u64 (gen : Int))) := ⟨hp.cell 0, hp.cell 1, hp.cell 2, hp.cell 3, hp.cell 5, hp.cell 6, hp.cell 7⟩
  have HP := keepH hp
  have HL := keepH hL
  have HC : Hid (Chg (fun _ => False) W W.drew) := (Chg.refl (fun _ => False) W).drew
  clear hp hL
  go_enter Tryz.func89, Tryz.ntmps89
  go_upto_region 0 with fail
  go_cut [24] from 4 to 29 (fun s24 wz => s24 = .bool true ∧ Hid (R wz ∧ Blk wz p 90 (snL cam fst cnt mst 2 slot seen gen nw tk h st err)))
  case first =>
    go_region_held3 (fun w' => w'.cell? ⟨p, 0, none⟩ = some (.int .u64 (cam : Int)) ∧ w'.cell? ⟨p, 1, none⟩ = some (.int .u64 (fst : Int)) ∧ w'.cell? ⟨p, 2, none⟩ = some (.int .i64 cnt) ∧ w'.cell? ⟨p, 3, none⟩ = some (.int .u64 (mst : Int)) ∧ w'.cell? ⟨p, 5, none⟩ = some (.int .i64 (slot : Int)) ∧ w'.cell? ⟨p, 6, none⟩ = some (.int .u64 (seen : Int)) ∧ w'.cell? ⟨p, 7, none⟩ = some (.int .u64 (gen : Int))) (first | exact HS0.out | exact hS5) (first | (go_at_call 42; refine (a_cellof cam fst slot mst cnt _ (by omega)).mono ?_; rintro e w2 ⟨rfl, C2⟩; replace HC : Hid (Chg (fun _ => False) W w2) := HC.out.f C2; have P2 := HP.out.chg HC.out (fun x => x); have hS5 : w2.cell? ⟨p, 0, none⟩ = some (.int .u64 (cam : Int)) ∧ w2.cell? ⟨p, 1, none⟩ = some (.int .u64 (fst : Int)) ∧ w2.cell? ⟨p, 2, none⟩ = some (.int .i64 cnt) ∧ w2.cell? ⟨p, 3, none⟩ = some (.int .u64 (mst : Int)) ∧ w2.cell? ⟨p, 5, none⟩ = some (.int .i64 (slot : Int)) ∧ w2.cell? ⟨p, 6, none⟩ = some (.int .u64 (seen : Int)) ∧ w2.cell? ⟨p, 7, none⟩ = some (.int .u64 (gen : Int)) := ⟨P2.cell 0, P2.cell 1, P2.cell 2, P2.cell 3, P2.cell 5, P2.cell 6, P2.cell 7⟩; clear P2 C2) | (go_at_call 98; refine (a_wordof 1 gen 0 (by omega) hg (by omega) _).mono ?_; rintro e w2 ⟨rfl, C2⟩; replace HC : Hid (Chg (fun _ => False) W w2) := HC.out.f C2; have P2 := HP.out.chg HC.out (fun x => x); have hS5 : w2.cell? ⟨p, 0, none⟩ = some (.int .u64 (cam : Int)) ∧ w2.cell? ⟨p, 1, none⟩ = some (.int .u64 (fst : Int)) ∧ w2.cell? ⟨p, 2, none⟩ = some (.int .i64 cnt) ∧ w2.cell? ⟨p, 3, none⟩ = some (.int .u64 (mst : Int)) ∧ w2.cell? ⟨p, 5, none⟩ = some (.int .i64 (slot : Int)) ∧ w2.cell? ⟨p, 6, none⟩ = some (.int .u64 (seen : Int)) ∧ w2.cell? ⟨p, 7, none⟩ = some (.int .u64 (gen : Int)) := ⟨P2.cell 0, P2.cell 1, P2.cell 2, P2.cell 3, P2.cell 5, P2.cell 6, P2.cell 7⟩; clear P2 C2) | (go_at_call 97; refine (HL.out _ (by first | exact HC.out | exact HC.out.drew)).mono ?_; rintro e w3 ⟨rfl, hR, P3⟩; have HR := keepH hR; have hS5 : w3.cell? ⟨p, 0, none⟩ = some (.int .u64 (cam : Int)) ∧ w3.cell? ⟨p, 1, none⟩ = some (.int .u64 (fst : Int)) ∧ w3.cell? ⟨p, 2, none⟩ = some (.int .i64 cnt) ∧ w3.cell? ⟨p, 3, none⟩ = some (.int .u64 (mst : Int)) ∧ w3.cell? ⟨p, 5, none⟩ = some (.int .i64 (slot : Int)) ∧ w3.cell? ⟨p, 6, none⟩ = some (.int .u64 (seen : Int)) ∧ w3.cell? ⟨p, 7, none⟩ = some (.int .u64 (gen : Int)) := ⟨P3.cell 0, P3.cell 1, P3.cell 2, P3.cell 3, P3.cell 5, P3.cell 6, P3.cell 7⟩; have HP3 := keepH P3; clear hR P3))
    all_goals (try go_wp2_with fail)
    all_goals go_meet
    all_goals (exact ⟨rfl, keepH ⟨HR.out, HP3.out⟩⟩)
  case rest =>
    obtain ⟨rfl, hcut⟩ := hcut
    obtain ⟨wz, hwz⟩ : ∃ wz, wz = wc := ⟨_, rfl⟩
    rw [← hwz] at hcut ⊢
    clear hwz
    have HR := keepH hcut.out.1
    have HP1 := keepH hcut.out.2
    clear hcut HS0 HP HL HC
    have c4 : wz.cell? ⟨p, 4, none⟩ = some (.int .u8 2) := HP1.out.cell 4
    have f4 := HP1.out.free 4
    go_wp2_with fail
    exact bodyPost_ret (results_none rfl _ _ _) rfl ⟨rfl, ⟨wz, HR.out, setP _⟩, HP1.out.set 4 _⟩

set_option maxRecDepth 100000 in
set_option maxHeartbeats 4000000 in
theorem sn_claimF {W : World} {p cam fst mst slot seen gen h st : Nat} {cnt err : Int} {nw tk : Value} (hp : Blk W p 90 (snL cam fst cnt mst 2 slot seen gen nw tk h st err)) (hs : slot < 256) (hg : gen < 18446744073709551616) (V : Value) (R : World → Prop)
    (hL : ∀ w, Chg (fun _ => False) W w → Calls Tryz.prog 97 #[V, .int .u64 (sumN fst slot : Int), .int .u64 (seen : Int), .int .u64 (wordN 1 gen 0 : Int)] w fun e w' => e = .returned (.bool false) ∧ R w' ∧ Blk w' p 90 (snL cam fst cnt mst 2 slot seen gen nw tk h st err)) (hc : ((slot + 1 : Nat) : Int) ≠ cnt) :
    Calls Tryz.prog 89 #[.pointer (some ⟨p, 0, none⟩), V] W fun e W' => e = .returned (.tuple #[]) ∧ (∃ w1, R w1 ∧ Chg (fun k => k = p) w1 W') ∧ Blk W' p 90 (snL cam fst cnt mst 1 (slot + 1) seen gen nw tk h st err) := by
  have HS0 : Hid (W.cell? ⟨p, 0, none⟩ = some (.int .u64 (cam : Int)) ∧ W.cell? ⟨p, 1, none⟩ = some (.int .u64 (fst : Int)) ∧ W.cell? ⟨p, 2, none⟩ = some (.int .i64 cnt) ∧ W.cell? ⟨p, 3, none⟩ = some (.int .u64 (mst : Int)) ∧ W.cell? ⟨p, 5, none⟩ = some (.int .i64 (slot : Int)) ∧ W.cell? ⟨p, 6, none⟩ = some (.int .u64 (seen : Int)) ∧ W.cell? ⟨p, 7, none⟩ = some (.int .u64 (gen : Int))) := ⟨hp.cell 0, hp.cell 1, hp.cell 2, hp.cell 3, hp.cell 5, hp.cell 6, hp.cell 7⟩
  have HP := keepH hp
  have HL := keepH hL
  have HC : Hid (Chg (fun _ => False) W W.drew) := (Chg.refl (fun _ => False) W).drew
  have HH := keepH hc
  clear hc
  clear hp hL
  go_enter Tryz.func89, Tryz.ntmps89
  go_upto_region 0 with fail
  go_cut [24] from 4 to 29 (fun s24 wz => s24 = .bool false ∧ Hid (R wz ∧ Blk wz p 90 (snL cam fst cnt mst 2 slot seen gen nw tk h st err)))
  case first =>
    go_region_held3 (fun w' => w'.cell? ⟨p, 0, none⟩ = some (.int .u64 (cam : Int)) ∧ w'.cell? ⟨p, 1, none⟩ = some (.int .u64 (fst : Int)) ∧ w'.cell? ⟨p, 2, none⟩ = some (.int .i64 cnt) ∧ w'.cell? ⟨p, 3, none⟩ = some (.int .u64 (mst : Int)) ∧ w'.cell? ⟨p, 5, none⟩ = some (.int .i64 (slot : Int)) ∧ w'.cell? ⟨p, 6, none⟩ = some (.int .u64 (seen : Int)) ∧ w'.cell? ⟨p, 7, none⟩ = some (.int .u64 (gen : Int))) (first | exact HS0.out | exact hS5) (first | (go_at_call 42; refine (a_cellof cam fst slot mst cnt _ (by omega)).mono ?_; rintro e w2 ⟨rfl, C2⟩; replace HC : Hid (Chg (fun _ => False) W w2) := HC.out.f C2; have P2 := HP.out.chg HC.out (fun x => x); have hS5 : w2.cell? ⟨p, 0, none⟩ = some (.int .u64 (cam : Int)) ∧ w2.cell? ⟨p, 1, none⟩ = some (.int .u64 (fst : Int)) ∧ w2.cell? ⟨p, 2, none⟩ = some (.int .i64 cnt) ∧ w2.cell? ⟨p, 3, none⟩ = some (.int .u64 (mst : Int)) ∧ w2.cell? ⟨p, 5, none⟩ = some (.int .i64 (slot : Int)) ∧ w2.cell? ⟨p, 6, none⟩ = some (.int .u64 (seen : Int)) ∧ w2.cell? ⟨p, 7, none⟩ = some (.int .u64 (gen : Int)) := ⟨P2.cell 0, P2.cell 1, P2.cell 2, P2.cell 3, P2.cell 5, P2.cell 6, P2.cell 7⟩; clear P2 C2) | (go_at_call 98; refine (a_wordof 1 gen 0 (by omega) hg (by omega) _).mono ?_; rintro e w2 ⟨rfl, C2⟩; replace HC : Hid (Chg (fun _ => False) W w2) := HC.out.f C2; have P2 := HP.out.chg HC.out (fun x => x); have hS5 : w2.cell? ⟨p, 0, none⟩ = some (.int .u64 (cam : Int)) ∧ w2.cell? ⟨p, 1, none⟩ = some (.int .u64 (fst : Int)) ∧ w2.cell? ⟨p, 2, none⟩ = some (.int .i64 cnt) ∧ w2.cell? ⟨p, 3, none⟩ = some (.int .u64 (mst : Int)) ∧ w2.cell? ⟨p, 5, none⟩ = some (.int .i64 (slot : Int)) ∧ w2.cell? ⟨p, 6, none⟩ = some (.int .u64 (seen : Int)) ∧ w2.cell? ⟨p, 7, none⟩ = some (.int .u64 (gen : Int)) := ⟨P2.cell 0, P2.cell 1, P2.cell 2, P2.cell 3, P2.cell 5, P2.cell 6, P2.cell 7⟩; clear P2 C2) | (go_at_call 97; refine (HL.out _ (by first | exact HC.out | exact HC.out.drew)).mono ?_; rintro e w3 ⟨rfl, hR, P3⟩; have HR := keepH hR; have hS5 : w3.cell? ⟨p, 0, none⟩ = some (.int .u64 (cam : Int)) ∧ w3.cell? ⟨p, 1, none⟩ = some (.int .u64 (fst : Int)) ∧ w3.cell? ⟨p, 2, none⟩ = some (.int .i64 cnt) ∧ w3.cell? ⟨p, 3, none⟩ = some (.int .u64 (mst : Int)) ∧ w3.cell? ⟨p, 5, none⟩ = some (.int .i64 (slot : Int)) ∧ w3.cell? ⟨p, 6, none⟩ = some (.int .u64 (seen : Int)) ∧ w3.cell? ⟨p, 7, none⟩ = some (.int .u64 (gen : Int)) := ⟨P3.cell 0, P3.cell 1, P3.cell 2, P3.cell 3, P3.cell 5, P3.cell 6, P3.cell 7⟩; have HP3 := keepH P3; clear hR P3))
    all_goals (try go_wp2_with fail)
    all_goals go_meet
    all_goals (exact ⟨rfl, keepH ⟨HR.out, HP3.out⟩⟩)
  case rest =>
    obtain ⟨rfl, hcut⟩ := hcut
    obtain ⟨wz, hwz⟩ : ∃ wz, wz = wc := ⟨_, rfl⟩
    rw [← hwz] at hcut ⊢
    clear hwz
    have HR := keepH hcut.out.1
    have HP1 := keepH hcut.out.2
    clear hcut HS0 HP HL HC
    go_wp2_with fail
    refine (sn_goonF HP1.out hs HH.out).mono ?_
    rintro e w9 ⟨rfl, P9, C9⟩
    have HP9 := keepH P9
    have HC9 := keepH C9
    clear P9 C9
    go_wp2_with fail
    go_end0
    exact ⟨rfl, ⟨wz, HR.out, HC9.out⟩, HP9.out⟩

theorem w_handle (slot gen : Nat) (hs : slot < 256) (hg : gen < 1048576) (W : World) : Calls Tryz.prog 27 #[.int .i64 (slot : Int), .int .u64 (gen : Int)] W fun e W' => e = .returned (.tuple #[.int .u64 ((slot + 1 + gen * 65536 : Nat) : Int), .int .i64 0]) ∧ W' = W := by
  refine (handle_any slot gen W (by omega) (by omega) (by omega) (by omega)).mono ?_
  rintro e W' ⟨rfl, rfl⟩
  refine ⟨twoInts ?_ ?_, rfl⟩
  · unfold handleW
    (repeat' split) <;> omega
  · unfold handleE
    (repeat' split) <;> omega
theorem t_stamp_ok (q cl mx sg : Nat) (mv : Bool) (W : World) (hT : IsTake W q cl mx 2 sg 0 mv) : Calls Tryz.prog 104 #[.pointer (some ⟨q, 0, none⟩)] W fun e W' => e = .returned (.int .u64 (sg : Int)) ∧ W' = W := by
  refine (t_stamp q cl mx 2 sg 0 mv W hT).mono ?_
  rintro e W' ⟨rfl, rfl⟩
  exact ⟨by simp, rfl⟩
set_option maxRecDepth 100000 in
set_option maxHeartbeats 4000000 in
theorem sn_exact {W : World} {p q cam fst mst slot seen gen h st cl mx sg : Nat} {mv : Bool} {cnt err : Int} {nw : Value} (hp : Blk W p 90 (snL cam fst cnt mst 6 slot seen gen nw (.pointer (some ⟨q, 0, none⟩)) h st err)) (hs : slot < 256) (hg : gen < 1048576) (hT : IsTake W q cl mx 2 sg 0 mv) (hsg : sg < 18446744073709551616) (hpq : p ≠ q) (V : Value) (R : World → Prop)
    (hS : ∀ w, Chg (fun _ => False) W w → Calls Tryz.prog 18 #[V, .int .u64 (sumN fst slot : Int), .int .u64 (wordN 3 gen sg : Int)] w fun e w' => e = .returned (.tuple #[]) ∧ (R w' ∧ IsTake w' q cl mx 2 sg 0 mv) ∧ Blk w' p 90 (snL cam fst cnt mst 6 slot seen gen nw (.pointer (some ⟨q, 0, none⟩)) h st err)) :
    Calls Tryz.prog 93 #[.pointer (some ⟨p, 0, none⟩), V] W fun e W' => e = .returned (.tuple #[]) ∧ (∃ w1, R w1 ∧ Chg (fun k => k = p) w1 W') ∧ Blk W' p 90 (snL cam fst cnt mst 8 slot seen gen nw (.pointer (some ⟨q, 0, none⟩)) (slot + 1 + gen * 65536) sg 0) := by
  have c9 : W.cell? ⟨p, 9, none⟩ = some (.pointer (some ⟨q, 0, none⟩)) := hp.cell 9
  have HS := keepH (sn_say hp hs (by omega) V 3 sg (by omega) hsg _ hS)
  have HT := keepH hT
  clear hp hT hS
  go_enter Tryz.func93, Tryz.ntmps93
  go_wp2_with fail
  refine (t_stamp_ok q cl mx sg mv _ HT.out).mono ?_
  rintro e w ⟨rfl, rfl⟩
  go_wp2_with fail
  refine HS.out.mono ?_
  rintro e w1 ⟨rfl, ⟨hR, T1⟩, P1⟩
  have HR := keepH hR
  have HP1 := keepH P1
  have HT1 := keepH T1
  have d9 : w1.cell? ⟨p, 9, none⟩ = some (.pointer (some ⟨q, 0, none⟩)) := P1.cell 9
  clear hR P1 T1 HT HS c9
  go_wp2_with fail
  refine (t_stamp_ok q cl mx sg mv _ HT1.out).mono ?_
  rintro e w1' ⟨rfl, rfl⟩
  have d11 : w1'.cell? ⟨p, 11, none⟩ = some (.int .u64 (st : Int)) := HP1.out.cell 11
  have f11 := HP1.out.free 11
  have P2 := HP1.out.set 11 (.int .u64 (sg : Int))
  obtain ⟨w2, hw2⟩ : ∃ w2, w2 = w1'.setCell ⟨p, 11, none⟩ (.int .u64 (sg : Int)) := ⟨_, rfl⟩
  have HC2 : Hid (Chg (fun k => k = p) w1' w2) := by rw [hw2]; exact setP _
  rw [← hw2] at P2
  have HS0 : Hid (w2.cell? ⟨p, 5, none⟩ = some (.int .i64 (slot : Int)) ∧ w2.cell? ⟨p, 7, none⟩ = some (.int .u64 (gen : Int))) := ⟨P2.cell 5, P2.cell 7⟩
  have g10 : w2.cell? ⟨p, 10, none⟩ = some (.int .u64 (h : Int)) := P2.cell 10
  have k10 := P2.free 10
  have HP2 := keepH P2
  go_upto_region 2 with fail
  rw [← hw2]
  clear hw2 d11 f11 P2 HT1 d9 HP1
  have P3 := HP2.out.set 10 (.int .u64 ((slot + 1 + gen * 65536 : Nat) : Int))
  have P3d : Blk (w2.drew.setCell ⟨p, 10, none⟩ (.int .u64 ((slot + 1 + gen * 65536 : Nat) : Int))) p 90 _ := (HP2.out.chg (Chg.refl (fun _ => False) w2).drew (fun x => x)).set 10 (.int .u64 ((slot + 1 + gen * 65536 : Nat) : Int))
  have hS6 : (w2.drew.setCell ⟨p, 10, none⟩ (.int .u64 ((slot + 1 + gen * 65536 : Nat) : Int))).cell? ⟨p, 5, none⟩ = some (.int .i64 (slot : Int)) ∧ (w2.drew.setCell ⟨p, 10, none⟩ (.int .u64 ((slot + 1 + gen * 65536 : Nat) : Int))).cell? ⟨p, 7, none⟩ = some (.int .u64 (gen : Int)) := ⟨P3d.cell 5, P3d.cell 7⟩
  have HP3 := keepH P3d
  clear P3 P3d
  generalize hhv : (slot + 1 + gen * 65536 : Nat) = hv at *
  go_cut [] from 4 to 36 (fun wz => Hid (Chg (fun k => k = p) w2 wz ∧ Blk wz p 90 (snL cam fst cnt mst 6 slot seen gen nw (.pointer (some ⟨q, 0, none⟩)) hv sg err)))
  case first =>
    go_region_held3 (fun w' => w'.cell? ⟨p, 5, none⟩ = some (.int .i64 (slot : Int)) ∧ w'.cell? ⟨p, 7, none⟩ = some (.int .u64 (gen : Int))) (first | exact HS0.out | exact hS6) (first | (go_at_call 27; refine (w_handle slot gen hs hg _).mono ?_; rintro e w4 ⟨rfl, rfl⟩; rw [hhv]))
    all_goals (try go_wp2_with fail)
    all_goals go_meet
    all_goals (exact keepH ⟨(Chg.refl (fun _ => False) w2).drew.fp (setP _), HP3.out⟩)
  case rest =>
    obtain ⟨wz, hwz⟩ : ∃ wz, wz = wc := ⟨_, rfl⟩
    rw [← hwz] at hcut ⊢
    clear hwz
    have HC4 := keepH (HC2.out.p hcut.out.1)
    have HP4 := keepH hcut.out.2
    clear hcut HS0 HP2 HP3 hS6 g10 k10 HC2
    go_wp2_with fail
    refine (sn_end HP4.out rfl rfl 0).mono ?_
    rintro e w5 ⟨rfl, P5, C5⟩
    have HP5 := keepH P5
    have HC5 := keepH (HC4.out.p C5)
    clear P5 C5 HP4 HC4
    go_wp2_with fail
    go_end0
    refine ⟨rfl, ⟨_, HR.out, HC5.out⟩, ?_⟩
    rw [hhv]
    exact HP5.out

end Go.Proofs.YtlgkioaomcobdaaGreat
