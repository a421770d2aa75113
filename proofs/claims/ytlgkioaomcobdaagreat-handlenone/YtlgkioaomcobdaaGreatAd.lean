/- The Snapshot's steps, over any view: say, ask, early, shoot, give up. -/
import Derived.Test.YtlgkioaomcobdaaGreatAc
namespace Go.Proofs.YtlgkioaomcobdaaGreat
open Go.RowKit Go.Shelf
set_option linter.unusedVariables false

set_option maxRecDepth 100000 in
set_option maxHeartbeats 4000000 in
theorem sn_say {W : World} {p cam fst mst pos slot seen gen h st : Nat} {cnt err : Int} {nw tk : Value} (hp : Blk W p 90 (snL cam fst cnt mst pos slot seen gen nw tk h st err)) (hs : slot < 256) (hg : gen < 18446744073709551616) (V : Value) (k x : Nat) (hk : k < 4) (hx : x < 18446744073709551616) (R : World → Prop)
    (hS : ∀ w, Chg (fun _ => False) W w → Calls Tryz.prog 18 #[V, .int .u64 (sumN fst slot : Int), .int .u64 (wordN k gen x : Int)] w fun e w' => e = .returned (.tuple #[]) ∧ R w' ∧ Blk w' p 90 (snL cam fst cnt mst pos slot seen gen nw tk h st err)) :
    Calls Tryz.prog 100 #[.pointer (some ⟨p, 0, none⟩), V, .int .u8 (k : Int), .int .u64 (x : Int)] W fun e W' => e = .returned (.tuple #[]) ∧ R W' ∧ Blk W' p 90 (snL cam fst cnt mst pos slot seen gen nw tk h st err) := by
  have HS0 : Hid (W.cell? ⟨p, 0, none⟩ = some (.int .u64 (cam : Int)) ∧ W.cell? ⟨p, 1, none⟩ = some (.int .u64 (fst : Int)) ∧ W.cell? ⟨p, 2, none⟩ = some (.int .i64 cnt) ∧ W.cell? ⟨p, 3, none⟩ = some (.int .u64 (mst : Int)) ∧ W.cell? ⟨p, 5, none⟩ = some (.int .i64 (slot : Int)) ∧ W.cell? ⟨p, 7, none⟩ = some (.int .u64 (gen : Int))) := ⟨hp.cell 0, hp.cell 1, hp.cell 2, hp.cell 3, hp.cell 5, hp.cell 7⟩
  have HP := keepH hp
  have HS := keepH hS
  have HC : Hid (Chg (fun _ => False) W W.drew) := (Chg.refl (fun _ => False) W).drew
  clear hp hS
  go_enter Tryz.func100, Tryz.ntmps100
  go_upto_region 0 with fail
  go_region_held3 (fun w' => w'.cell? ⟨p, 0, none⟩ = some (.int .u64 (cam : Int)) ∧ w'.cell? ⟨p, 1, none⟩ = some (.int .u64 (fst : Int)) ∧ w'.cell? ⟨p, 2, none⟩ = some (.int .i64 cnt) ∧ w'.cell? ⟨p, 3, none⟩ = some (.int .u64 (mst : Int)) ∧ w'.cell? ⟨p, 5, none⟩ = some (.int .i64 (slot : Int)) ∧ w'.cell? ⟨p, 7, none⟩ = some (.int .u64 (gen : Int))) (first | exact HS0.out | exact hS5) (first | (go_at_call 42; refine (a_cellof cam fst slot mst cnt _ (by omega)).mono ?_; rintro e w2 ⟨rfl, C2⟩; replace HC : Hid (Chg (fun _ => False) W w2) := HC.out.f C2; have P2 := HP.out.chg HC.out (fun x => x); have hS5 : w2.cell? ⟨p, 0, none⟩ = some (.int .u64 (cam : Int)) ∧ w2.cell? ⟨p, 1, none⟩ = some (.int .u64 (fst : Int)) ∧ w2.cell? ⟨p, 2, none⟩ = some (.int .i64 cnt) ∧ w2.cell? ⟨p, 3, none⟩ = some (.int .u64 (mst : Int)) ∧ w2.cell? ⟨p, 5, none⟩ = some (.int .i64 (slot : Int)) ∧ w2.cell? ⟨p, 7, none⟩ = some (.int .u64 (gen : Int)) := ⟨P2.cell 0, P2.cell 1, P2.cell 2, P2.cell 3, P2.cell 5, P2.cell 7⟩; clear P2 C2) | (go_at_call 98; refine (a_wordof k gen x hk hg hx _).mono ?_; rintro e w2 ⟨rfl, C2⟩; replace HC : Hid (Chg (fun _ => False) W w2) := HC.out.f C2; have P2 := HP.out.chg HC.out (fun x => x); have hS5 : w2.cell? ⟨p, 0, none⟩ = some (.int .u64 (cam : Int)) ∧ w2.cell? ⟨p, 1, none⟩ = some (.int .u64 (fst : Int)) ∧ w2.cell? ⟨p, 2, none⟩ = some (.int .i64 cnt) ∧ w2.cell? ⟨p, 3, none⟩ = some (.int .u64 (mst : Int)) ∧ w2.cell? ⟨p, 5, none⟩ = some (.int .i64 (slot : Int)) ∧ w2.cell? ⟨p, 7, none⟩ = some (.int .u64 (gen : Int)) := ⟨P2.cell 0, P2.cell 1, P2.cell 2, P2.cell 3, P2.cell 5, P2.cell 7⟩; clear P2 C2) | (go_at_call 18; refine (HS.out _ (by first | exact HC.out | exact HC.out.drew)).mono ?_; rintro e w3 ⟨rfl, hR, P3⟩; have HR := keepH hR; have hS5 : w3.cell? ⟨p, 0, none⟩ = some (.int .u64 (cam : Int)) ∧ w3.cell? ⟨p, 1, none⟩ = some (.int .u64 (fst : Int)) ∧ w3.cell? ⟨p, 2, none⟩ = some (.int .i64 cnt) ∧ w3.cell? ⟨p, 3, none⟩ = some (.int .u64 (mst : Int)) ∧ w3.cell? ⟨p, 5, none⟩ = some (.int .i64 (slot : Int)) ∧ w3.cell? ⟨p, 7, none⟩ = some (.int .u64 (gen : Int)) := ⟨P3.cell 0, P3.cell 1, P3.cell 2, P3.cell 3, P3.cell 5, P3.cell 7⟩; have HP3 := keepH P3; clear hR P3))
  all_goals (try go_wp2_with fail)
  all_goals go_end0
  all_goals (exact ⟨rfl, HR.out, HP3.out⟩)

set_option maxRecDepth 100000 in
theorem sn_ask {W : World} {p q cam fst mst slot seen gen h st : Nat} {cnt err : Int} {tk : Value} (hp : Blk W p 90 (snL cam fst cnt mst 3 slot seen gen (.pointer (some ⟨q, 0, none⟩)) tk h st err)) (V : Value) (R : World → Prop)
    (hN : Calls Tryz.prog 99 #[.pointer (some ⟨q, 0, none⟩), V] W fun e w' => e = .returned (.bool true) ∧ R w' ∧ Blk w' p 90 (snL cam fst cnt mst 3 slot seen gen (.pointer (some ⟨q, 0, none⟩)) tk h st err)) :
    Calls Tryz.prog 90 #[.pointer (some ⟨p, 0, none⟩), V] W fun e W' => e = .returned (.tuple #[]) ∧ (∃ w1, R w1 ∧ Chg (fun k => k = p) w1 W') ∧ Blk W' p 90 (snL cam fst cnt mst 4 slot seen gen (.pointer (some ⟨q, 0, none⟩)) tk h st err) := by
  have c8 : W.cell? ⟨p, 8, none⟩ = some (.pointer (some ⟨q, 0, none⟩)) := hp.cell 8
  have HN := keepH hN
  clear hp hN
  go_enter Tryz.func90, Tryz.ntmps90
  go_wp2_with fail
  refine HN.out.mono ?_
  rintro e w1 ⟨rfl, hR, P1⟩
  have HR := keepH hR
  have HP1 := keepH P1
  clear hR P1 HN c8
  have c4 : w1.cell? ⟨p, 4, none⟩ = some (.int .u8 3) := HP1.out.cell 4
  have f4 := HP1.out.free 4
  go_wp2_with fail
  go_end0
  exact ⟨rfl, ⟨w1, HR.out, setP _⟩, HP1.out.set 4 _⟩

set_option maxRecDepth 100000 in
theorem sn_early {W : World} {p q cam fst mst slot seen gen h st cl a : Nat} {cnt err : Int} {tk : Value} (hp : Blk W p 90 (snL cam fst cnt mst 4 slot seen gen (.pointer (some ⟨q, 0, none⟩)) tk h st err)) (hs : slot < 256) (hg : gen < 18446744073709551616) (hN : IsNow W q cl 2 a) (ha : a < 18446744073709551616) (V : Value) (R : World → Prop)
    (hS : ∀ w, Chg (fun _ => False) W w → Calls Tryz.prog 18 #[V, .int .u64 (sumN fst slot : Int), .int .u64 (wordN 2 gen a : Int)] w fun e w' => e = .returned (.tuple #[]) ∧ R w' ∧ Blk w' p 90 (snL cam fst cnt mst 4 slot seen gen (.pointer (some ⟨q, 0, none⟩)) tk h st err)) :
    Calls Tryz.prog 91 #[.pointer (some ⟨p, 0, none⟩), V] W fun e W' => e = .returned (.tuple #[]) ∧ (∃ w1, R w1 ∧ Chg (fun k => k = p) w1 W') ∧ Blk W' p 90 (snL cam fst cnt mst 5 slot seen gen (.pointer (some ⟨q, 0, none⟩)) tk h st err) := by
  have c8 : W.cell? ⟨p, 8, none⟩ = some (.pointer (some ⟨q, 0, none⟩)) := hp.cell 8
  have HS := keepH (sn_say hp hs hg V 2 a (by omega) ha _ hS)
  have HN := keepH hN
  clear hp hN hS
  go_enter Tryz.func91, Tryz.ntmps91
  go_wp2_with fail
  refine (n_stamp q cl 2 a _ HN.out).mono ?_
  rintro e w ⟨rfl, rfl⟩
  go_wp2_with fail
  refine HS.out.mono ?_
  rintro e w1 ⟨rfl, hR, P1⟩
  have HR := keepH hR
  have HP1 := keepH P1
  clear hR P1 HN HS c8
  have c4 : w1.cell? ⟨p, 4, none⟩ = some (.int .u8 4) := HP1.out.cell 4
  have f4 := HP1.out.free 4
  go_wp2_with fail
  go_end0
  exact ⟨rfl, ⟨w1, HR.out, setP _⟩, HP1.out.set 4 _⟩

set_option maxRecDepth 100000 in
theorem sn_shootF {W : World} {p q cam fst mst slot seen gen h st : Nat} {cnt err : Int} {nw : Value} (hp : Blk W p 90 (snL cam fst cnt mst 5 slot seen gen nw (.pointer (some ⟨q, 0, none⟩)) h st err)) (V : Value) (R : World → Prop)
    (hN : Calls Tryz.prog 102 #[.pointer (some ⟨q, 0, none⟩), V] W fun e w' => e = .returned (.bool false) ∧ R w') :
    Calls Tryz.prog 92 #[.pointer (some ⟨p, 0, none⟩), V] W fun e W' => e = .returned (.tuple #[]) ∧ R W' := by
  have c9 : W.cell? ⟨p, 9, none⟩ = some (.pointer (some ⟨q, 0, none⟩)) := hp.cell 9
  have HN := keepH hN
  clear hp hN
  go_enter Tryz.func92, Tryz.ntmps92
  go_wp2_with fail
  refine HN.out.mono ?_
  rintro e w1 ⟨rfl, hR⟩
  have HR := keepH hR
  clear hR HN c9
  go_wp2_with fail
  exact bodyPost_ret (results_none rfl _ _ _) rfl ⟨rfl, HR.out⟩

set_option maxRecDepth 100000 in
theorem sn_shootT {W : World} {p q cam fst mst slot seen gen h st cl mx sg : Nat} {mv : Bool} {cnt err : Int} {nw : Value} (hp : Blk W p 90 (snL cam fst cnt mst 5 slot seen gen nw (.pointer (some ⟨q, 0, none⟩)) h st err)) (hpq : p ≠ q) (V : Value) (R : World → Prop)
    (hN : Calls Tryz.prog 102 #[.pointer (some ⟨q, 0, none⟩), V] W fun e w' => e = .returned (.bool true) ∧ R w' ∧ Blk w' p 90 (snL cam fst cnt mst 5 slot seen gen nw (.pointer (some ⟨q, 0, none⟩)) h st err) ∧ IsTake w' q cl mx 2 sg 0 mv) :
    Calls Tryz.prog 92 #[.pointer (some ⟨p, 0, none⟩), V] W fun e W' => e = .returned (.tuple #[]) ∧ (∃ w1, R w1 ∧ Chg (fun k => k = p) w1 W') ∧ Blk W' p 90 (snL cam fst cnt mst 6 slot seen gen nw (.pointer (some ⟨q, 0, none⟩)) h st err) := by
  have c9 : W.cell? ⟨p, 9, none⟩ = some (.pointer (some ⟨q, 0, none⟩)) := hp.cell 9
  have HN := keepH hN
  clear hp hN
  go_enter Tryz.func92, Tryz.ntmps92
  go_wp2_with fail
  refine HN.out.mono ?_
  rintro e w1 ⟨rfl, hR, P1, T1⟩
  have HR := keepH hR
  have HP1 := keepH P1
  have P2 := P1.set 4 (.int .u8 6)
  have c4 : w1.cell? ⟨p, 4, none⟩ = some (.int .u8 5) := P1.cell 4
  have f4 := P1.free 4
  obtain ⟨w2, hw2⟩ : ∃ w2, w2 = w1.setCell ⟨p, 4, none⟩ (.int .u8 6) := ⟨_, rfl⟩
  have C2 : Hid (Chg (fun k => k = p) w1 w2) := by rw [hw2]; exact setP _
  rw [← hw2] at P2
  have HT2 := keepH (T1.chg C2.out (fun e => hpq e.symm))
  have HP2 := keepH P2
  have d9 : w2.cell? ⟨p, 9, none⟩ = some (.pointer (some ⟨q, 0, none⟩)) := P2.cell 9
  clear hR P1 T1 HN c9 P2
  go_upto_region 2 with fail
  rw [← hw2]
  clear hw2 c4 f4 HP1
  go_wp2_with fail
  refine (t_errno q cl mx 2 sg 0 mv _ HT2.out).mono ?_
  rintro e w ⟨rfl, rfl⟩
  clear HT2 d9
  go_wp2_with fail
  go_end0
  exact ⟨rfl, ⟨w1, HR.out, C2.out⟩, HP2.out⟩

set_option maxRecDepth 100000 in
theorem sn_shootE {W : World} {p q cam fst mst slot seen gen h st cl mx sg : Nat} {mv : Bool} {cnt err : Int} {nw : Value} (hp : Blk W p 90 (snL cam fst cnt mst 5 slot seen gen nw (.pointer (some ⟨q, 0, none⟩)) h st err)) (hpq : p ≠ q) (V : Value) (R : World → Prop)
    (hN : Calls Tryz.prog 102 #[.pointer (some ⟨q, 0, none⟩), V] W fun e w' => e = .returned (.bool true) ∧ R w' ∧ Blk w' p 90 (snL cam fst cnt mst 5 slot seen gen nw (.pointer (some ⟨q, 0, none⟩)) h st err) ∧ IsTake w' q cl mx 2 sg 31 mv) :
    Calls Tryz.prog 92 #[.pointer (some ⟨p, 0, none⟩), V] W fun e W' => e = .returned (.tuple #[]) ∧ (∃ w1, R w1 ∧ Chg (fun k => k = p) w1 W') ∧ Blk W' p 90 (snL cam fst cnt mst 7 slot seen gen nw (.pointer (some ⟨q, 0, none⟩)) h st err) := by
  have c9 : W.cell? ⟨p, 9, none⟩ = some (.pointer (some ⟨q, 0, none⟩)) := hp.cell 9
  have HN := keepH hN
  clear hp hN
  go_enter Tryz.func92, Tryz.ntmps92
  go_wp2_with fail
  refine HN.out.mono ?_
  rintro e w1 ⟨rfl, hR, P1, T1⟩
  have HR := keepH hR
  have HP1 := keepH P1
  have P2 := P1.set 4 (.int .u8 6)
  have c4 : w1.cell? ⟨p, 4, none⟩ = some (.int .u8 5) := P1.cell 4
  have f4 := P1.free 4
  obtain ⟨w2, hw2⟩ : ∃ w2, w2 = w1.setCell ⟨p, 4, none⟩ (.int .u8 6) := ⟨_, rfl⟩
  have C2 : Hid (Chg (fun k => k = p) w1 w2) := by rw [hw2]; exact setP _
  rw [← hw2] at P2
  have HT2 := keepH (T1.chg C2.out (fun e => hpq e.symm))
  have HP2 := keepH P2
  have d9 : w2.cell? ⟨p, 9, none⟩ = some (.pointer (some ⟨q, 0, none⟩)) := P2.cell 9
  clear hR P1 T1 HN c9 P2
  go_upto_region 2 with fail
  rw [← hw2]
  clear hw2 c4 f4 HP1
  go_wp2_with fail
  refine (t_errno q cl mx 2 sg 31 mv _ HT2.out).mono ?_
  rintro e w ⟨rfl, rfl⟩
  clear HT2 d9
  have c4 : w.cell? ⟨p, 4, none⟩ = some (.int .u8 6) := HP2.out.cell 4
  have f4 := HP2.out.free 4
  go_wp2_with fail
  go_end0
  exact ⟨rfl, ⟨w1, HR.out, C2.out.p (setP _)⟩, HP2.out.set 4 _⟩

end Go.Proofs.YtlgkioaomcobdaaGreat
