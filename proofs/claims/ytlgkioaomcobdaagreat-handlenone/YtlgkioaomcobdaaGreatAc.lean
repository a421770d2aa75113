/- The Snapshot's steps, over any view. -/
import Derived.Test.YtlgkioaomcobdaaGreatAb
import Derived.Deep.Cut
import Derived.Deep.CutBlock
import Derived.Deep.DeepCutAuto
namespace Go.Proofs.YtlgkioaomcobdaaGreat
open Go.RowKit Go.Shelf
set_option linter.unusedVariables false

def snL (cam fst : Nat) (cnt : Int) (mst pos slot seen gen : Nat) (nw tk : Value) (h st : Nat) (err : Int) : List Value := [.int .u64 (cam : Int), .int .u64 (fst : Int), .int .i64 cnt, .int .u64 (mst : Int), .int .u8 (pos : Int), .int .i64 (slot : Int), .int .u64 (seen : Int), .int .u64 (gen : Int), nw, tk, .int .u64 (h : Int), .int .u64 (st : Int), .int .i64 err]
theorem Chg.f {W w w' : World} (h : Chg (fun _ => False) W w) (k : Chg (fun _ => False) w w') : Chg (fun _ => False) W w' := h.trans k (fun _ _ x => x) (fun _ _ x => x)
theorem Chg.p {W w w' : World} {p : Nat} (h : Chg (fun k => k = p) W w) (k : Chg (fun k => k = p) w w') : Chg (fun k => k = p) W w' := h.trans k (fun _ _ x => x) (fun _ _ x => x)
theorem Chg.fp {W w w' : World} {p : Nat} (h : Chg (fun _ => False) W w) (k : Chg (fun k => k = p) w w') : Chg (fun k => k = p) W w' := h.trans k (fun _ _ x => x.elim) (fun _ _ x => x)
theorem Chg.pf {W w w' : World} {p : Nat} (h : Chg (fun k => k = p) W w) (k : Chg (fun _ => False) w w') : Chg (fun k => k = p) W w' := h.trans k (fun _ _ x => x) (fun _ _ x => x.elim)
theorem u_ne {a b : Nat} (h : a ≠ b) : ((a : Int) == (b : Int)) = false := beq_eq_false_iff_ne.2 (by omega)

set_option maxRecDepth 100000 in
set_option maxHeartbeats 1000000 in
theorem sn_goonF {W : World} {p cam fst mst pos slot seen gen h st : Nat} {cnt err : Int} {nw tk : Value} (hp : Blk W p 90 (snL cam fst cnt mst pos slot seen gen nw tk h st err)) (hs : slot < 256) (hc : ((slot + 1 : Nat) : Int) ≠ cnt) :
    Calls Tryz.prog 85 #[.pointer (some ⟨p, 0, none⟩)] W fun e W' => e = .returned (.tuple #[]) ∧ Blk W' p 90 (snL cam fst cnt mst 1 (slot + 1) seen gen nw tk h st err) ∧ Chg (fun k => k = p) W W' := by
  have c5 : W.cell? ⟨p, 5, none⟩ = some (.int .i64 (slot : Int)) := hp.cell 5
  have f5 := hp.free 5
  have w5 : IntKind.i64.wrap ((slot : Int) + 1) = ((slot + 1 : Nat) : Int) := by rw [IntKind.wrap_i64]; omega
  have P1 := hp.set 5 (.int .i64 ((slot + 1 : Nat) : Int))
  obtain ⟨w1, hw1⟩ : ∃ w1, w1 = W.setCell ⟨p, 5, none⟩ (.int .i64 ((slot + 1 : Nat) : Int)) := ⟨_, rfl⟩
  have C1 : Chg (fun k => k = p) W w1 := by rw [hw1]; exact setP _
  rw [← hw1] at P1
  have d4 : w1.cell? ⟨p, 4, none⟩ = some (.int .u8 (pos : Int)) := P1.cell 4
  have f4 := P1.free 4
  have P2 := P1.set 4 (.int .u8 1)
  obtain ⟨w2, hw2⟩ : ∃ w2, w2 = w1.setCell ⟨p, 4, none⟩ (.int .u8 1) := ⟨_, rfl⟩
  rw [← hw2] at P2
  have C2 : Hid (Chg (fun k => k = p) W w2) := by rw [hw2]; exact C1.p (setP _)
  have g5 : w2.cell? ⟨p, 5, none⟩ = some (.int .i64 ((slot + 1 : Nat) : Int)) := P2.cell 5
  have g2 : w2.cell? ⟨p, 2, none⟩ = some (.int .i64 cnt) := P2.cell 2
  have HP := keepH P2
  have t : (((slot + 1 : Nat) : Int) == cnt) = false := by simp; omega
  clear hp P1 P2 C1 hc
  generalize hsl : ((slot + 1 : Nat) : Int) = sl at *
  go_enter Tryz.func85, Tryz.ntmps85
  go_upto_region 1 with fail
  rw [← hw1]
  clear hw1
  go_upto_region 2 with fail
  rw [← hw2]
  clear hw2 c5 f5 d4 f4
  go_quiet (fail)
  obtain ⟨w3, hw3⟩ : ∃ w3, w3 = w2.drewN nq := ⟨_, rfl⟩
  have C3 : Chg (fun _ => False) w2 w3 := by rw [hw3]; exact (Goes.drewN w2 (fun _ => False) nq).chg
  rw [← hw3]
  have HP3 := keepH (HP.out.chg C3 (fun x => x))
  have HC3 := keepH (C2.out.pf C3)
  clear hw3 C3 C2 HP g5 g2
  go_wp2_with fail

  go_end0
  refine ⟨rfl, ?_, HC3.out⟩
  have z := HP3.out
  rw [← hsl] at z
  exact z

set_option maxRecDepth 100000 in
set_option maxHeartbeats 1000000 in
theorem sn_goonT {W : World} {p cam fst mst pos slot seen gen h st : Nat} {cnt err : Int} {nw tk : Value} (hp : Blk W p 90 (snL cam fst cnt mst pos slot seen gen nw tk h st err)) (hs : slot < 256) (hc : ((slot + 1 : Nat) : Int) = cnt) :
    Calls Tryz.prog 85 #[.pointer (some ⟨p, 0, none⟩)] W fun e W' => e = .returned (.tuple #[]) ∧ Blk W' p 90 (snL cam fst cnt mst 8 (slot + 1) seen gen nw tk h st 32) ∧ Chg (fun k => k = p) W W' := by
  have c5 : W.cell? ⟨p, 5, none⟩ = some (.int .i64 (slot : Int)) := hp.cell 5
  have f5 := hp.free 5
  have w5 : IntKind.i64.wrap ((slot : Int) + 1) = ((slot + 1 : Nat) : Int) := by rw [IntKind.wrap_i64]; omega
  have P1 := hp.set 5 (.int .i64 ((slot + 1 : Nat) : Int))
  obtain ⟨w1, hw1⟩ : ∃ w1, w1 = W.setCell ⟨p, 5, none⟩ (.int .i64 ((slot + 1 : Nat) : Int)) := ⟨_, rfl⟩
  have C1 : Chg (fun k => k = p) W w1 := by rw [hw1]; exact setP _
  rw [← hw1] at P1
  have d4 : w1.cell? ⟨p, 4, none⟩ = some (.int .u8 (pos : Int)) := P1.cell 4
  have f4 := P1.free 4
  have P2 := P1.set 4 (.int .u8 1)
  obtain ⟨w2, hw2⟩ : ∃ w2, w2 = w1.setCell ⟨p, 4, none⟩ (.int .u8 1) := ⟨_, rfl⟩
  rw [← hw2] at P2
  have C2 : Hid (Chg (fun k => k = p) W w2) := by rw [hw2]; exact C1.p (setP _)
  have g5 : w2.cell? ⟨p, 5, none⟩ = some (.int .i64 ((slot + 1 : Nat) : Int)) := P2.cell 5
  have g2 : w2.cell? ⟨p, 2, none⟩ = some (.int .i64 cnt) := P2.cell 2
  have HP := keepH P2
  have t : (((slot + 1 : Nat) : Int) == cnt) = true := by simp; omega
  clear hp P1 P2 C1 hc
  generalize hsl : ((slot + 1 : Nat) : Int) = sl at *
  go_enter Tryz.func85, Tryz.ntmps85
  go_upto_region 1 with fail
  rw [← hw1]
  clear hw1
  go_upto_region 2 with fail
  rw [← hw2]
  clear hw2 c5 f5 d4 f4
  go_quiet (fail)
  obtain ⟨w3, hw3⟩ : ∃ w3, w3 = w2.drewN nq := ⟨_, rfl⟩
  have C3 : Chg (fun _ => False) w2 w3 := by rw [hw3]; exact (Goes.drewN w2 (fun _ => False) nq).chg
  rw [← hw3]
  have HP3 := keepH (HP.out.chg C3 (fun x => x))
  have HC3 := keepH (C2.out.pf C3)
  clear hw3 C3 C2 HP g5 g2
  go_wp2_with fail

  refine (sn_end HP3.out rfl rfl 32).mono ?_
  rintro e w4 ⟨rfl, P4, C4⟩
  have HP4 := keepH P4
  have HC4 := keepH (HC3.out.p C4)
  clear P4 C4 HP3 HC3
  go_wp2_with fail
  go_end0
  refine ⟨rfl, ?_, HC4.out⟩
  have z := HP4.out
  rw [← hsl] at z
  exact z

set_option maxRecDepth 100000 in
set_option maxHeartbeats 4000000 in
theorem sn_lookT {W : World} {p cam fst mst slot seen gen h st : Nat} {cnt err : Int} {nw tk : Value} (hp : Blk W p 90 (snL cam fst cnt mst 1 slot seen gen nw tk h st err)) (hs : slot < 256) (V : Value) (x : Nat) (hx : x < 18446744073709551616) (R : World → Prop)
    (hL : ∀ w, Chg (fun _ => False) W w → Calls Tryz.prog 40 #[V, .int .u64 (sumN fst slot : Int)] w fun e w' => e = .returned (.int .u64 (x : Int)) ∧ R w' ∧ Blk w' p 90 (snL cam fst cnt mst 1 slot seen gen nw tk h st err)) (hk : x % 4 = 0) (hg : x / 4 % 1048576 < 1048575) :
    Calls Tryz.prog 88 #[.pointer (some ⟨p, 0, none⟩), V] W fun e W' => e = .returned (.tuple #[]) ∧ (∃ w1, R w1 ∧ Chg (fun k => k = p) w1 W') ∧ Blk W' p 90 (snL cam fst cnt mst 2 slot x (x / 4 % 1048576) nw tk h st err) := by
  have HS0 : Hid (W.cell? ⟨p, 0, none⟩ = some (.int .u64 (cam : Int)) ∧ W.cell? ⟨p, 1, none⟩ = some (.int .u64 (fst : Int)) ∧ W.cell? ⟨p, 2, none⟩ = some (.int .i64 cnt) ∧ W.cell? ⟨p, 3, none⟩ = some (.int .u64 (mst : Int)) ∧ W.cell? ⟨p, 5, none⟩ = some (.int .i64 (slot : Int))) := ⟨hp.cell 0, hp.cell 1, hp.cell 2, hp.cell 3, hp.cell 5⟩
  have HP := keepH hp
  have HL := keepH hL
  skip
  clear hp hL
  go_enter Tryz.func88, Tryz.ntmps88
  go_upto_region 0 with fail
  go_cut [] from 4 to 46 (fun wz => Hid ((∃ w1, R w1 ∧ Chg (fun k => k = p) w1 wz) ∧ Blk wz p 90 (snL cam fst cnt mst 1 slot x gen nw tk h st err)))
  case first =>
    go_region_held3 (fun w' => w'.cell? ⟨p, 0, none⟩ = some (.int .u64 (cam : Int)) ∧ w'.cell? ⟨p, 1, none⟩ = some (.int .u64 (fst : Int)) ∧ w'.cell? ⟨p, 2, none⟩ = some (.int .i64 cnt) ∧ w'.cell? ⟨p, 3, none⟩ = some (.int .u64 (mst : Int)) ∧ w'.cell? ⟨p, 5, none⟩ = some (.int .i64 (slot : Int))) (first | exact HS0.out | exact hS5 | exact hS6 | exact hS7) (first | (go_at_call 42; refine (a_cellof cam fst slot mst cnt _ (by omega)).mono ?_; rintro e w2 ⟨rfl, C2⟩; have CW : Chg (fun _ => False) W w2 := (Chg.refl (fun _ => False) W).drew.f C2; have P2 := HP.out.chg CW (fun x => x); have hS5 : w2.cell? ⟨p, 0, none⟩ = some (.int .u64 (cam : Int)) ∧ w2.cell? ⟨p, 1, none⟩ = some (.int .u64 (fst : Int)) ∧ w2.cell? ⟨p, 2, none⟩ = some (.int .i64 cnt) ∧ w2.cell? ⟨p, 3, none⟩ = some (.int .u64 (mst : Int)) ∧ w2.cell? ⟨p, 5, none⟩ = some (.int .i64 (slot : Int)) := ⟨P2.cell 0, P2.cell 1, P2.cell 2, P2.cell 3, P2.cell 5⟩; have HC2 := keepH CW; clear P2 C2 CW) | (go_at_call 40; refine (HL.out _ (by first | exact HC2.out | exact HC2.out.drew)).mono ?_; rintro e w3 ⟨rfl, hR, P3⟩; have hS6 : w3.cell? ⟨p, 0, none⟩ = some (.int .u64 (cam : Int)) ∧ w3.cell? ⟨p, 1, none⟩ = some (.int .u64 (fst : Int)) ∧ w3.cell? ⟨p, 2, none⟩ = some (.int .i64 cnt) ∧ w3.cell? ⟨p, 3, none⟩ = some (.int .u64 (mst : Int)) ∧ w3.cell? ⟨p, 5, none⟩ = some (.int .i64 (slot : Int)) := ⟨P3.cell 0, P3.cell 1, P3.cell 2, P3.cell 3, P3.cell 5⟩; have P4 := P3.set 6 (.int .u64 (x : Int)); have hS7 : (w3.setCell ⟨p, 6, none⟩ (.int .u64 (x : Int))).cell? ⟨p, 0, none⟩ = some (.int .u64 (cam : Int)) ∧ (w3.setCell ⟨p, 6, none⟩ (.int .u64 (x : Int))).cell? ⟨p, 1, none⟩ = some (.int .u64 (fst : Int)) ∧ (w3.setCell ⟨p, 6, none⟩ (.int .u64 (x : Int))).cell? ⟨p, 2, none⟩ = some (.int .i64 cnt) ∧ (w3.setCell ⟨p, 6, none⟩ (.int .u64 (x : Int))).cell? ⟨p, 3, none⟩ = some (.int .u64 (mst : Int)) ∧ (w3.setCell ⟨p, 6, none⟩ (.int .u64 (x : Int))).cell? ⟨p, 5, none⟩ = some (.int .i64 (slot : Int)) := ⟨P4.cell 0, P4.cell 1, P4.cell 2, P4.cell 3, P4.cell 5⟩; have e6 : w3.cell? ⟨p, 6, none⟩ = some (.int .u64 (seen : Int)) := P3.cell 6; have g6 := P3.free 6; have HP4 := keepH P4; have HR := keepH hR; clear P3 P4 hR))
    all_goals (try go_wp2_with fail)
    all_goals go_meet
    all_goals (exact keepH ⟨⟨w3, HR.out, setP _⟩, HP4.out⟩)
  case rest =>
    obtain ⟨wz, hwz⟩ : ∃ wz, wz = wc := ⟨_, rfl⟩
    rw [← hwz] at hcut ⊢
    clear hwz
    obtain ⟨⟨wr, hr, Cr⟩, P1⟩ := hcut.out
    have HR := keepH hr
    have HC := keepH Cr
    have HP1 := keepH P1
    have d6 : wz.cell? ⟨p, 6, none⟩ = some (.int .u64 (x : Int)) := P1.cell 6
    clear hcut hr Cr P1 HS0 HP HL
    go_wp2_with fail
    obtain ⟨kk, hkk⟩ : ∃ kk, kk = x % 4 := ⟨_, rfl⟩
    obtain ⟨gg, hgg⟩ : ∃ gg, gg = x / 4 % 1048576 := ⟨_, rfl⟩
    obtain ⟨ss, hss⟩ : ∃ ss, ss = x / 4194304 := ⟨_, rfl⟩
    refine (w_unpack x kk gg ss hx hkk hgg hss _).mono ?_
    rintro e w5 ⟨rfl, C5⟩
    have HKG : Hid (kk = x % 4 ∧ gg = x / 4 % 1048576) := ⟨hkk, hgg⟩
    have HP5 := keepH (HP1.out.chg C5 (fun x => x))
    have HC5 := keepH (HC.out.pf C5)
    clear hkk hgg hss C5 HC HP1 d6
    have HZ : Hid (p < w5.heap.size) := lt_of HP5.out
    obtain ⟨w6, hw6⟩ : ∃ w6, w6 = w5.alloc (.cells #[.int .u8 (kk : Int), .int .u64 (gg : Int), .int .u64 (ss : Int)] 46) := ⟨_, rfl⟩
    have B6 : w6.heap[w5.heap.size]? = some (.cells #[.int .u8 (kk : Int), .int .u64 (gg : Int), .int .u64 (ss : Int)] 46 (0, 0)) := by rw [hw6]; exact heap_alloc_new _ _
    have C56 : Chg (fun _ => False) w5 w6 := by rw [hw6]; exact (Chg.refl _ _).alloc _
    go_upto_region 2 with fail
    rw [← hw6]
    clear hw6
    obtain ⟨sb, hsb⟩ : ∃ sb, sb = w5.heap.size := ⟨_, rfl⟩
    rw [← hsb] at B6 HZ ⊢
    clear hsb
    have P6 := HP5.out.chg C56 (fun x => x)
    have HC6 := keepH (HC5.out.pf C56)
    have b1 : w6.cell? ⟨sb, 1, none⟩ = some (.int .u64 (gg : Int)) := cell_of B6 1
    have d7 : w6.cell? ⟨p, 7, none⟩ = some (.int .u64 (gen : Int)) := P6.cell 7
    have f7 := P6.free 7
    have P7 := P6.set 7 (.int .u64 (gg : Int))
    obtain ⟨w7, hw7⟩ : ∃ w7, w7 = w6.setCell ⟨p, 7, none⟩ (.int .u64 (gg : Int)) := ⟨_, rfl⟩
    have C67 : Chg (fun k => k = p) w6 w7 := by rw [hw7]; exact setP _
    rw [← hw7] at P7
    have B7 := (C67.block sb (lt_of B6) (fun e => by have := HZ.out; omega)).trans B6
    have HP7 := keepH P7
    have HB7 := keepH B7
    have HC7 := keepH (HC6.out.p C67)
    have HT0 : Hid (w7.cell? ⟨sb, 0, none⟩ = some (.int .u8 (kk : Int)) ∧ w7.cell? ⟨sb, 1, none⟩ = some (.int .u64 (gg : Int)) ∧ w7.cell? ⟨sb, 2, none⟩ = some (.int .u64 (ss : Int)) ∧ w7.cell? ⟨p, 7, none⟩ = some (.int .u64 (gg : Int))) := ⟨cell_of B7 0, cell_of B7 1, cell_of B7 2, P7.cell 7⟩
    go_upto_region 3 with fail
    rw [← hw7]
    clear hw7 b1 d7 f7 P6 P7 B6 B7 C56 C67 HC5 HC6 HP5
    have HC : Hid (Chg (fun _ => False) w7 w7.drew) := (Chg.refl (fun _ => False) w7).drew
    have rs : decide (kk = 0 ∧ gg = gg) = true := by have := HKG.out; simp; omega
    have lt : (gg : Int) < 1048575 := by have := HKG.out; omega
    clear hk hg
    go_region_held3 (fun w' => w'.cell? ⟨sb, 0, none⟩ = some (.int .u8 (kk : Int)) ∧ w'.cell? ⟨sb, 1, none⟩ = some (.int .u64 (gg : Int)) ∧ w'.cell? ⟨sb, 2, none⟩ = some (.int .u64 (ss : Int)) ∧ w'.cell? ⟨p, 7, none⟩ = some (.int .u64 (gg : Int))) (first | exact HT0.out | exact hT5) (first | (go_at_call 96; refine (a_says kk gg ss 0 gg _).mono ?_; rintro e w8 ⟨rfl, C8⟩; rw [rs]; replace HC : Hid (Chg (fun _ => False) w7 w8) := HC.out.f C8; have P8 := HP7.out.chg HC.out (fun x => x); have B8 := (HC.out.block sb (lt_of HB7.out) (fun x => x)).trans HB7.out; have hT5 : w8.cell? ⟨sb, 0, none⟩ = some (.int .u8 (kk : Int)) ∧ w8.cell? ⟨sb, 1, none⟩ = some (.int .u64 (gg : Int)) ∧ w8.cell? ⟨sb, 2, none⟩ = some (.int .u64 (ss : Int)) ∧ w8.cell? ⟨p, 7, none⟩ = some (.int .u64 (gg : Int)) := ⟨cell_of B8 0, cell_of B8 1, cell_of B8 2, P8.cell 7⟩; have HP8 := keepH P8; clear C8 P8 B8))
    all_goals (
      have c4 : w8.cell? ⟨p, 4, none⟩ = some (.int .u8 1) := HP8.out.cell 4
      have f4 := HP8.out.free 4
      clear rs lt
      go_wp2_with fail
      refine bodyPost_ret (results_none rfl _ _ _) rfl ⟨rfl, ⟨wr, HR.out, (HC7.out.pf HC.out).p (setP _)⟩, ?_⟩
      have z := HP8.out.set 4 (.int .u8 2)
      rw [HKG.out.2] at z
      exact z)

end Go.Proofs.YtlgkioaomcobdaaGreat
