/- The trie's Put: hanging its leaf. -/
import Derived.Test.YtokooplfjibneaaGreatTe
namespace Go.Proofs.YtokooplfjibneaaGreat
open Go.RowKit Go.Shelf
set_option linter.unusedVariables false

/-- A change that is about to swap. -/
def Swaps (W w : World) (p : Nat) (t : TypeId) (cam key mixd obj lvl : Nat) (rd : Value) (wd lf ly : Nat) (fd : Bool) (fx : Nat) (no ot sa : Value) (ad : Bool) (ax x : Nat) (lp th fk : Value) (now : Nat) : Prop :=
  ∃ c, W.heap.size ≤ c ∧ Blk w c 172 (fndL cam 0 0 (.pointer none) obj 0 0 (rest0 wd now)) ∧ Blk w p t (wayL cam key mixd obj lvl rd wd lf ly fd fx (fnV 82 p) no ot sa ad ax (putR x lp th fk (.pointer (some ⟨c, 0, none⟩)))) ∧ Chg (fun k => k = p) W w
set_option maxRecDepth 100000 in
set_option maxHeartbeats 2000000 in
theorem swap_any {W : World} {p : Nat} {t : TypeId} {cam key mixd obj lvl wd lf ly fx ax x : Nat} {rd nx no ot sa lp th fk cp : Value} {fd ad : Bool} (hp : Blk W p t (wayL cam key mixd obj lvl rd wd lf ly fd fx nx no ot sa ad ax (putR x lp th fk cp))) (now : Nat) :
    Calls Tryz.prog 65 #[.pointer (some ⟨p, 0, none⟩), .int .u64 (now : Int)] W fun e w => e = .returned (.tuple #[]) ∧ Swaps W w p t cam key mixd obj lvl rd wd lf ly fd fx no ot sa ad ax x lp th fk now := by
  have hmf : ∀ (fn : Fn) (first cap : Array Value) (w : World), (Instr.makeFunc fn first cap).run Tryz.prog w = .ok (.func fn first cap) w := fun _ _ _ _ => rfl
  have c0 : W.cell? ⟨p, 0, none⟩ = some (.int .u64 (cam : Int)) := hp.cell 0
  have c3 : W.cell? ⟨p, 3, none⟩ = some (.int .u64 (obj : Int)) := hp.cell 3
  have c6 : W.cell? ⟨p, 6, none⟩ = some (.int .u64 (wd : Int)) := hp.cell 6
  have HP := keepH hp
  have HPl : Hid (p < W.heap.size) := lt_of hp
  have HS0 : Hid (W.cell? ⟨p, 0, none⟩ = some (.int .u64 (cam : Int)) ∧ W.cell? ⟨p, 3, none⟩ = some (.int .u64 (obj : Int)) ∧ W.cell? ⟨p, 6, none⟩ = some (.int .u64 (wd : Int))) := ⟨c0, c3, c6⟩
  clear hp
  go_enter Tryz.func65, Tryz.ntmps65
  go_upto_region 0 with fail
  go_cut [] from 4 to 23 (fun wz => Hid (∃ c, W.heap.size ≤ c ∧ Blk wz c 172 (fndL cam 0 0 (.pointer none) obj 0 0 (rest0 wd now)) ∧ Blk wz p t (wayL cam key mixd obj lvl rd wd lf ly fd fx nx no ot sa ad ax (putR x lp th fk (.pointer (some ⟨c, 0, none⟩)))) ∧ Chg (fun k => k = p) W wz))
  case first =>
    go_region_held3 (fun w' => w'.cell? ⟨p, 0, none⟩ = some (.int .u64 (cam : Int)) ∧ w'.cell? ⟨p, 3, none⟩ = some (.int .u64 (obj : Int)) ∧ w'.cell? ⟨p, 6, none⟩ = some (.int .u64 (wd : Int))) (first | exact HS0.out | exact hS5 | exact hS6)
      (first | (go_at_call 81; refine (cs_new cam obj wd now _).mono ?_; rintro e w2 ⟨c, hc, rfl, B2, C2, S2⟩; have CW : Chg (fun _ => False) W w2 := (Chg.refl (fun _ => False) W).drew.trans C2 (fun _ _ x => x) (fun _ _ x => x); have P2 := HP.out.chg CW (fun x => x); have P3 := P2.set 31 (.pointer (some ⟨c, 0, none⟩)); have hS6 : (w2.setCell ⟨p, 31, none⟩ (.pointer (some ⟨c, 0, none⟩))).cell? ⟨p, 0, none⟩ = some (.int .u64 (cam : Int)) ∧ (w2.setCell ⟨p, 31, none⟩ (.pointer (some ⟨c, 0, none⟩))).cell? ⟨p, 3, none⟩ = some (.int .u64 (obj : Int)) ∧ (w2.setCell ⟨p, 31, none⟩ (.pointer (some ⟨c, 0, none⟩))).cell? ⟨p, 6, none⟩ = some (.int .u64 (wd : Int)) := ⟨P3.cell 0, P3.cell 3, P3.cell 6⟩; have hS5 : w2.cell? ⟨p, 0, none⟩ = some (.int .u64 (cam : Int)) ∧ w2.cell? ⟨p, 3, none⟩ = some (.int .u64 (obj : Int)) ∧ w2.cell? ⟨p, 6, none⟩ = some (.int .u64 (wd : Int)) := ⟨P2.cell 0, P2.cell 3, P2.cell 6⟩; have e31 : w2.cell? ⟨p, 31, none⟩ = some cp := P2.cell 31; have g31 := P2.free 31; have HP2 := keepH P2; have HB2 := keepH B2; have HC2 := keepH CW; have Hc : Hid (W.heap.size ≤ c) := hc; clear P2 P3 B2 C2 CW S2 hc))
    all_goals (try go_wp2_with fail)
    all_goals go_meet
    all_goals (exact keepH ⟨c, Hc.out, (Below.heap_setCell _ _ _ _ (by show _ ≠ p; have := HPl.out; have := Hc.out; omega)).trans HB2.out, HP2.out.set 31 _, (HC2.out.trans (setP _) (fun _ _ x => x.elim) (fun _ _ x => x))⟩)
  case rest =>
    obtain ⟨wz, hwz⟩ : ∃ wz, wz = wc := ⟨_, rfl⟩
    rw [← hwz] at hcut ⊢
    clear hwz
    obtain ⟨c, hc, B1, P1, C1⟩ := hcut.out
    have HB1 := keepH B1
    have HP1 := keepH P1
    have HC1 := keepH C1
    have HG : Hid (W.heap.size ≤ c ∧ p < W.heap.size) := ⟨hc, HPl.out⟩
    clear hcut hc B1 P1 C1 c0 c3 c6
    have d16 : wz.cell? ⟨p, 16, none⟩ = some nx := HP1.out.cell 16
    have f16 := HP1.out.free 16
    go_wp2_with fail
    go_end0
    have hne : c ≠ p := by have := HG.out; omega
    exact ⟨rfl, c, HG.out.1, (Below.heap_setCell _ _ _ _ hne).trans HB1.out, HP1.out.set 16 _, HC1.out.trans (setP _) (fun _ _ x => x) (fun _ _ x => x)⟩
end Go.Proofs.YtokooplfjibneaaGreat
