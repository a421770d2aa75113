/- The trie's Put: its leaf, and the Cas. -/
import Derived.Test.YtokooplfjibneaaGreatTd
import Derived.Deep.RegionHeld3
namespace Go.Proofs.YtokooplfjibneaaGreat
open Go.RowKit Go.Shelf
set_option linter.unusedVariables false

theorem cell_al {w : World} {a : Addr} {v : Value} (h : w.cell? a = some v) (o : Obj) : (w.alloc o).cell? a = some v := (World.cell?_alloc_some w a o (by rw [h]; rfl)).trans h
theorem cell_dr {w : World} {a : Addr} {v : Value} (h : w.cell? a = some v) : w.drew.cell? a = some v := h
def putR (x : Nat) (lp th fk cp : Value) : List Value := [.int .u64 (x : Int), lp, th, fk, cp]
def leafO (key x : Nat) : Obj := .cells #[.bool false, .int .i64 0, .int .u64 (key : Int), .int .u64 (x : Int), .int .u64 0] 157
set_option maxRecDepth 100000 in
set_option maxHeartbeats 1000000 in
theorem with_leaf {W : World} {p : Nat} {t : TypeId} {cam key mixd obj lvl wd lf ly fx ax x : Nat} {rd nx no ot sa th fk cp : Value} {fd ad : Bool} (hp : Blk W p t (wayL cam key mixd obj lvl rd wd lf ly fd fx nx no ot sa ad ax (putR x (.pointer none) th fk cp))) (f : Nat) :
    Calls Tryz.prog 52 #[.pointer (some ⟨p, 0, none⟩), fnV f p] W fun e w => e = .returned (.tuple #[]) ∧ Chg (fun k => k = p) W w ∧ (∃ g, W.heap.size ≤ g ∧ IsLeaf w g false 0 key x 0 ∧ Blk w p t (wayL cam key mixd obj lvl rd wd lf ly fd fx (fnV 64 p) no ot sa ad ax (putR x (.pointer (some ⟨g, 0, none⟩)) (fnV f p) fk cp))) := by
  have hmf : ∀ (fn : Fn) (first cap : Array Value) (w : World), (Instr.makeFunc fn first cap).run Tryz.prog w = .ok (.func fn first cap) w := fun _ _ _ _ => rfl
  unfold fnV
  have c28 : W.cell? ⟨p, 28, none⟩ = some (.pointer none) := hp.cell 28
  have c1 : W.cell? ⟨p, 1, none⟩ = some (.int .u64 (key : Int)) := hp.cell 1
  have c27 : W.cell? ⟨p, 27, none⟩ = some (.int .u64 (x : Int)) := hp.cell 27
  have HP := keepH hp
  obtain ⟨w1, hw1⟩ : ∃ w1, w1 = W.drew := ⟨_, rfl⟩
  have HPl : Hid (p < W.heap.size) := lt_of hp
  have B1 : Blk (W.alloc (leafO key x)) p t (wayL cam key mixd obj lvl rd wd lf ly fd fx nx no ot sa ad ax (putR x (.pointer none) th fk cp)) := alloc_of hp _
  have e28 : (W.alloc (leafO key x)).cell? ⟨p, 28, none⟩ = some (.pointer none) := B1.cell 28
  have f28 : (W.alloc (leafO key x)).frozen? ⟨p, 28, none⟩ = false := B1.free 28
  unfold leafO at e28 f28
  clear hp hw1 B1
  go_enter Tryz.func52, Tryz.ntmps52
  go_upto_region 2 with fail
  go_cut [] from 11 to 23 (fun wz => Hid (∃ g, W.heap.size ≤ g ∧ IsLeaf wz g false 0 key x 0 ∧ Blk wz p t (wayL cam key mixd obj lvl rd wd lf ly fd fx nx no ot sa ad ax (putR x (.pointer (some ⟨g, 0, none⟩)) th fk cp)) ∧ Chg (fun k => k = p) W wz))
  case first =>
    go_region_with (go_at_call 63; refine (leaf_new key x _).mono ?_; rintro e w2 ⟨rfl, rfl⟩)
    all_goals (try go_wp2_with fail)
    all_goals go_meet
    all_goals (exact keepH ⟨W.heap.size, Nat.le_refl _, (Below.heap_setCell _ _ _ _ (by show _ ≠ p; have := HPl.out; omega)).trans (heap_alloc_new _ _), (show Blk (W.alloc (leafO key x)) p t _ from alloc_of HP.out _).set 28 _, ((Chg.refl (fun k => k = p) W).alloc _).trans (setP _) (fun _ _ x => x) (fun _ _ x => x) |>.drew⟩)
  case rest =>
    obtain ⟨wz, hwz⟩ : ∃ wz, wz = wc := ⟨_, rfl⟩
    rw [← hwz] at hcut ⊢
    clear hwz
    obtain ⟨g, hg, L1, P1, C1⟩ := hcut.out
    have HL1 := keepH L1
    have HP1 := keepH P1
    have HC1 := keepH C1
    have HG : Hid (W.heap.size ≤ g ∧ p < W.heap.size) := ⟨hg, HPl.out⟩
    clear hcut hg L1 P1 C1 e28 f28 c28 c1 c27
    have d29 : wz.cell? ⟨p, 29, none⟩ = some th := HP1.out.cell 29
    have f29 := HP1.out.free 29
    have P2 := keepH (HP1.out.set 29 (.func (.func f) #[.pointer (some ⟨p, 0, none⟩)] #[]))
    have d16 : (wz.setCell ⟨p, 29, none⟩ (.func (.func f) #[.pointer (some ⟨p, 0, none⟩)] #[])).cell? ⟨p, 16, none⟩ = some nx := P2.out.cell 16
    have f16 := P2.out.free 16
    go_wp2_with fail
    go_end0
    have hne : g ≠ p := by have := HG.out; omega
    refine ⟨rfl, (HC1.out.trans (setP _) (fun _ _ x => x) (fun _ _ x => x)).trans (setP _) (fun _ _ x => x) (fun _ _ x => x), g, HG.out.1, (Below.heap_setCell _ _ _ _ hne).trans ((Below.heap_setCell _ _ _ _ hne).trans HL1.out), P2.out.set 16 _⟩
end Go.Proofs.YtokooplfjibneaaGreat
