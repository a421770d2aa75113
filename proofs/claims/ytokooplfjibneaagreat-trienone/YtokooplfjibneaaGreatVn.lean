/- Vcas's procs that are nil, and on a nil view. -/
import Derived.Test.YtokooplfjibneaaGreatVv
import Derived.Test.YtokooplfjibneaaGreatNils
namespace Go.Proofs.YtokooplfjibneaaGreat
open Go.RowKit Go.Shelf
set_option linter.unusedVariables false

set_option maxRecDepth 100000 in
theorem nil_readstep (v : Value) (W : World) : Calls Tryz.prog 74 #[.pointer none, v] W fun e W' => e = .returned (.bool true) ∧ W' = W := by
  go_enter Tryz.func74, Tryz.ntmps74
  go_wp2_with fail
  go_ret
  exact ⟨by simp, rfl⟩
set_option maxRecDepth 100000 in
theorem nil_casstep (v : Value) (W : World) : Calls Tryz.prog 95 #[.pointer none, v] W fun e W' => e = .returned (.bool true) ∧ W' = W := by
  go_enter Tryz.func95, Tryz.ntmps95
  go_wp2_with fail
  go_ret
  exact ⟨by simp, rfl⟩
set_option maxRecDepth 100000 in
theorem nil_readvalue (W : World) : Calls Tryz.prog 75 #[.pointer none] W fun e W' => e = .returned (.int .u64 0) ∧ W' = W := by
  go_enter Tryz.func75, Tryz.ntmps75
  go_wp2_with fail
  go_ret
  exact ⟨by simp, rfl⟩
set_option maxRecDepth 100000 in
theorem nil_casdone (W : World) : Calls Tryz.prog 97 #[.pointer none] W fun e W' => e = .returned (.bool false) ∧ W' = W := by
  go_enter Tryz.func97, Tryz.ntmps97
  go_wp2_with fail
  go_ret
  exact ⟨by simp, rfl⟩
set_option maxRecDepth 100000 in
theorem nil_caserrno (W : World) : Calls Tryz.prog 96 #[.pointer none] W fun e W' => e = .returned (.int .i64 1) ∧ W' = W := by
  go_enter Tryz.func96, Tryz.ntmps96
  go_wp2_with fail
  go_ret
  exact ⟨by simp, rfl⟩
set_option maxRecDepth 100000 in
theorem n_stepnil (p cell st : Nat) (W : World) (hp : IsNow W p cell 0 st) : Calls Tryz.prog 111 #[.pointer (some ⟨p, 0, none⟩), .pointer none] W fun e W' => e = .returned (.bool true) ∧ IsNow W' p cell 2 0 ∧ Chg (fun k => k = p) W W' := by
  have c0 : W.cell? ⟨p, 0, none⟩ = some (.int .u64 (cell : Int)) := cell_of hp 0
  have c1 : W.cell? ⟨p, 1, none⟩ = some (.int .u8 0) := cell_of hp 1
  have c2 : W.cell? ⟨p, 2, none⟩ = some (.int .u64 (st : Int)) := cell_of hp 2
  have f2 := free_of hp 2
  have P2 := keepH (set_of hp 2 (.int .u64 0))
  have f1 := free_of P2.out 1
  have HP := keepH hp
  clear hp
  go_enter Tryz.func111, Tryz.ntmps111
  go_wp2_with fail
  refine (nil_vload (cell : Int) _).mono ?_
  rintro e w1 ⟨rfl, rfl⟩
  go_wp2_with fail
  go_ret
  refine ⟨by simp, set_of P2.out 1 _, ?_⟩
  exact Chg.setCell (F := fun k => k = p) (p := ⟨p, 1, none⟩) (Chg.setCell (F := fun k => k = p) (p := ⟨p, 2, none⟩) (Chg.refl _ _) (fun _ => rfl) _) (fun _ => rfl) _


theorem rd_nv {W : World} {p cam obj : Nat} (h : Blk W p 150 (r0L cam obj)) : Calls Tryz.prog 74 #[.pointer (some ⟨p, 0, none⟩), .pointer none] W fun e W' => e = .returned (.bool true) ∧ Blk W' p 150 (fndL cam 0 0 (.pointer none) obj 2 0 [.int .u8 2, .int .u64 0]) ∧ Chg (fun k => k = p) W W' := by
  have hF := find_load (c := 0) h (.pointer none) (fun w => w = W) (nil_vload _ W) (fun x hx => by subst hx; exact h)
  have hR := read_find0 h rfl (.pointer none) _ hF (fun y hy => by
    obtain ⟨x, hx, B, C⟩ := hy
    exact ⟨_, B, rfl, rfl⟩)
  refine (readstep_any (.pointer none) true _ hR).mono ?_
  rintro e w' ⟨rfl, y, ⟨x, rfl, B, C⟩, rfl⟩
  exact ⟨rfl, (B.set 7 _).set 7 _, (C.trans (setP _) (fun _ _ x => x) (fun _ _ x => x)).trans (setP _) (fun _ _ x => x) (fun _ _ x => x)⟩
theorem cs_nv1 {W : World} {p cam obj now : Nat} (h : Blk W p 172 (c0L cam obj now)) (hn : now ≠ 0) : Calls Tryz.prog 95 #[.pointer (some ⟨p, 0, none⟩), .pointer none] W fun e W' => e = .returned (.bool false) ∧ Blk W' p 172 (c1L cam obj now) ∧ Chg (fun k => k = p) W W' := by
  have hF := find_load (c := 0) h (.pointer none) (fun w => w = W) (nil_vload _ W) (fun x hx => by subst hx; exact h)
  have hR := read_find0 h rfl (.pointer none) _ hF (fun y hy => by
    obtain ⟨x, hx, B, C⟩ := hy
    exact ⟨_, B, rfl, rfl⟩)
  refine (cas_readT (x := 0) (now := now) (l2 := fndL cam 0 0 (.pointer none) obj 2 0 [.int .u8 2, .int .u64 0, .int .u64 0, .int .u64 (now : Int), .int .u8 0, .int .u64 0, .bool false, .int .i64 0]) h rfl (.pointer none) _ (Ne.symm hn) hR (fun z hz => by
    obtain ⟨y, ⟨x, hx, B, C⟩, rfl⟩ := hz
    exact (B.set 7 (.int .u8 1)).set 7 (.int .u8 2)) rfl rfl rfl rfl).mono ?_
  rintro e w' ⟨rfl, z, ⟨y, ⟨x, rfl, B, C⟩, rfl⟩, C2, B2⟩
  exact ⟨rfl, B2, ((C.trans (setP _) (fun _ _ x => x) (fun _ _ x => x)).trans (setP _) (fun _ _ x => x) (fun _ _ x => x)).trans C2 (fun _ _ x => x) (fun _ _ x => x)⟩
theorem cs_nv2 {W : World} {p cam obj now : Nat} (h : Blk W p 172 (c1L cam obj now)) : Calls Tryz.prog 95 #[.pointer (some ⟨p, 0, none⟩), .pointer none] W fun e W' => e = .returned (.bool true) ∧ Blk W' p 172 (((((c1L cam obj now).set 11 (.int .u8 2)).set 12 (.int .u64 ((0 : Nat) : Int))).set 14 (.int .i64 30)).set 11 (.int .u8 6)) ∧ Chg (fun k => k = p) W W' := by
  have hG := grow_any (c := 0) (head := 0) (now := now) h rfl rfl ⟨_, rfl⟩ ⟨_, rfl⟩ ⟨_, rfl⟩ (.pointer none) (fun w => w = (W.setCell ⟨p, 11, none⟩ (.int .u8 2)).drew.alloc (.cells ([now, 0, 0].map u64V).toArray 22)) (fun W1 hW1 => by
    subst hW1
    exact nil_valloc _ _ _ _) (fun x hx => by
    subst hx
    exact alloc_of (W := (W.setCell ⟨p, 11, none⟩ (.int .u8 2)).drew) (h.set 11 _) _)
  refine (cas_grow0 h rfl (.pointer none) _ hG (fun x hx => by
    obtain ⟨y, hy, C, B⟩ := hx
    rw [if_pos rfl] at B
    exact ⟨_, B, rfl⟩)).mono ?_
  rintro e w' ⟨rfl, y, rfl, C, B⟩
  rw [if_pos rfl] at B
  exact ⟨rfl, B, ((setP (W := W) (i := 11) (.int .u8 2)).drew.alloc _).trans C (fun _ _ x => x) (fun _ _ x => x)⟩
end Go.Proofs.YtokooplfjibneaaGreat
