/- Vcas's procs that are nil, and on a nil view. -/
import Derived.Test.YtmhflmjhphhppabVv
import Derived.Test.YtmhflmjhphhppabNils
namespace Go.Proofs.Ytmhflmjhphhppab
open Go.RowKit Go.Shelf
set_option linter.unusedVariables false

set_option maxRecDepth 100000 in
theorem nil_initstep (v : Value) (W : World) : Calls Try.prog 9 #[.pointer none, v] W fun e W' => e = .returned (.bool true) ∧ W' = W := by
  go_enter Try.func9, Try.ntmps9
  go_wp2_with fail
  go_ret
  exact ⟨by simp, rfl⟩
set_option maxRecDepth 100000 in
theorem nil_readstep (v : Value) (W : World) : Calls Try.prog 10 #[.pointer none, v] W fun e W' => e = .returned (.bool true) ∧ W' = W := by
  go_enter Try.func10, Try.ntmps10
  go_wp2_with fail
  go_ret
  exact ⟨by simp, rfl⟩
set_option maxRecDepth 100000 in
theorem nil_casstep (v : Value) (W : World) : Calls Try.prog 11 #[.pointer none, v] W fun e W' => e = .returned (.bool true) ∧ W' = W := by
  go_enter Try.func11, Try.ntmps11
  go_wp2_with fail
  go_ret
  exact ⟨by simp, rfl⟩
set_option maxRecDepth 100000 in
theorem nil_atstep (v : Value) (W : World) : Calls Try.prog 12 #[.pointer none, v] W fun e W' => e = .returned (.bool true) ∧ W' = W := by
  go_enter Try.func12, Try.ntmps12
  go_wp2_with fail
  go_ret
  exact ⟨by simp, rfl⟩
set_option maxRecDepth 100000 in
theorem nil_readvalue (W : World) : Calls Try.prog 13 #[.pointer none] W fun e W' => e = .returned (.int .u64 0) ∧ W' = W := by
  go_enter Try.func13, Try.ntmps13
  go_wp2_with fail
  go_ret
  exact ⟨by simp, rfl⟩
set_option maxRecDepth 100000 in
theorem nil_atvalue (W : World) : Calls Try.prog 16 #[.pointer none] W fun e W' => e = .returned (.int .u64 0) ∧ W' = W := by
  go_enter Try.func16, Try.ntmps16
  go_wp2_with fail
  go_ret
  exact ⟨by simp, rfl⟩
set_option maxRecDepth 100000 in
theorem nil_casdone (W : World) : Calls Try.prog 14 #[.pointer none] W fun e W' => e = .returned (.bool false) ∧ W' = W := by
  go_enter Try.func14, Try.ntmps14
  go_wp2_with fail
  go_ret
  exact ⟨by simp, rfl⟩
set_option maxRecDepth 100000 in
theorem nil_caserrno (W : World) : Calls Try.prog 15 #[.pointer none] W fun e W' => e = .returned (.int .i64 1) ∧ W' = W := by
  go_enter Try.func15, Try.ntmps15
  go_wp2_with fail
  go_ret
  exact ⟨by simp, rfl⟩
set_option maxRecDepth 100000 in
theorem n_stepnil (p cell st : Nat) (W : World) (hp : IsNow W p cell 0 st) : Calls Try.prog 82 #[.pointer (some ⟨p, 0, none⟩), .pointer none] W fun e W' => e = .returned (.bool true) ∧ IsNow W' p cell 2 0 ∧ Chg (fun k => k = p) W W' := by
  have c0 : W.cell? ⟨p, 0, none⟩ = some (.int .u64 (cell : Int)) := cell_of hp 0
  have c1 : W.cell? ⟨p, 1, none⟩ = some (.int .u8 0) := cell_of hp 1
  have c2 : W.cell? ⟨p, 2, none⟩ = some (.int .u64 (st : Int)) := cell_of hp 2
  have f2 := free_of hp 2
  have P2 := keepH (set_of hp 2 (.int .u64 0))
  have f1 := free_of P2.out 1
  have HP := keepH hp
  clear hp
  go_enter Try.func82, Try.ntmps82
  go_wp2_with fail
  refine (nil_vload (cell : Int) _).mono ?_
  rintro e w1 ⟨rfl, rfl⟩
  go_wp2_with fail
  go_ret
  refine ⟨by simp, set_of P2.out 1 _, ?_⟩
  exact Chg.setCell (F := fun k => k = p) (p := ⟨p, 1, none⟩) (Chg.setCell (F := fun k => k = p) (p := ⟨p, 2, none⟩) (Chg.refl _ _) (fun _ => rfl) _) (fun _ => rfl) _


theorem rd_nv {W : World} {p cam obj : Nat} (h : Blk W p 109 (r0L cam obj)) : Calls Try.prog 10 #[.pointer (some ⟨p, 0, none⟩), .pointer none] W fun e W' => e = .returned (.bool true) ∧ Blk W' p 109 (fndL cam 0 0 (.pointer none) obj 2 0 [.int .u8 2, .int .u64 0]) ∧ Chg (fun k => k = p) W W' := by
  have hF := find_load (c := 0) h (.pointer none) (fun w => w = W) (nil_vload _ W) (fun x hx => by subst hx; exact h)
  have hR := read_find0 h rfl (.pointer none) _ hF (fun y hy => by
    obtain ⟨x, hx, B, C⟩ := hy
    exact ⟨_, B, rfl, rfl⟩)
  refine (readstep_any (.pointer none) true _ hR).mono ?_
  rintro e w' ⟨rfl, y, ⟨x, rfl, B, C⟩, rfl⟩
  exact ⟨rfl, (B.set 7 _).set 7 _, (C.trans (setP _) (fun _ _ x => x) (fun _ _ x => x)).trans (setP _) (fun _ _ x => x) (fun _ _ x => x)⟩
theorem at_nv {W : World} {p cam obj st : Nat} (h : Blk W p 115 (fndL cam 0 0 (.pointer none) obj 0 0 [.int .u64 (st : Int), .int .u8 0, .int .u64 0])) : Calls Try.prog 12 #[.pointer (some ⟨p, 0, none⟩), .pointer none] W fun e W' => e = .returned (.bool true) ∧ Blk W' p 115 (fndL cam 0 0 (.pointer none) obj 2 0 [.int .u64 (st : Int), .int .u8 4, .int .u64 0]) ∧ Chg (fun k => k = p) W W' := by
  have hF := find_load (c := 0) h (.pointer none) (fun w => w = W) (nil_vload _ W) (fun x hx => by subst hx; exact h)
  refine (at_head0 h rfl (.pointer none) _ hF (fun y hy => by
    obtain ⟨x, hx, B, C⟩ := hy
    exact ⟨_, B, rfl, rfl⟩)).mono ?_
  rintro e w' ⟨rfl, y, ⟨x, rfl, B, C⟩, rfl⟩
  exact ⟨rfl, (B.set 8 _).set 8 _, (C.trans (setP _) (fun _ _ x => x) (fun _ _ x => x)).trans (setP _) (fun _ _ x => x) (fun _ _ x => x)⟩
theorem cs_nv1 {W : World} {p cam obj now : Nat} (h : Blk W p 111 (c0L cam obj now)) (hn : now ≠ 0) : Calls Try.prog 11 #[.pointer (some ⟨p, 0, none⟩), .pointer none] W fun e W' => e = .returned (.bool false) ∧ Blk W' p 111 (c1L cam obj now) ∧ Chg (fun k => k = p) W W' := by
  have hF := find_load (c := 0) h (.pointer none) (fun w => w = W) (nil_vload _ W) (fun x hx => by subst hx; exact h)
  have hR := read_find0 h rfl (.pointer none) _ hF (fun y hy => by
    obtain ⟨x, hx, B, C⟩ := hy
    exact ⟨_, B, rfl, rfl⟩)
  refine (cas_readT (x := 0) (now := now) (l2 := fndL cam 0 0 (.pointer none) obj 2 0 [.int .u8 2, .int .u64 0, .int .u64 0, .int .u64 (now : Int), .int .u8 0, .int .u64 0, .bool false, .int .i64 0]) h rfl (.pointer none) _ (Ne.symm hn) hR (fun z hz => by
    obtain ⟨y, ⟨x, hx, B, C⟩, rfl⟩ := hz
    exact (B.set 7 (.int .u8 1)).set 7 (.int .u8 2)) rfl rfl rfl rfl).mono ?_
  rintro e w' ⟨rfl, z, ⟨y, ⟨x, rfl, B, C⟩, rfl⟩, C2, B2⟩
  exact ⟨rfl, B2, ((C.trans (setP _) (fun _ _ x => x) (fun _ _ x => x)).trans (setP _) (fun _ _ x => x) (fun _ _ x => x)).trans C2 (fun _ _ x => x) (fun _ _ x => x)⟩
theorem cs_nv2 {W : World} {p cam obj now : Nat} (h : Blk W p 111 (c1L cam obj now)) : Calls Try.prog 11 #[.pointer (some ⟨p, 0, none⟩), .pointer none] W fun e W' => e = .returned (.bool true) ∧ Blk W' p 111 (((((c1L cam obj now).set 11 (.int .u8 2)).set 12 (.int .u64 ((0 : Nat) : Int))).set 14 (.int .i64 30)).set 11 (.int .u8 6)) ∧ Chg (fun k => k = p) W W' := by
  have hG := grow_any (c := 0) (head := 0) (now := now) h rfl rfl ⟨_, rfl⟩ ⟨_, rfl⟩ ⟨_, rfl⟩ (.pointer none) (fun w => w = (W.setCell ⟨p, 11, none⟩ (.int .u8 2)).drew.alloc (.cells ([now, 0, 0].map u64V).toArray 22)) (fun W1 hW1 => by
    subst hW1
    exact nil_valloc _ _ _ _) (fun x hx => by
    subst hx
    exact alloc_of (W := (W.setCell ⟨p, 11, none⟩ (.int .u8 2)).drew) (h.set 11 _) _)
  refine (cas_grow0 h rfl (.pointer none) _ hG (fun x hx => by
    obtain ⟨y, hy, C, B⟩ := hx
    rw [if_pos rfl] at B
    exact ⟨_, B, rfl⟩)).mono ?_
  rintro e w' ⟨rfl, y, rfl, C, B⟩
  rw [if_pos rfl] at B
  exact ⟨rfl, B, ((setP (W := W) (i := 11) (.int .u8 2)).drew.alloc _).trans C (fun _ _ x => x) (fun _ _ x => x)⟩
theorem in_nv1 {W : World} {p cam ver : Nat} (h : Blk W p 103 (stpL cam ver 0 (.pointer none) [])) : Calls Try.prog 9 #[.pointer (some ⟨p, 0, none⟩), .pointer none] W fun e W' => e = .returned (.bool false) ∧ Blk W' p 103 (stpL cam ver 1 (.pointer (some ⟨W.heap.size, 0, none⟩)) []) ∧ IsNow W' W.heap.size cam 0 0 ∧ Chg (fun k => k = p) W W' := by
  have hT := tell_load0 h ⟨_, rfl⟩ (.pointer none) ((ver + 1) % 18446744073709551616) rfl (fun w => w = W.setCell ⟨p, 2, none⟩ (.int .u8 3)) (fun W1 hW1 => by subst hW1; exact nil_vload _ _) (fun x hx => by subst hx; exact h.set 2 _)
  refine (initstep_any (.pointer none) false _ hT).mono ?_
  rintro e w' ⟨rfl, x, rfl, rfl⟩
  have hp := lt_of h
  have hz : (W.setCell ⟨p, 2, none⟩ (.int .u8 3)).heap.size = W.heap.size := by simp [World.setCell]
  have B3 : Blk ((W.setCell ⟨p, 2, none⟩ (.int .u8 3)).alloc (nowO cam)) p 103 _ := alloc_of (h.set 2 (.int .u8 3)) _
  have N : IsNow ((W.setCell ⟨p, 2, none⟩ (.int .u8 3)).alloc (nowO cam)) W.heap.size cam 0 0 := by
    have e := heap_alloc_new (W.setCell ⟨p, 2, none⟩ (.int .u8 3)) (nowO cam)
    rw [hz] at e
    exact e
  rw [hz]
  refine ⟨rfl, (B3.set 3 _).set 2 _, (Below.heap_setCell _ _ _ _ (by show _ ≠ p; omega)).trans ((Below.heap_setCell _ _ _ _ (by show _ ≠ p; omega)).trans N), (((setP (W := W) (p := p) (i := 2) (.int .u8 3)).alloc _).trans (setP _) (fun _ _ x => x) (fun _ _ x => x)).trans (setP _) (fun _ _ x => x) (fun _ _ x => x)⟩
theorem in_nv2 {W : World} {p q cam ver : Nat} (h : Blk W p 103 (stpL cam ver 1 (.pointer (some ⟨q, 0, none⟩)) [])) (hq : IsNow W q cam 0 0) (hne : p ≠ q) : Calls Try.prog 9 #[.pointer (some ⟨p, 0, none⟩), .pointer none] W fun e W' => e = .returned (.bool false) ∧ Blk W' p 103 (stpL cam ver 2 (.pointer (some ⟨q, 0, none⟩)) []) ∧ IsNow W' q cam 2 0 ∧ Chg (fun k => k = p ∨ k = q) W W' := by
  have hT := tell_now h (.pointer none) (fun w => IsNow w q cam 2 0 ∧ Chg (fun k => k = q) W w) (n_stepnil q cam 0 W hq) (fun x hx => h.chg hx.2 hne)
  refine (initstep_any (.pointer none) false _ hT).mono ?_
  rintro e w' ⟨rfl, x, ⟨N, C⟩, rfl⟩
  exact ⟨rfl, (h.chg C hne).set 2 _, (Below.heap_setCell _ _ _ _ (Ne.symm hne)).trans N, C.trans (setP _) (fun _ _ x => .inr x) (fun _ _ x => .inl x)⟩
theorem in_nv3 {W : World} {p q cam ver : Nat} (h : Blk W p 103 (stpL cam ver 2 (.pointer (some ⟨q, 0, none⟩)) [])) (hq : IsNow W q cam 2 0) : Calls Try.prog 9 #[.pointer (some ⟨p, 0, none⟩), .pointer none] W fun e W' => e = .returned (.bool true) ∧ Chg (fun k => k = p) W W' := by
  have hT := tell_cas h hq (.pointer none) ((ver + 1) % 18446744073709551616) rfl (fun w => w = W.drew) ((nil_vcas _ _ _ W.drew).mono (by
    rintro e x ⟨rfl, rfl⟩
    exact ⟨⟨_, rfl⟩, rfl⟩)) (fun x hx => by subst hx; exact h)
  refine (initstep_any (.pointer none) true _ hT).mono ?_
  rintro e w' ⟨rfl, x, rfl, rfl⟩
  exact ⟨rfl, (Chg.refl (fun k => k = p) W).drew.setCell (fun _ => rfl) _⟩
end Go.Proofs.Ytmhflmjhphhppab
