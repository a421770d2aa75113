/- Node's procs that are nil, and on a nil view. -/
import Derived.Test.YtlmfdgdmegkfdaaNdF
import Derived.Test.YtlmfdgdmegkfdaaNdS
import Derived.Test.YtlmfdgdmegkfdaaNils
namespace Go.Proofs.Ytlmfdgdmegkfdaa
open Go.RowKit Go.Shelf

set_option maxRecDepth 100000 in
theorem nil_leafstep (v : Value) (W : World) : Calls Try.prog 22 #[.pointer none, v] W fun e W' => e = .returned (.bool true) ∧ W' = W := by
  go_enter Try.func22, Try.ntmps22
  go_wp2_with fail
  go_ret
  exact ⟨by simp, rfl⟩
set_option maxRecDepth 100000 in
theorem nil_forkstep (v : Value) (W : World) : Calls Try.prog 23 #[.pointer none, v] W fun e W' => e = .returned (.bool true) ∧ W' = W := by
  go_enter Try.func23, Try.ntmps23
  go_wp2_with fail
  go_ret
  exact ⟨by simp, rfl⟩
set_option maxRecDepth 100000 in
theorem nil_lookstep (v : Value) (W : World) : Calls Try.prog 24 #[.pointer none, v] W fun e W' => e = .returned (.bool true) ∧ W' = W := by
  go_enter Try.func24, Try.ntmps24
  go_wp2_with fail
  go_ret
  exact ⟨by simp, rfl⟩
set_option maxRecDepth 100000 in
theorem nil_leafword (W : World) : Calls Try.prog 11 #[.pointer none] W fun e W' => e = .returned (.int .u64 0) ∧ W' = W := by
  go_enter Try.func11, Try.ntmps11
  go_wp2_with fail
  go_ret
  exact ⟨by simp, rfl⟩
set_option maxRecDepth 100000 in
theorem nil_forkword (W : World) : Calls Try.prog 13 #[.pointer none] W fun e W' => e = .returned (.int .u64 0) ∧ W' = W := by
  go_enter Try.func13, Try.ntmps13
  go_wp2_with fail
  go_ret
  exact ⟨by simp, rfl⟩
set_option maxRecDepth 100000 in
theorem nil_leaferrno (W : World) : Calls Try.prog 12 #[.pointer none] W fun e W' => e = .returned (.int .i64 1) ∧ W' = W := by
  go_enter Try.func12, Try.ntmps12
  go_wp2_with fail
  go_ret
  exact ⟨by simp, rfl⟩
set_option maxRecDepth 100000 in
theorem nil_forkerrno (W : World) : Calls Try.prog 14 #[.pointer none] W fun e W' => e = .returned (.int .i64 1) ∧ W' = W := by
  go_enter Try.func14, Try.ntmps14
  go_wp2_with fail
  go_ret
  exact ⟨by simp, rfl⟩
set_option maxRecDepth 100000 in
theorem nil_lookpair (W : World) : Calls Try.prog 15 #[.pointer none] W fun e W' => e = .returned (.agg #[.int .u64 0, .int .u64 0]) ∧ Chg (fun _ => False) W W' := by
  obtain ⟨w1, hw1⟩ : ∃ w1, w1 = W.alloc (.cells #[.int .u64 0, .int .u64 0] 49) := ⟨_, rfl⟩
  have hr1 : w1.heap[W.heap.size]? = some (.cells #[.int .u64 0, .int .u64 0] 49 (0, 0)) := by rw [hw1]; exact heap_alloc_new _ _
  have HC : Hid (Chg (fun _ => False) W w1) := by rw [hw1]; exact (Chg.refl _ _).alloc _
  have r0 := (cell_of hr1 0).trans rfl
  have r1 := (cell_of hr1 1).trans rfl
  have f0 := free_of hr1 0
  have f1 := free_of hr1 1
  have q0 : ∀ u, (w1.setCell ⟨W.heap.size, 0, none⟩ u).cell? ⟨W.heap.size, 0, none⟩ = some u := fun u => cell_of (set_of hr1 0 u) 0
  have q1 : ∀ u u', ((w1.setCell ⟨W.heap.size, 0, none⟩ u).setCell ⟨W.heap.size, 1, none⟩ u').cell? ⟨W.heap.size, 1, none⟩ = some u' := fun u u' => cell_of (set_of (set_of hr1 0 u) 1 u') 1
  go_enter Try.func15, Try.ntmps15
  go_upto_region 1 with fail
  rw [← hw1]
  clear hw1 hr1
  go_wp2_with fail
  refine bodyPost_ret (v := .agg #[.int .u64 0, .int .u64 0]) (by simp [results, Try.results15, go_sem, q0, q1]) rfl ⟨rfl, ?_⟩
  exact (HC.out.setCell (fun e => (Nat.lt_irrefl _ e).elim) _).setCell (fun e => (Nat.lt_irrefl _ e).elim) _

set_option maxRecDepth 100000 in
theorem leaf_nv (p k x : Nat) (W : World) (hp : IsLeaf W p false 0 k x 0) : Calls Try.prog 22 #[.pointer (some ⟨p, 0, none⟩), .pointer none] W fun e W' => e = .returned (.bool true) ∧ IsLeaf W' p true 30 k x 0 ∧ Chg (fun k => k = p) W W' := by
  have c0 : W.cell? ⟨p, 0, none⟩ = some (.bool false) := cell_of hp 0
  have c2 : W.cell? ⟨p, 2, none⟩ = some (.int .u64 (k : Int)) := cell_of hp 2
  have c3 : W.cell? ⟨p, 3, none⟩ = some (.int .u64 (x : Int)) := cell_of hp 3
  have HP := keepH hp
  clear hp
  go_enter Try.func22, Try.ntmps22
  go_upto_region 3 with fail
  go_cut [5] from 15 to 25 (fun s5 wz => s5 = .int .u64 0 ∧ Hid (IsLeaf wz p false 0 k x 0 ∧ Chg (fun _ => False) W wz))
  case first =>
    go_region_with (go_at_call 40; refine (nil_valloc _ _ _ _).mono ?_; rintro e w1 ⟨rfl, rfl⟩)
    all_goals (try go_wp2_with fail)
    all_goals go_meet
    all_goals (exact ⟨by trivial, keepH ⟨alloc_of (W := W.drew) HP.out _, (Chg.refl _ W).drew.alloc _⟩⟩)
  case rest =>
    obtain ⟨wz, hwz⟩ : ∃ wz, wz = wc := ⟨_, rfl⟩
    rw [← hwz] at hcut ⊢
    clear hwz
    obtain ⟨rfl, HC⟩ := hcut
    obtain ⟨P1, C1⟩ := HC.out
    have HP1 := keepH P1
    have HC1 := keepH C1
    clear HC P1 C1 c0 c2 c3
    go_wp2_with fail
    refine (o_end p 30 _ _ _ HP1.out false 0 rfl rfl).mono ?_
    rintro e w2 ⟨rfl, P2, C2⟩
    have HP2 : Hid (IsLeaf w2 p true 30 k x 0) := P2
    have HC2 : Hid (Chg (fun k => k = p) W w2) := HC1.out.trans C2 (fun _ _ x => x.elim) (fun _ _ x => x)
    clear P2 C2
    go_wp2_with fail
    go_ret
    exact ⟨by simp, HP2.out, HC2.out⟩
set_option maxRecDepth 100000 in
theorem look_nv0 (p addr k x : Nat) (W : World) (hp : IsLook W p addr 0 k x) : Calls Try.prog 24 #[.pointer (some ⟨p, 0, none⟩), .pointer none] W fun e W' => e = .returned (.bool false) ∧ IsLook W' p addr 1 0 x ∧ Chg (fun k => k = p) W W' := by
  have c0 : W.cell? ⟨p, 0, none⟩ = some (.int .u64 (addr : Int)) := cell_of hp 0
  have c1 : W.cell? ⟨p, 1, none⟩ = some (.int .i64 0) := cell_of hp 1
  have d2 := (cell_of hp 2).trans rfl
  have f2 := free_of hp 2
  have f1 := free_of (set_of hp 2 (.int .u64 0)) 1
  have f1' := free_of hp 1
  have HP := keepH hp
  clear hp
  go_enter Try.func24, Try.ntmps24
  go_wp2_with fail
  refine (nil_vload (addr : Int) _).mono ?_
  rintro e w1 ⟨rfl, rfl⟩
  go_wp2_with fail
  go_ret
  exact ⟨by simp, set_of (set_of HP.out 2 _) 1 _, (setC _).trans (setC _) (fun _ _ x => x) (fun _ _ x => x)⟩
set_option maxRecDepth 100000 in
theorem look_nv1 (p addr k x : Nat) (W : World) (hp : IsLook W p addr 1 k x) : Calls Try.prog 24 #[.pointer (some ⟨p, 0, none⟩), .pointer none] W fun e W' => e = .returned (.bool true) ∧ IsLook W' p addr 2 k 0 ∧ Chg (fun k => k = p) W W' := by
  have c0 : W.cell? ⟨p, 0, none⟩ = some (.int .u64 (addr : Int)) := cell_of hp 0
  have c1 : W.cell? ⟨p, 1, none⟩ = some (.int .i64 1) := cell_of hp 1
  have d3 := (cell_of hp 3).trans rfl
  have f3 := free_of hp 3
  have f1 := free_of (set_of hp 3 (.int .u64 0)) 1
  have f1' := free_of hp 1
  have HP := keepH hp
  clear hp
  go_enter Try.func24, Try.ntmps24
  go_wp2_with fail
  refine (nil_vload _ _).mono ?_
  rintro e w1 ⟨rfl, rfl⟩
  go_wp2_with fail
  go_ret
  exact ⟨by simp, set_of (set_of HP.out 3 _) 1 _, (setC _).trans (setC _) (fun _ _ x => x) (fun _ _ x => x)⟩

set_option maxRecDepth 100000 in
theorem hang_nv {p : Nat} {aw am bw bm top level : Nat} {cells : List Nat} {pos wd : Nat} {W : World} (hp : IsFork W p false 0 aw am bw bm top level cells pos wd) (cw cm thn : Nat) : Calls Try.prog 44 #[.pointer (some ⟨p, 0, none⟩), .pointer none, .agg #[.int .u64 (cw : Int), .int .u64 (cm : Int)], .int .i64 (thn : Int)] W fun e W' => e = .returned (.bool true) ∧ IsFork W' p true 30 aw am bw bm top level cells pos wd ∧ Chg (fun k => k = p) W W' := by
  have HP := keepH hp
  clear hp
  go_enter Try.func44, Try.ntmps44
  go_wp2_with fail
  refine (nil_valloc _ _ _ _).mono ?_
  rintro e w1 ⟨rfl, rfl⟩
  go_wp2_with fail
  refine (fork_end (HP.out.chg (F := fun _ => False) (((Chg.refl _ W).alloc _).alloc _) (fun h => h)) 30).mono ?_
  rintro e w2 ⟨rfl, P2, C2⟩
  have HP2 := keepH P2
  have HC2 : Hid (Chg (fun k => k = p) W w2) := (((Chg.refl (fun k => k = p) W).alloc _).alloc _).trans C2 (fun _ _ x => x) (fun _ _ x => x)
  clear P2 C2
  go_wp2_with fail
  go_ret
  exact ⟨by simp, HP2.out, HC2.out⟩

def nvErr : Option Nat → Nat
  | none => 5
  | some _ => 30
theorem drewC (W : World) : Chg (fun _ => False) W W.drew := (Chg.refl _ W).drew
set_option maxRecDepth 100000 in
set_option maxHeartbeats 1000000 in
theorem begin_nv {p : Nat} {aw am bw bm top level : Nat} {cells : List Nat} {pos wd : Nat} {W : World} (hp : IsFork W p false 0 aw am bw bm top level cells pos wd) (h0 : am < 18446744073709551616) (h1 : bm < 18446744073709551616) (h2 : top < 9223372036854775808) : Calls Try.prog 43 #[.pointer (some ⟨p, 0, none⟩), .pointer none] W fun e W' => e = .returned (.bool true) ∧ (∃ lv, IsFork W' p true (nvErr (partN am bm top)) aw am bw bm top lv cells pos wd) ∧ Chg (fun k => k = p) W W' := by
  have c3 : W.cell? ⟨p, 3, none⟩ = some (.int .u64 (am : Int)) := cell_of hp.2 3
  have c5 : W.cell? ⟨p, 5, none⟩ = some (.int .u64 (bm : Int)) := cell_of hp.2 5
  have c6 : W.cell? ⟨p, 6, none⟩ = some (.int .i64 (top : Int)) := cell_of hp.2 6
  have HP := keepH hp
  clear hp
  obtain ⟨o, ho⟩ : ∃ o, o = partN am bm top := ⟨_, rfl⟩
  obtain ⟨lv, hlv⟩ : ∃ lv, lv = o.getD 0 := ⟨_, rfl⟩
  have HPT : Hid (∀ w, Calls Try.prog 57 #[.int .u64 (am : Int), .int .u64 (bm : Int), .int .i64 (top : Int)] w fun e W' => e = .returned (.tuple #[.int .i64 (lv : Int), .bool o.isSome]) ∧ W' = w) := fun w => by
    rw [hlv, ho]
    exact parting_any am bm top w h0 h1 h2
  have HLV := keepH hlv
  rw [← ho]
  clear hlv ho h0 h1 h2
  go_enter Try.func43, Try.ntmps43
  go_upto_region 1 with fail
  go_quiet (first | (go_at_call 57; refine (HPT.out _).mono ?_; rintro x y ⟨rfl, rfl⟩; exact ⟨rfl, _, rfl⟩))
  obtain ⟨w1, hw1⟩ : ∃ w1, w1 = W.drewN nq := ⟨_, rfl⟩
  have C1 : Chg (fun _ => False) W w1 := by rw [hw1]; exact (Goes.drewN W (fun _ => False) nq).chg
  rw [← hw1]
  clear hw1 c3 c5 c6 HPT
  have HP1 := keepH (HP.out.chg C1 (fun h => h))
  have HC1 := keepH C1
  clear C1
  cases o with
  | none =>
    have d1 : (none : Option Nat).isSome = false := rfl
    go_wp2_with fail
    refine (fork_end HP1.out 5).mono ?_
    rintro e w2 ⟨rfl, P2, C2⟩
    have HP2 := keepH P2
    have HC2 : Hid (Chg (fun k => k = p) W w2) := HC1.out.trans C2 (fun _ _ x => x.elim) (fun _ _ x => x)
    clear P2 C2
    go_wp2_with fail
    go_ret
    exact ⟨by simp, ⟨level, HP2.out⟩, HC2.out⟩
  | some j =>
    have d1 : (some j).isSome = true := rfl
    have f7 := free_of HP1.out.2 7
    have d7 := (cell_of HP1.out.2 7).trans rfl
    have HP2 : Hid (IsFork (w1.setCell ⟨p, 7, none⟩ (.int .i64 (lv : Int))) p false 0 aw am bw bm top lv cells pos wd) := ⟨HP1.out.1, set_of HP1.out.2 7 _⟩
    have c2 : (w1.setCell ⟨p, 7, none⟩ (.int .i64 (lv : Int))).cell? ⟨p, 2, none⟩ = some (.int .u64 (aw : Int)) := cell_of HP2.out.2 2
    have c3 : (w1.setCell ⟨p, 7, none⟩ (.int .i64 (lv : Int))).cell? ⟨p, 3, none⟩ = some (.int .u64 (am : Int)) := cell_of HP2.out.2 3
    obtain ⟨w2, hw2⟩ : ∃ w2, w2 = w1.setCell ⟨p, 7, none⟩ (.int .i64 (lv : Int)) := ⟨_, rfl⟩
    have HC2 : Hid (Chg (fun k => k = p) W w2) := by rw [hw2]; exact HC1.out.trans (setC _) (fun _ _ x => x.elim) (fun _ _ x => x)
    rw [← hw2] at HP2 c2 c3
    go_upto_region 5 with fail
    rw [← hw2]
    clear hw2
    go_wp2_with fail
    refine (hang_nv HP2.out aw am 1).mono ?_
    rintro e w3 ⟨rfl, P3, C3⟩
    have HP3 := keepH P3
    have HC3 : Hid (Chg (fun k => k = p) W w3) := HC2.out.trans C3 (fun _ _ x => x) (fun _ _ x => x)
    clear P3 C3
    go_wp2_with fail
    go_ret
    exact ⟨by simp, ⟨lv, HP3.out⟩, HC3.out⟩
set_option maxRecDepth 100000 in
theorem fork_nv {p : Nat} {aw am bw bm top level : Nat} {cells : List Nat} {wd : Nat} {W : World} (hp : IsFork W p false 0 aw am bw bm top level cells 0 wd) (h0 : am < 18446744073709551616) (h1 : bm < 18446744073709551616) (h2 : top < 9223372036854775808) : Calls Try.prog 23 #[.pointer (some ⟨p, 0, none⟩), .pointer none] W fun e W' => e = .returned (.bool true) ∧ (∃ lv, IsFork W' p true (nvErr (partN am bm top)) aw am bw bm top lv cells 0 wd) ∧ Chg (fun k => k = p) W W' := by
  have c0 : W.cell? ⟨p, 0, none⟩ = some (.bool false) := cell_of hp.2 0
  have c72 : W.cell? ⟨p, 72, none⟩ = some (.int .i64 0) := (cell_of hp.2 72).trans (fork_pos hp.1)
  have HP := keepH hp
  clear hp
  go_enter Try.func23, Try.ntmps23
  go_wp2_with fail
  refine (begin_nv HP.out h0 h1 h2).mono ?_
  rintro e w1 ⟨rfl, P1, C1⟩
  have HP1 := keepH P1
  have HC1 := keepH C1
  clear P1 C1
  go_wp2_with fail
  go_ret
  exact ⟨by simp, HP1.out, HC1.out⟩
end Go.Proofs.Ytlmfdgdmegkfdaa
