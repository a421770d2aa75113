/- 'done' of a store and of a compare-and-swap. -/
import Derived.Test.YtjnkefggmklaoaaATr
namespace Go.Proofs.Ytjnkefggmklaoaa
open Go.RowKit Go.Shelf
set_option linter.unusedVariables false

set_option maxRecDepth 100000 in
set_option maxHeartbeats 4000000 in
theorem l_done2 (g n next : Nat) (os cs : List Nat) (x : Acc) (p : Option Addr) (c : Nat) (W : World) (ho : IsOwn W g os) (hO : Own os cs n) (hn : 128 ≤ n ∧ n ≤ 4194304) (hk : x.kind = 2) (hv : x.vs = .slice p x.vals.length c) :
    Calls Try.prog 17 #[.slice (some ⟨g, 0, none⟩) n n, .int .i64 (next : Int), accV x.th x.kind x.addr x.a x.b x.vs x.got x.ok] W fun e W' => e = .returned (.tuple #[.int .i64 (next : Int), .bool true]) ∧ ∃ os', IsOwn W' g os' ∧ Own os' (stN n cs x.addr x.a) n ∧ Chg (fun k => k = g) W W' := by
  obtain ⟨hl, hcs, hz⟩ := id hO
  have row := ho.row (by omega)
  rw [hl] at row
  have wn : IntKind.u64.wrap (n : Int) = (n : Int) := u64_lt (by omega)
  have hgl := lt_of ho
  have n0 : ¬ (n : Int) = 0 := by omega
  have n0' : ¬ n = 0 := by omega
  have gne : W.heap.size ≠ g := by omega
  rw [hv]
  unfold accV
  have HO := keepH hO
  have HI := keepH ho
  have HA : Hid (IsOwn (W.alloc (.cells #[.int .i64 x.th, .int .u8 2, .int .u64 (x.addr : Int), .int .u64 (x.a : Int), .int .u64 (x.b : Int), .slice p x.vals.length c, .int .u64 (x.got : Int), .bool x.ok] 46)) g os) := (Below.heap_alloc _ _ _ hgl).trans ho
  rw [hk]
  by_cases hth : x.addr < n
  · have t1 : (x.addr : Int) < (n : Int) := by omega
    have hr : Int.tmod (x.addr : Int) (n : Int) = (x.addr : Int) := by rw [Int.tmod_eq_emod_of_nonneg (by omega)]; exact Int.emod_eq_of_lt (by omega) t1
    have wa : IntKind.i64.wrap (x.addr : Int) = (x.addr : Int) := i64_lt (by omega)
    have cx := cell_u64 row x.addr hth
    have fx := World.ownsRow.frozenAt row x.addr
    clear hO ho row hcs hz
    go_enter Try.func17, Try.ntmps17
    go_wp2_with fail
    go_ret2
    exact ⟨by simp, _, (HI.out.set x.addr x.a).alloc _, HO.out.set hth, ((Chg.refl (fun k => k = g) W).setCell (p := ⟨g, x.addr, none⟩) (fun _ => rfl) _).alloc _⟩
  · have t1 : ¬ (x.addr : Int) < (n : Int) := by omega
    have e0 : stN n cs x.addr x.a = cs := by simp [stN]; omega
    rw [e0]
    have hm : 0 ≤ Int.tmod (x.addr : Int) (n : Int) ∧ Int.tmod (x.addr : Int) (n : Int) < (n : Int) := ⟨Int.tmod_nonneg _ (by omega), Int.tmod_lt_of_pos _ (by omega)⟩
    obtain ⟨z, hz2⟩ : ∃ z : Nat, Int.tmod (x.addr : Int) (n : Int) = (z : Int) := ⟨(Int.tmod (x.addr : Int) (n : Int)).toNat, by omega⟩
    have wz : IntKind.i64.wrap (z : Int) = (z : Int) := i64_lt (by omega)
    clear hO ho row hcs hz e0 hm
    go_enter Try.func17, Try.ntmps17
    go_wp2_with fail
    go_ret2
    exact ⟨by simp, os, HA.out, HO.out, (Chg.refl _ W).alloc _⟩

theorem casN_st (n : Nat) (cs : List Nat) (addr a b : Nat) : casN n cs addr a b = if casOk n cs addr a then stN n cs addr b else cs := by
  unfold casN casOk stN
  by_cases h : addr < n ∧ cellN cs addr = a
  · simp [h]
  · simp [h]

set_option maxRecDepth 100000 in
set_option maxHeartbeats 4000000 in
theorem l_done3 (g n next : Nat) (os cs : List Nat) (x : Acc) (p : Option Addr) (c : Nat) (W : World) (ho : IsOwn W g os) (hO : Own os cs n) (hn : 128 ≤ n ∧ n ≤ 4194304) (hk : x.kind = 3) (hok : x.ok = casOk n cs x.addr x.a) (hv : x.vs = .slice p x.vals.length c) :
    Calls Try.prog 17 #[.slice (some ⟨g, 0, none⟩) n n, .int .i64 (next : Int), accV x.th x.kind x.addr x.a x.b x.vs x.got x.ok] W fun e W' => e = .returned (.tuple #[.int .i64 (next : Int), .bool true]) ∧ ∃ os', IsOwn W' g os' ∧ Own os' (casN n cs x.addr x.a x.b) n ∧ Chg (fun k => k = g) W W' := by
  obtain ⟨hl, hcs, hz⟩ := id hO
  have row := ho.row (by omega)
  rw [hl] at row
  have wn : IntKind.u64.wrap (n : Int) = (n : Int) := u64_lt (by omega)
  have hgl := lt_of ho
  have n0 : ¬ (n : Int) = 0 := by omega
  have n0' : ¬ n = 0 := by omega
  have gne : W.heap.size ≠ g := by omega
  rw [hv, casN_st, ← hok]
  unfold accV
  have HO := keepH hO
  have HI := keepH ho
  have HA : Hid (∀ o, IsOwn (W.alloc (.cells #[.int .i64 x.th, .int .u8 3, .int .u64 (x.addr : Int), .int .u64 (x.a : Int), .int .u64 (x.b : Int), .slice p x.vals.length c, .int .u64 (x.got : Int), .bool o] 46)) g os) := fun o => (Below.heap_alloc _ _ _ hgl).trans ho
  rw [hk]
  by_cases hth : x.addr < n
  · have t1 : (x.addr : Int) < (n : Int) := by omega
    have hr : Int.tmod (x.addr : Int) (n : Int) = (x.addr : Int) := by rw [Int.tmod_eq_emod_of_nonneg (by omega)]; exact Int.emod_eq_of_lt (by omega) t1
    have wa : IntKind.i64.wrap (x.addr : Int) = (x.addr : Int) := i64_lt (by omega)
    have cx := cell_u64 row x.addr hth
    rw [hcs _ hth] at cx
    have fx := World.ownsRow.frozenAt row x.addr
    obtain ⟨hd, hhd⟩ : ∃ hd, hd = cellN cs x.addr := ⟨_, rfl⟩
    rw [← hhd] at cx
    by_cases hq : hd = x.a
    · have ok : x.ok = true := by rw [hok]; simp [casOk, hth, ← hhd, hq]
      rw [ok]
      clear hO ho row hcs hz hhd hok ok
      subst hq
      go_enter Try.func17, Try.ntmps17
      go_wp2_with fail
      go_ret2
      exact ⟨by simp, _, (HI.out.set x.addr x.b).alloc _, HO.out.set hth, ((Chg.refl (fun k => k = g) W).setCell (p := ⟨g, x.addr, none⟩) (fun _ => rfl) _).alloc _⟩
    · have ok : x.ok = false := by rw [hok]; simp [casOk, ← hhd, hq]
      rw [ok]
      have d1 : ((hd : Int) != (x.a : Int)) = true := by simp; omega
      clear hO ho row hcs hz hhd hok ok
      go_enter Try.func17, Try.ntmps17
      go_wp2_with fail
      go_quiet (fail)
      go_wp2_with fail
      go_ret2
      exact ⟨by simp, os, HA.out _, HO.out, ((Chg.refl _ W).alloc _).trans (Goes.drewN _ (fun k => k = g) _).chg (fun _ _ x => x) (fun _ _ x => x)⟩
  · have ok : x.ok = false := by rw [hok]; simp [casOk, hth]
    rw [ok]
    have t1 : ¬ (x.addr : Int) < (n : Int) := by omega
    have hm : 0 ≤ Int.tmod (x.addr : Int) (n : Int) ∧ Int.tmod (x.addr : Int) (n : Int) < (n : Int) := ⟨Int.tmod_nonneg _ (by omega), Int.tmod_lt_of_pos _ (by omega)⟩
    obtain ⟨z, hz2⟩ : ∃ z : Nat, Int.tmod (x.addr : Int) (n : Int) = (z : Int) := ⟨(Int.tmod (x.addr : Int) (n : Int)).toNat, by omega⟩
    have wz : IntKind.i64.wrap (z : Int) = (z : Int) := i64_lt (by omega)
    clear hO ho row hcs hz hok ok hm
    go_enter Try.func17, Try.ntmps17
    go_wp2_with fail
    go_quiet (fail)
    go_wp2_with fail
    go_ret2
    exact ⟨by simp, os, HA.out _, HO.out, ((Chg.refl _ W).alloc _).trans (Goes.drewN _ (fun k => k = g) _).chg (fun _ _ x => x) (fun _ _ x => x)⟩
end Go.Proofs.Ytjnkefggmklaoaa
