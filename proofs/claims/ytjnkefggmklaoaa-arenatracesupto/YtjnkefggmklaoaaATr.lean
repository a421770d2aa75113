/- What a trace does to cells, access by access; 'done', by it. -/
import Derived.Test.YtjnkefggmklaoaaALive
import Derived.BigQuiet
namespace Go.Proofs.Ytjnkefggmklaoaa
open Go.RowKit Go.Shelf
set_option linter.unusedVariables false

def Ply (most : Nat) (cs : List Nat) (next : Nat) (x : Acc) (cs' : List Nat) (next' : Nat) : Prop :=
  (x.kind = 1 ∧ x.got = cellN cs x.addr ∧ cs' = cs ∧ next' = next) ∨
  (x.kind = 2 ∧ cs' = stN most cs x.addr x.a ∧ next' = next) ∨
  (x.kind = 3 ∧ x.ok = casOk most cs x.addr x.a ∧ cs' = casN most cs x.addr x.a x.b ∧ next' = next) ∨
  (x.kind = 4 ∧ x.got = cellN cs x.addr ∧ cs' = stN most cs x.addr (addN (cellN cs x.addr) x.a) ∧ next' = next) ∨
  (x.kind = 5 ∧ x.addr = alAt most next x.vals.length ∧ cs' = alN most next cs x.vals ∧ next' = alNext most next x.vals.length)
def Own (os cs : List Nat) (n : Nat) : Prop := os.length = n ∧ (∀ i, i < n → cellN os i = cellN cs i) ∧ ∀ i, n ≤ i → cellN cs i = 0
def IsOwn (W : World) (g : Nat) (os : List Nat) : Prop := W.heap[g]? = some (.cells (os.map u64V).toArray 28 (0, 0))
theorem IsOwn.row {W : World} {g : Nat} {os : List Nat} (h : IsOwn W g os) (hn : os.length ≤ 1099511627776) : W.ownsRow 0 28 1 (.slice (some ⟨g, 0, none⟩) os.length os.length) os.length (os.map u64V) :=
  ⟨by simp, .inr ⟨g, os.length, _, rfl, Nat.zero_le _, h, Nat.le_refl _, by unfold maxLen; omega, by simp, by rw [Nat.mul_one]; simp [List.take_of_length_le]⟩⟩
theorem IsOwn.set {W : World} {g : Nat} {os : List Nat} (h : IsOwn W g os) (i v : Nat) : IsOwn (W.setCell ⟨g, i, none⟩ (.int .u64 (v : Int))) g (os.set i v) := by
  have e := set_of h i (.int .u64 (v : Int))
  rw [IsOwn, e, List.map_set]
  simp [u64V]
theorem IsOwn.alloc {W : World} {g : Nat} {os : List Nat} (h : IsOwn W g os) (o : Obj) : IsOwn (W.alloc o) g os := (Below.heap_alloc _ _ _ (lt_of h)).trans h
theorem cellN_set (os : List Nat) (i v j : Nat) (hi : i < os.length) : cellN (os.set i v) j = if j = i then v else cellN os j := by
  simp only [cellN, List.getD_eq_getElem?_getD, List.getElem?_set]
  by_cases e : i = j
  · subst e
    simp [hi]
  · rw [if_neg e, if_neg (fun x => e x.symm)]
theorem Own.set {os cs : List Nat} {n i v : Nat} (h : Own os cs n) (hi : i < n) : Own (os.set i v) (stN n cs i v) n := by
  refine ⟨by simp [h.1], fun j hj => ?_, fun j hj => ?_⟩
  · rw [cellN_set _ _ _ _ (by rw [h.1]; exact hi), stN_cell]
    simp [hi, h.2.1 j hj]
  · rw [stN_cell, if_neg (by omega)]
    exact h.2.2 j hj

set_option maxRecDepth 100000 in
set_option maxHeartbeats 4000000 in
theorem l_done1 (g n next : Nat) (os cs : List Nat) (x : Acc) (p : Option Addr) (c : Nat) (W : World) (ho : IsOwn W g os) (hO : Own os cs n) (hn : 128 ≤ n ∧ n ≤ 4194304) (hk : x.kind = 1 ∨ x.kind = 4) (hg : x.got = cellN cs x.addr) (ha : x.addr < 18446744073709551616) (hc : ∀ i, cellN cs i < 18446744073709551616) (hv : x.vs = .slice p x.vals.length c) :
    Calls Try.prog 17 #[.slice (some ⟨g, 0, none⟩) n n, .int .i64 (next : Int), accV x.th x.kind x.addr x.a x.b x.vs x.got x.ok] W fun e W' => e = .returned (.tuple #[.int .i64 (next : Int), .bool true]) ∧ ∃ os', IsOwn W' g os' ∧ Own os' (if x.kind = 1 then cs else stN n cs x.addr (addN (cellN cs x.addr) x.a)) n ∧ Chg (fun k => k = g) W W' := by
  obtain ⟨hl, hcs, hz⟩ := id hO
  have row := ho.row (by omega)
  rw [hl] at row
  have wn : IntKind.u64.wrap (n : Int) = (n : Int) := u64_lt (by omega)
  have hgl := lt_of ho
  have n0 : ¬ (n : Int) = 0 := by omega
  have n0' : ¬ n = 0 := by omega
  have gne : W.heap.size ≠ g := by omega
  rw [hv]
  unfold accV
  by_cases hth : x.addr < n
  · have t1 : (x.addr : Int) < (n : Int) := by omega
    have hr : Int.tmod (x.addr : Int) (n : Int) = (x.addr : Int) := by rw [Int.tmod_eq_emod_of_nonneg (by omega)]; exact Int.emod_eq_of_lt (by omega) t1
    have wa : IntKind.i64.wrap (x.addr : Int) = (x.addr : Int) := i64_lt (by omega)
    have cx := cell_u64 row x.addr hth
    rw [hcs _ hth] at cx
    have fx := World.ownsRow.frozenAt row x.addr
    obtain ⟨hd, hhd⟩ : ∃ hd, hd = cellN cs x.addr := ⟨_, rfl⟩
    rw [← hhd] at hg cx ⊢
    have HO := keepH hO
    have HI := keepH ho
    clear hO ho row hcs hz hc
    have HA : Hid (IsOwn (W.alloc (.cells #[.int .i64 x.th, .int .u8 (x.kind : Int), .int .u64 (x.addr : Int), .int .u64 (x.a : Int), .int .u64 (x.b : Int), .slice p x.vals.length c, .int .u64 (x.got : Int), .bool x.ok] 46)) g os) := (Below.heap_alloc _ _ _ hgl).trans HI.out
    have wad : IntKind.u64.wrap ((hd : Int) + (x.a : Int)) = (addN hd x.a : Int) := by rw [IntKind.wrap_u64]; simp [addN]
    obtain ⟨sm, hsm⟩ : ∃ sm, sm = addN hd x.a := ⟨_, rfl⟩
    rw [← hsm] at wad ⊢
    clear hhd hsm
    rcases hk with hk | hk
    · rw [hk, hg] at HA ⊢
      go_enter Try.func17, Try.ntmps17
      go_wp2_with fail
      go_quiet (fail)
      go_wp2_with fail
      go_ret2
      exact ⟨by simp, os, HA.out, HO.out, ((Chg.refl _ W).alloc _).trans (Goes.drewN _ (fun k => k = g) _).chg (fun _ _ x => x) (fun _ _ x => x)⟩
    · rw [hk, hg] at HA ⊢
      go_enter Try.func17, Try.ntmps17
      go_wp2_with fail
      go_quiet (fail)
      go_wp2_with fail
      go_ret2
      exact ⟨by simp, _, (HI.out.set x.addr sm).alloc _, HO.out.set hth, (((Chg.refl (fun k => k = g) W).setCell (p := ⟨g, x.addr, none⟩) (fun _ => rfl) _).alloc _).trans (Goes.drewN _ (fun k => k = g) _).chg (fun _ _ x => x) (fun _ _ x => x)⟩
  · have t1 : ¬ (x.addr : Int) < (n : Int) := by omega
    have e0 : stN n cs x.addr (addN (cellN cs x.addr) x.a) = cs := by simp [stN]; omega
    have g0 : x.got = 0 := by rw [hg]; exact hz _ (by omega)
    rw [e0, g0, ite_self]
    have hm : 0 ≤ Int.tmod (x.addr : Int) (n : Int) ∧ Int.tmod (x.addr : Int) (n : Int) < (n : Int) := ⟨Int.tmod_nonneg _ (by omega), Int.tmod_lt_of_pos _ (by omega)⟩
    obtain ⟨z, hz2⟩ : ∃ z : Nat, Int.tmod (x.addr : Int) (n : Int) = (z : Int) := ⟨(Int.tmod (x.addr : Int) (n : Int)).toNat, by omega⟩
    have wz : IntKind.i64.wrap (z : Int) = (z : Int) := i64_lt (by omega)
    have HO := keepH hO
    have HA : Hid (IsOwn (W.alloc (.cells #[.int .i64 x.th, .int .u8 (x.kind : Int), .int .u64 (x.addr : Int), .int .u64 (x.a : Int), .int .u64 (x.b : Int), .slice p x.vals.length c, .int .u64 0, .bool x.ok] 46)) g os) := (Below.heap_alloc _ _ _ hgl).trans ho
    clear hO ho row hcs hz hc hg g0 e0 hm
    rcases hk with hk | hk
    · rw [hk] at HA ⊢
      go_enter Try.func17, Try.ntmps17
      go_wp2_with fail
      go_quiet (fail)
      go_wp2_with fail
      go_ret2
      exact ⟨by simp, os, HA.out, HO.out, ((Chg.refl _ W).alloc _).trans (Goes.drewN _ (fun k => k = g) _).chg (fun _ _ x => x) (fun _ _ x => x)⟩
    · rw [hk] at HA ⊢
      go_enter Try.func17, Try.ntmps17
      go_wp2_with fail
      go_quiet (fail)
      go_wp2_with fail
      go_ret2
      exact ⟨by simp, os, HA.out, HO.out, ((Chg.refl _ W).alloc _).trans (Goes.drewN _ (fun k => k = g) _).chg (fun _ _ x => x) (fun _ _ x => x)⟩
end Go.Proofs.Ytjnkefggmklaoaa
