/- 'done' of an alloc. -/
import Derived.Test.YtjnkefggmklaoaaATr2
namespace Go.Proofs.Ytjnkefggmklaoaa
open Go.RowKit Go.Shelf
set_option linter.unusedVariables false

def Wrote (os osi vals : List Nat) (next i : Nat) : Prop := osi.length = os.length ∧ ∀ j, cellN osi j = if next ≤ j ∧ j < next + i then cellN vals (j - next) else cellN os j
theorem Wrote.more {os osi vals : List Nat} {next i : Nat} (h : Wrote os osi vals next i) (hl : next + i < os.length) : Wrote os (osi.set (next + i) (cellN vals i)) vals next (i + 1) := by
  refine ⟨by simp [h.1], fun j => ?_⟩
  rw [cellN_set _ _ _ _ (by rw [h.1]; exact hl), h.2 j]
  by_cases e : j = next + i
  · subst e
    rw [if_pos rfl, if_pos (by omega)]
    congr 1
    omega
  · rw [if_neg e]
    by_cases e2 : next ≤ j ∧ j < next + i
    · rw [if_pos e2, if_pos (by omega)]
    · rw [if_neg e2, if_neg (by omega)]
theorem Wrote.own {os osi vals cs : List Nat} {n next : Nat} (h : Wrote os osi vals next vals.length) (hO : Own os cs n) (hok : alOk n next vals.length) (h1 : 1 ≤ next) : Own osi (alN n next cs vals) n := by
  obtain ⟨h0, hle⟩ := hok
  have hok : alOk n next vals.length := ⟨h0, hle⟩
  have hp : next + vals.length ≤ (padN cs (next + vals.length)).length := by rw [padN_length]; omega
  have hc : ∀ j, cellN (alN n next cs vals) j = if next ≤ j ∧ j < next + vals.length then cellN vals (j - next) else cellN cs j := fun j => by
    rw [alN, if_pos hok, spliceN_cell _ _ _ hp, padN_cell]
  refine ⟨by rw [h.1]; exact hO.1, fun j hj => ?_, fun j hj => ?_⟩
  · rw [h.2, hc, hO.2.1 j hj]
  · rw [hc, if_neg (by omega)]
    exact hO.2.2 j hj

set_option maxRecDepth 100000 in
set_option maxHeartbeats 4000000 in
theorem l_done5 (g n next : Nat) (os cs : List Nat) (x : Acc) (W : World) (ho : IsOwn W g os) (hO : Own os cs n) (hn : 128 ≤ n ∧ n ≤ 4194304) (hnx : 1 ≤ next ∧ next ≤ n) (hk : x.kind = 5) (hat : x.addr = alAt n next x.vals.length) (hr : W.ownsRow 0 28 1 x.vs x.vals.length (x.vals.map u64V)) (hg : x.vs.ownBlock ≠ some g) (hlen : x.vals.length ≤ 1048576) :
    Calls Try.prog 17 #[.slice (some ⟨g, 0, none⟩) n n, .int .i64 (next : Int), accV x.th x.kind x.addr x.a x.b x.vs x.got x.ok] W fun e W' => e = .returned (.tuple #[.int .i64 (alNext n next x.vals.length : Int), .bool true]) ∧ ∃ os', IsOwn W' g os' ∧ Own os' (alN n next cs x.vals) n ∧ Chg (fun k => k = g) W W' := by
  obtain ⟨hl, hcs, hz⟩ := id hO
  have row := ho.row (by omega)
  rw [hl] at row
  have wn : IntKind.u64.wrap (n : Int) = (n : Int) := u64_lt (by omega)
  have hgl := lt_of ho
  have n0 : ¬ (n : Int) = 0 := by omega
  have n0' : ¬ n = 0 := by omega
  have gne : W.heap.size ≠ g := by omega
  have HO := keepH hO
  have HI := keepH ho
  have HV := keepH hr
  have HG := keepH hg
  by_cases hok : alOk n next x.vals.length
  · obtain ⟨h0, hle⟩ := id hok
    have HK := keepH hok
    obtain ⟨gv, c, hv⟩ := slice_pos hr h0
    rw [hv] at HV HG
    have e1 : alNext n next x.vals.length = next + x.vals.length := by simp [alNext, hok]
    have e2 : x.addr = next := by rw [hat]; simp [alAt, hok]
    rw [hv, e1, e2, hk]
    unfold accV
    have hth : next < n := by omega
    have t1 : (next : Int) < (n : Int) := by omega
    have hrm : Int.tmod (next : Int) (n : Int) = (next : Int) := by rw [Int.tmod_eq_emod_of_nonneg (by omega)]; exact Int.emod_eq_of_lt (by omega) t1
    have wa : IntKind.i64.wrap (next : Int) = (next : Int) := i64_lt (by omega)
    have cx := cell_u64 row next hth
    have t2 : ¬ (next : Int) = 0 := by omega
    have t2' : ¬ next = 0 := by omega
    have t3 : ¬ (n : Int) - (next : Int) < (x.vals.length : Int) := by omega
    have t4 : ¬ (x.vals.length : Int) = 0 := by omega
    have t4' : ¬ x.vals.length = 0 := by omega
    have ws : IntKind.i64.wrap ((n : Int) - (next : Int)) = (n : Int) - (next : Int) := by rw [IntKind.wrap_i64]; omega
    clear hO ho row hcs hz hr hg hok hat e1 e2 hv hk
    go_enter Try.func17, Try.ntmps17
    go_wp2_with fail
    obtain ⟨X, hX⟩ : ∃ X, X = W.alloc (.cells #[.int .i64 x.th, .int .u8 5, .int .u64 (next : Int), .int .u64 (x.a : Int), .int .u64 (x.b : Int), .slice (some ⟨gv, 0, none⟩) x.vals.length c, .int .u64 (x.got : Int), .bool x.ok] 46) := ⟨_, rfl⟩
    have b5 : X.cell? ⟨W.heap.size, 5, none⟩ = some (.slice (some ⟨gv, 0, none⟩) x.vals.length c) := by rw [hX]; exact cell_of (heap_alloc_new _ _) 5
    have HX : Hid (IsOwn X g os) := by rw [hX]; exact HI.out.alloc _
    have CX : Hid (Chg (fun k => k = g) W X) := by rw [hX]; exact (Chg.refl _ W).alloc _
    rw [← hX]
    have VX : Hid (X.ownsRow 0 28 1 (.slice (some ⟨gv, 0, none⟩) x.vals.length c) x.vals.length (x.vals.map u64V)) := row_kept HV.out fun k e => by rw [hX]; exact Below.heap_alloc _ _ _ (row_lt HV.out k e)
    have hgv : gv ≠ g := fun e => HG.out (by rw [e]; rfl)
    have HGV := keepH hgv
    clear hX cx hgv
    go_loopw [11] (fun sv wr => ∃ (i : Nat) (osi : List Nat), i ≤ x.vals.length ∧ sv = .int .i64 (i : Int) ∧ Hid (Wrote os osi x.vals next i) ∧ Hid (IsOwn wr g osi) ∧ Hid (Chg (fun k => k = g) X wr)) (fun sv _ => x.vals.length - (intOf sv).toNat)
    case atStart => exact ⟨0, os, by omega, rfl, ⟨rfl, fun j => by rw [if_neg (by omega)]⟩, HX, Chg.refl _ _⟩
    case round =>
      obtain ⟨i, osi, hi, rfl, HWr, HIo, HCh⟩ := hrel
      have c5 : wr.cell? ⟨W.heap.size, 5, none⟩ = some (.slice (some ⟨gv, 0, none⟩) x.vals.length c) := cell_chg HCh.out b5 gne
      by_cases hlt : i < x.vals.length
      · have q1 : (i : Int) < (x.vals.length : Int) := by omega
        have hlo : osi.length = n := by rw [HWr.out.1, hl]
        have rw1 := HIo.out.row (by omega)
        rw [hlo] at rw1
        have kc := cell_u64 rw1 (next + i) (by omega)
        have kf := World.ownsRow.frozenAt rw1 (next + i)
        have rv : wr.ownsRow 0 28 1 (.slice (some ⟨gv, 0, none⟩) x.vals.length c) x.vals.length (x.vals.map u64V) := row_kept VX.out fun k e => HCh.out.block k (row_lt VX.out k e) (fun e2 => HGV.out (by rw [e2] at e; simpa [Value.ownBlock] using e))
        have kv := cell_u64 rv i hlt
        have wi : IntKind.i64.wrap ((next : Int) + (i : Int)) = ((next + i : Nat) : Int) := by rw [IntKind.wrap_i64]; omega
        have wb : ((next + i : Nat) : Int) < (n : Int) := by omega
        clear rw1 rv
        go_wp2_with fail
        refine ⟨⟨i + 1, _, by omega, by simp, HWr.out.more (by omega), HIo.out.set _ _, HCh.out.setCell (fun _ => rfl) _⟩, by simp [intOf]; omega⟩
      · have q1 : ¬ (i : Int) < (x.vals.length : Int) := by omega
        obtain rfl : i = x.vals.length := by omega
        have wi : IntKind.i64.wrap ((next : Int) + (x.vals.length : Int)) = ((next + x.vals.length : Nat) : Int) := by rw [IntKind.wrap_i64]; omega
        go_wp2_with fail
        go_ret2
        exact ⟨by simp, osi, HIo.out, HWr.out.own HO.out HK.out hnx.1, CX.out.trans HCh.out (fun _ _ x => x) (fun _ _ x => x)⟩
  · have e1 : alNext n next x.vals.length = next := by simp [alNext, hok]
    have e2 : x.addr = 0 := by rw [hat]; simp [alAt, hok]
    have e3 : alN n next cs x.vals = cs := by simp [alN, hok]
    rw [e1, e2, e3, hk]
    obtain ⟨p, c, hv⟩ := slice_of hr
    rw [hv]
    unfold accV
    have cx := cell_u64 row 0 (by omega)
    have t0 : (0 : Int) < (n : Int) := by omega
    have t0' : 0 < n := by omega
    have HA : Hid (∀ ob, IsOwn (W.alloc ob) g os) := fun ob => HI.out.alloc ob
    have hnn : ¬ (0 < x.vals.length ∧ x.vals.length ≤ n - next) := hok
    clear hO ho row hcs hz hr hg hok hat e1 e2 e3 hv hk
    by_cases hz0 : x.vals.length = 0
    · rw [hz0]
      clear hnn hz0
      go_enter Try.func17, Try.ntmps17
      go_wp2_with fail
      go_quiet (fail)
      go_wp2_with fail
      go_ret2
      exact ⟨by simp, os, HA.out _, HO.out, ((Chg.refl _ W).alloc _).trans (Goes.drewN _ (fun k => k = g) _).chg (fun _ _ x => x) (fun _ _ x => x)⟩
    · have d1 : ((x.vals.length : Int) == 0) = false := beq_eq_false_iff_ne.2 (by omega)
      have d1n : (x.vals.length == 0) = false := beq_eq_false_iff_ne.2 (by omega)
      have t3 : (n : Int) - (next : Int) < (x.vals.length : Int) := by omega
      have d3 : decide ((n : Int) - (next : Int) < (x.vals.length : Int)) = true := decide_eq_true t3
      clear hnn
      go_enter Try.func17, Try.ntmps17
      go_wp2_with fail
      go_quiet (fail)
      go_wp2_with fail
      go_ret2
      exact ⟨by simp, os, HA.out _, HO.out, ((Chg.refl _ W).alloc _).trans (Goes.drewN _ (fun k => k = g) _).chg (fun _ _ x => x) (fun _ _ x => x)⟩
end Go.Proofs.Ytjnkefggmklaoaa
