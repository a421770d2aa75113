/- A live memory: take, alloc, left; its views. -/
import Derived.Test.YtdhlgmbmpipppaaLb
namespace Go.Proofs.Ytdhlgmbmpipppaa
open Go.RowKit Go.Shelf
set_option linter.unusedVariables false

section
variable {W X : World} {lb gc gf next : Nat} {cs : List Nat}
theorem alN_cellL {cs vals : List Nat} (h : alOk 256 next vals.length) (i : Nat) : cellN (alN 256 next cs vals) i = if next ≤ i ∧ i < next + vals.length then cellN vals (i - next) else cellN cs i := by
  unfold alN
  rw [if_pos h, spliceN_cell _ _ _ (by rw [padN_length]; omega), padN_cell]
set_option maxRecDepth 100000 in
theorem LB.takeT (h : LB W lb gc gf next cs) (n : Nat) (hn : alOk 256 next n) : Calls Try.prog 53 #[.pointer (some ⟨lb, 0, none⟩), .int .u64 (n : Int)] W fun e w => e = .returned (.tuple #[.int .u64 (next : Int), .bool true]) ∧ w = W.setCell ⟨lb, 2, none⟩ (.int .u64 ((next + n : Nat) : Int)) := by
  have c0 : W.cell? ⟨lb, 0, none⟩ = some (.slice (some ⟨gc, 0, none⟩) 256 256) := cell_of h.blk 0
  have c2 : W.cell? ⟨lb, 2, none⟩ = some (.int .u64 (next : Int)) := cell_of h.blk 2
  have f2 : W.frozen? ⟨lb, 2, none⟩ = false := free_of h.blk 2
  obtain ⟨o1, o2⟩ := hn
  have nx := h.nx
  have w256 : IntKind.u64.wrap 256 = 256 := by decide
  have t1 : (0 : Int) < (n : Int) := by omega
  obtain ⟨r, hr⟩ : ∃ r, r = 256 - next := ⟨_, rfl⟩
  have e1 : IntKind.u64.wrap (256 - (next : Int)) = (r : Int) := by rw [IntKind.wrap_u64]; omega
  have e1' : 256 - (next : Int) = (r : Int) := by omega
  have t2 : ¬ (r : Int) < (n : Int) := by omega
  obtain ⟨m, hm⟩ : ∃ m, m = next + n := ⟨_, rfl⟩
  have e2 : IntKind.u64.wrap ((next : Int) + (n : Int)) = (m : Int) := by rw [IntKind.wrap_u64]; omega
  have e2' : (next : Int) + (n : Int) = (m : Int) := by omega
  rw [← hm]
  clear h hr hm nx
  go_enter Try.func53, Try.ntmps53
  go_wp2_with fail
  go_loopw [] (fun wr => wr = W) (fun _ => 0)
  case atStart => rfl
  case round =>
    subst hrel
    go_wp2_with fail
    refine (a_load c2).mono ?_
    rintro e w ⟨rfl, rfl⟩
    go_wp2_with fail
    refine (a_cas (next : Int) (m : Int) c2 f2).mono ?_
    rintro e w' ⟨rfl, hw⟩
    rw [if_pos rfl] at hw
    subst hw
    rw [decide_eq_true rfl]
    go_wp2_with fail
    go_ret2
    exact ⟨by simp, rfl⟩
set_option maxRecDepth 100000 in
theorem LB.takeF (h : LB W lb gc gf next cs) (n : Nat) (hn : ¬ alOk 256 next n) (hb : n < 18446744073709551616) : Calls Try.prog 53 #[.pointer (some ⟨lb, 0, none⟩), .int .u64 (n : Int)] W fun e w => e = .returned (.tuple #[.int .u64 0, .bool false]) ∧ w = W := by
  have c0 : W.cell? ⟨lb, 0, none⟩ = some (.slice (some ⟨gc, 0, none⟩) 256 256) := cell_of h.blk 0
  have c2 : W.cell? ⟨lb, 2, none⟩ = some (.int .u64 (next : Int)) := cell_of h.blk 2
  have nx := h.nx
  have w256 : IntKind.u64.wrap 256 = 256 := by decide
  obtain ⟨r, hr⟩ : ∃ r, r = 256 - next := ⟨_, rfl⟩
  have e1 : IntKind.u64.wrap (256 - (next : Int)) = (r : Int) := by rw [IntKind.wrap_u64]; omega
  have e1' : 256 - (next : Int) = (r : Int) := by omega
  by_cases z : n = 0
  · subst z
    clear h hr nx
    go_enter Try.func53, Try.ntmps53
    go_wp2_with fail
    go_loopw [] (fun wr => wr = W) (fun _ => 0)
    case atStart => rfl
    case round =>
      subst hrel
      go_wp2_with fail
      go_ret2
      exact ⟨by simp, rfl⟩
  · have t1 : (0 : Int) < (n : Int) := by omega
    have t2 : (r : Int) < (n : Int) := by
      have : ¬ n ≤ 256 - next := fun c => hn ⟨by omega, c⟩
      omega
    clear h hr nx hn
    go_enter Try.func53, Try.ntmps53
    go_wp2_with fail
    go_loopw [] (fun wr => wr = W) (fun _ => 0)
    case atStart => rfl
    case round =>
      subst hrel
      go_wp2_with fail
      refine (a_load c2).mono ?_
      rintro e w ⟨rfl, rfl⟩
      go_wp2_with fail
      go_ret2
      exact ⟨by simp, rfl⟩
/-- Cells of which the first values were stored. -/
def pcN (cs : List Nat) (next : Nat) (vals : List Nat) (i k : Nat) : Nat := if next ≤ k ∧ k < next + i then cellN vals (k - next) else cellN cs k
theorem cellN_get {vals : List Nat} {i x : Nat} (h : vals[i]? = some x) : cellN vals i = x := by unfold cellN; rw [List.getD_eq_getElem?_getD, h]; rfl
set_option maxRecDepth 100000 in
set_option maxHeartbeats 2000000 in
theorem LB.alloc (h : LB W lb gc gf next cs) (p : Option Addr) (c : Nat) (vals : List Nat) (hr : Reads W p vals) (hne : ∀ ad, p = some ad → vals ≠ [] → ad.block ≠ lb ∧ ad.block ≠ gc) (hv : ∀ x ∈ vals, x < 18446744073709551616) (hl : vals.length ≤ 17592186043904) : Calls Try.prog 44 #[.pointer (some ⟨lb, 0, none⟩), .slice p vals.length c] W fun e w => e = .returned (.int .u64 (alAt 256 next vals.length : Int)) ∧ LB w lb gc gf (alNext 256 next vals.length) (alN 256 next cs vals) ∧ Chg (fun k => k = lb ∨ k = gc ∨ k = gf) W w := by
  have wl : IntKind.u64.wrap (vals.length : Int) = (vals.length : Int) := by rw [IntKind.wrap_u64]; omega
  by_cases ok : alOk 256 next vals.length
  · have e1 : alAt 256 next vals.length = next := if_pos ok
    have e2 : alNext 256 next vals.length = next + vals.length := if_pos ok
    rw [e1, e2]
    obtain ⟨n1, n2, n3⟩ := h.ne
    have HT := keepH (h.takeT vals.length ok)
    obtain ⟨W1, hW1⟩ : ∃ W1, W1 = W.setCell ⟨lb, 2, none⟩ (.int .u64 ((next + vals.length : Nat) : Int)) := ⟨_, rfl⟩
    have C1 : Hid (Chg (fun k => k = lb) W W1) := by rw [hW1]; exact (Chg.refl (fun k => k = lb) W).setCell (p := ⟨lb, 2, none⟩) (fun _ => rfl) _
    have B1 : Hid (W1.heap[lb]? = some (.cells (lbL gc gf (next + vals.length)) 65 (0, 0))) := by rw [hW1]; exact set_of h.blk 2 _
    have R1 : Hid (IsR W1 gc 256 (fun k => .int .u64 (pcN cs next vals 0 k : Int)) 63) := IsR.congr ((C1.out.block gc (lt_of h.row) (fun e => n1 e.symm)).trans h.row) (fun i hi => by unfold pcN; rw [if_neg (by omega)])
    have F1 : Hid (IsR W1 gf 4 (fun j => .int .u64 (FW next j : Int)) 63) := (C1.out.block gf (lt_of h.fil) (fun e => n2 e.symm)).trans h.fil
    have HRd := keepH (hr.chg C1.out (fun ad e ne z => (hne ad e ne).1 z))
    have HNe := keepH hne
    have HV := keepH hv
    have H := keepH h
    rw [← hW1] at HT
    have hnx := h.nx
    have o1 := ok.1
    have o2 := ok.2
    clear h hr hne hW1 hv e1 e2
    go_enter Try.func44, Try.ntmps44
    go_wp2_with fail
    refine HT.out.mono ?_
    rintro e w ⟨rfl, rfl⟩
    go_wp2_with fail
    go_loopw [21] (fun s wr => ∃ i : Nat, i ≤ vals.length ∧ s = .int .i64 (i : Int) ∧ Hid (IsR wr gc 256 (fun k => .int .u64 (pcN cs next vals i k : Int)) 63) ∧ Hid (Chg (fun k => k = gc) w wr)) (fun s _ => vals.length - (intOf s).toNat)
    case atStart => exact ⟨0, by omega, rfl, R1, Chg.refl _ _⟩
    case round =>
      obtain ⟨i, hi, rfl, HR, HC⟩ := hrel
      have hbx : wr.heap[lb]? = some (.cells (lbL gc gf (next + vals.length)) 65 (0, 0)) := (HC.out.block lb (lt_of B1.out) n1).trans B1.out
      by_cases hlt : i < vals.length
      · have t1 : (i : Int) < (vals.length : Int) := by omega
        have c0 : wr.cell? ⟨lb, 0, none⟩ = some (.slice (some ⟨gc, 0, none⟩) 256 256) := cell_of hbx 0
        obtain ⟨x, hx⟩ : ∃ x, vals[i]? = some x := ⟨vals[i], List.getElem?_eq_getElem hlt⟩
        have hne0 : vals ≠ [] := fun e => by rw [e] at hlt; simp at hlt
        obtain ⟨ad, hp, hrd⟩ := (HRd.out.chg HC.out (fun ad e ne z => (HNe.out ad e ne).2 z)).resolve_left hne0
        subst hp
        have cv : wr.cell? (ad.add i) = some (.int .u64 (x : Int)) := hrd i _ (by rw [List.getElem?_map, hx]; rfl)
        obtain ⟨k, hk⟩ : ∃ k, k = next + i := ⟨_, rfl⟩
        have w1 : IntKind.u64.wrap (i : Int) = (i : Int) := by rw [IntKind.wrap_u64]; omega
        have w2 : IntKind.u64.wrap ((next : Int) + (i : Int)) = (k : Int) := by rw [IntKind.wrap_u64]; omega
        have w3 : (next : Int) + (i : Int) = (k : Int) := by omega
        have k256 : k < 256 := by omega
        have tk : (k : Int) < 256 := by omega
        have HKk := keepH hk
        have HXx := keepH hx
        clear hbx hrd hk hx
        go_wp2_with fail
        refine (a_store (x : Int) (HR.out.cell k k256) (free_of HR.out k)).mono ?_
        rintro e w' ⟨rfl, rfl⟩
        have HR2 := keepH ((HR.out.set k k256 (.int .u64 (x : Int))).congr (f' := fun k => .int .u64 (pcN cs next vals (i + 1) k : Int)) (fun q hq => by
          have hk := HKk.out
          by_cases e : q = k
          · subst e
            rw [updV_same]
            unfold pcN
            rw [if_pos ⟨by omega, by omega⟩, show q - next = i by omega, cellN_get HXx.out]
          · rw [updV_other _ _ _ _ e]
            unfold pcN
            by_cases c : next ≤ q ∧ q < next + i
            · rw [if_pos c, if_pos ⟨c.1, by omega⟩]
            · rw [if_neg c, if_neg (fun z => c ⟨z.1, by omega⟩)]))
        have HC2 : Hid (Chg (fun k => k = gc) w (wr.setCell ⟨gc, k, none⟩ (.int .u64 (x : Int)))) := HC.out.setCell (p := ⟨gc, k, none⟩) (fun _ => rfl) _
        go_wp2_with fail
        exact ⟨⟨i + 1, by omega, by simp, HR2, HC2⟩, by simp [intOf]; omega⟩
      · have t1 : ¬ (i : Int) < (vals.length : Int) := by omega
        obtain rfl : i = vals.length := by omega
        obtain ⟨k, hk⟩ : ∃ k, k = next + vals.length := ⟨_, rfl⟩
        have w2 : IntKind.u64.wrap ((next : Int) + (vals.length : Int)) = (k : Int) := by rw [IntKind.wrap_u64]; omega
        have w3 : (next : Int) + (vals.length : Int) = (k : Int) := by omega
        have HMk := keepH (t_mark lb gc gf k next k wr (by rw [hk]; exact hbx) ((HC.out.block gf (lt_of F1.out) (fun e => n3 e.symm)).trans F1.out) (by omega) (by omega) n2)
        have HKk := keepH hk
        have HBx := keepH hbx
        clear hbx hk
        go_wp2_with fail
        refine HMk.out.mono ?_
        rintro e w' ⟨rfl, FR, CR⟩
        have HL : Hid (LB w' lb gc gf (next + vals.length) (alN 256 next cs vals)) := by
          have hk := HKk.out
          have hcell := fun i => alN_cellL (cs := cs) ok i
          refine ⟨(CR.block lb (lt_of HBx.out) n2).trans HBx.out, IsR.congr ((CR.block gc (lt_of HR.out) n3).trans HR.out) (fun i hi => ?_), by rw [← hk]; exact FR, by omega, fun i hi => ?_, fun i => ?_⟩
          · rw [hcell]; rfl
          · rw [hcell, if_neg (by omega)]; exact H.out.out i hi
          · rw [hcell]
            split
            · next z =>
              have hg := List.getElem?_eq_getElem (show i - next < vals.length by omega)
              rw [cellN_get hg]
              exact HV.out _ (List.mem_of_getElem? hg)
            · exact H.out.sm i
        have HCh : Hid (Chg (fun k => k = lb ∨ k = gc ∨ k = gf) W w') := ((C1.out.mono (fun _ _ e => .inl e)).trans (HC.out) (H := fun k => k = lb ∨ k = gc ∨ k = gf) (fun _ _ x => x) (fun _ _ e => .inr (.inl e))).trans CR (fun _ _ x => x) (fun _ _ e => .inr (.inr e))
        clear FR CR
        go_wp2_with fail
        go_ret
        exact ⟨by simp, HL.out, HCh.out⟩
  · have e1 : alAt 256 next vals.length = 0 := if_neg ok
    have e2 : alNext 256 next vals.length = next := if_neg ok
    have e3 : alN 256 next cs vals = cs := if_neg ok
    rw [e1, e2, e3]
    have HT := keepH (h.takeF vals.length ok (by omega))
    have H := keepH h
    clear h hr hne e1 e2 e3
    go_enter Try.func44, Try.ntmps44
    go_wp2_with fail
    refine HT.out.mono ?_
    rintro e w ⟨rfl, rfl⟩
    go_wp2_with fail
    go_ret
    exact ⟨by simp, H.out, Chg.refl _ _⟩
set_option maxRecDepth 100000 in
theorem LB.left (h : LB W lb gc gf next cs) : Calls Try.prog 46 #[.pointer (some ⟨lb, 0, none⟩)] W fun e w => e = .returned (.int .i64 ((256 - next : Nat) : Int)) ∧ ∃ q, w = W.drewN q := by
  have c0 : W.cell? ⟨lb, 0, none⟩ = some (.slice (some ⟨gc, 0, none⟩) 256 256) := cell_of h.blk 0
  have nx := h.nx
  have HL : Hid (∀ q, Calls Try.prog 55 #[.pointer (some ⟨lb, 2, none⟩)] (W.drewN q) fun e w => e = .returned (.int .u64 (next : Int)) ∧ w = W.drewN q) := fun q => a_load (W := W.drewN q) ((cell_of h.blk 2 : W.cell? ⟨lb, 2, none⟩ = some (.int .u64 (next : Int))))
  have w1 : IntKind.i64.wrap (next : Int) = (next : Int) := by rw [IntKind.wrap_i64]; omega
  obtain ⟨r, hr⟩ : ∃ r, r = 256 - next := ⟨_, rfl⟩
  have e1 : IntKind.i64.wrap (256 - (next : Int)) = (r : Int) := by rw [IntKind.wrap_i64]; omega
  have e1' : 256 - (next : Int) = (r : Int) := by omega
  rw [← hr]
  clear h hr
  go_enter Try.func46, Try.ntmps46
  go_wp2_with fail
  go_quiet (first | (go_at_call 55; refine (HL.out _).mono ?_; rintro x y ⟨rfl, rfl⟩; exact ⟨rfl, _, rfl⟩))
  go_wp2_with fail
  go_ret
  exact ⟨by simp, _, rfl⟩
end
end Go.Proofs.Ytdhlgmbmpipppaa
