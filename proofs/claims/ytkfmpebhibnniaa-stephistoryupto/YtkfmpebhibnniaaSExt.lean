/- A runner's small calls: may a thread step; a row of steps is extended; accesses are noted. -/
import Derived.Test.YtkfmpebhibnniaaSRun
import Derived.Deep.RegionHeld
namespace Go.Proofs.Ytkfmpebhibnniaa
open Go.RowKit Go.Shelf

theorem infoInt : (Try.prog.info? 3).map (fun i => (i.zero, i.size, i.bytes)) = some (some (.int .i64 0), 1, 8) := by kernel_rfl
def lenV : Value → Nat | .slice _ n _ => n | _ => 0
def extN (ats : List Int) (L : Nat) (num : Int) : List Int := ats ++ List.replicate (L - ats.length) num
theorem extN_length (ats : List Int) (L : Nat) (num : Int) : (extN ats L num).length = max ats.length L := by simp [extN]; omega

set_option maxRecDepth 100000 in
set_option maxHeartbeats 1000000 in
theorem s_extend (v : Value) (ats : List Int) (L : Nat) (num : Int) (W : World) (h : W.ownsRow 0 3 1 v ats.length (ats.map i64V)) (hL : L ≤ 1099511627776) :
    Calls Try.prog 53 #[v, .int .i64 (L : Int), .int .i64 num] W fun e W' => ∃ v', e = .returned v' ∧ W'.ownsRow 0 3 1 v' (extN ats L num).length ((extN ats L num).map i64V) ∧ Chg (fun k => v.ownBlock = some k) W W' ∧ ∀ k, v'.ownBlock = some k → v.ownBlock = some k ∨ W.heap.size ≤ k := by
  obtain ⟨i0, hi, hz0, hz1, hz2⟩ := info_parts infoInt
  have H := keepH h
  obtain ⟨p, c, hv⟩ := slice_of h
  have HV := keepH hv
  subst hv
  clear h
  go_enter Try.func53, Try.ntmps53
  go_wp2_with fail
  go_loopw [0] (fun lv wr => ∃ j : Nat, j ≤ L - ats.length ∧ Hid (wr.ownsRow 0 3 1 lv (ats.length + j) ((ats ++ List.replicate j num).map i64V)) ∧ Hid (Chg (fun k => (Value.slice p ats.length c).ownBlock = some k) W wr) ∧ Hid (∀ k, lv.ownBlock = some k → (Value.slice p ats.length c).ownBlock = some k ∨ W.heap.size ≤ k)) (fun lv _ => L - lenV lv)
  case atStart => exact ⟨0, by omega, by show World.ownsRow _ _ _ _ _ _ _; simpa using H.out, Chg.refl _ _, fun k e => .inl e⟩
  case round =>
    obtain ⟨j, hj, HR, HC, HB⟩ := hrel
    obtain ⟨p1, c1, hv1⟩ := slice_of HR.out
    subst hv1
    by_cases hlt : ats.length + j < L
    · have t1 : ((ats.length + j : Nat) : Int) < (L : Int) := by omega
      have hm : ats.length + j + 1 ≤ maxLen := by unfold maxLen; omega
      obtain ⟨n1, hn1⟩ : ∃ n1, n1 = ats.length + j := ⟨_, rfl⟩
      rw [← hn1] at HR HB t1 hm ⊢
      have HN := keepH hn1
      have hby : (n1 + 1) * 8 ≤ 140737488355328 := by omega
      clear hn1
      go_wp2_with (at_builtin; refine wpList_append_own_at _ rfl _ _ 66 rfl 0 3 i0 (.int .i64 0) 1 8 Try.underlying66 hi hz0 hz1 hz2 rfl (by decide) (.slice p1 n1 c1) n1 _ rfl (HR.out.alloc _) ⟨wr.heap.size, 0, none⟩ 1 1 [.int .i64 num] rfl rfl (cell_one_new _ _ _) (by simp [Value.oneCell']) hm hby (Nat.zero_le _) ?_; intro v' w1 r1 r2 r3 r4; obtain ⟨g', c', rfl⟩ := slice_pos r1 (Nat.succ_pos _); have R1 := keepH r1; have R2 := keepH r2; have R4 := keepH r4; clear r1 r2 r3 r4)
      go_roundw
      case rel =>
        refine ⟨j + 1, by have := HN.out; omega, ?_, ?_, ?_⟩
        · have e := R1.out
          have e2 := HN.out
          subst e2
          show World.ownsRow _ _ _ _ _ _ _
          rw [List.replicate_succ', ← List.append_assoc, List.map_append]
          exact e
        · exact ((HC.out.alloc _).grown R2.out (fun k e hk => (HB.out k e).resolve_right (by omega)))
        · intro k e
          rcases R4.out with e2 | e2
          · rw [e2] at e
            exact HB.out k e
          · rw [e2] at e
            simp at e
            have := HC.out.size
            exact .inr (by omega)
      case measure => simp [lenV]; omega
    · obtain rfl : j = L - ats.length := by omega
      have t1 : ¬ ((ats.length + (L - ats.length) : Nat) : Int) < (L : Int) := by omega
      obtain ⟨n1, hn1⟩ : ∃ n1, n1 = ats.length + (L - ats.length) := ⟨_, rfl⟩
      rw [← hn1] at HR HB t1 ⊢
      have HN := keepH hn1
      clear hn1
      go_wp2_with fail
      go_ret
      refine ⟨.slice p1 n1 c1, by simp, ?_, HC.out, HB.out⟩
      have e := HR.out
      have e2 := HN.out
      rw [show (extN ats L num).length = n1 by rw [extN_length]; omega]
      exact e

set_option maxRecDepth 100000 in
theorem s_isDone (g i : Nat) (x : Thr) (W : World) (h0 : W.cell? ⟨g, i * 3, none⟩ = some x.cv) (h1 : W.cell? ⟨g, i * 3 + 1, none⟩ = some (.int .i64 (x.next : Int))) (hc : W.ownsRow 0 40 1 x.cv x.calls.length x.calls) :
    Calls Try.prog 48 #[.pointer (some ⟨g, i * 3, none⟩)] W fun e W' => e = .returned (.bool (decide (x.calls.length ≤ x.next))) ∧ ∃ q, W' = W.drewN q := by
  obtain ⟨p, c, hv⟩ := slice_of hc
  rw [hv] at h0
  clear hc
  go_enter Try.func48, Try.ntmps48
  go_wp2_with fail
  go_quiet (fail)
  go_wp2_with fail
  go_ret
  exact ⟨by simp, _, rfl⟩

set_option maxRecDepth 100000 in
theorem s_canStep_out {r m : Nat} {vw : List Value} {tv ev av : Value} {ths : List Thr} {steps : Nat} {evs : List Ev} {ats : List Int} {G : Nat → Prop} (th : Int) (W : World) (h : RunAt W G r m vw tv ev av ths steps evs ats) (hth : th < 0 ∨ (ths.length : Int) ≤ th) :
    Calls Try.prog 50 #[.pointer (some ⟨r, 0, none⟩), .int .i64 th] W fun e W' => e = .returned (.bool false) ∧ W' = W := by
  have c1 : W.cell? ⟨r, 65, none⟩ = some tv := h.cellk 0
  obtain ⟨p, c, hv⟩ := slice_of h.tr
  subst hv
  clear h
  by_cases h1 : th < 0
  · have t1 : ¬ (0 : Int) ≤ th := by omega
    go_enter Try.func50, Try.ntmps50
    go_wp2_with fail
    go_ret
    exact ⟨by simp, rfl⟩
  · have t1 : (0 : Int) ≤ th := by omega
    have t2 : ¬ th < (ths.length : Int) := by omega
    clear hth
    go_enter Try.func50, Try.ntmps50
    go_wp2_with fail
    go_ret
    exact ⟨by simp, rfl⟩
set_option maxRecDepth 100000 in
theorem s_canStep_in {r m g c : Nat} {vw : List Value} {ev av : Value} {ths : List Thr} {steps : Nat} {evs : List Ev} {ats : List Int} {G : Nat → Prop} (i : Nat) (x : Thr) (W : World) (h : RunAt W G r m vw (.slice (some ⟨g, 0, none⟩) ths.length c) ev av ths steps evs ats) (hx : ths[i]? = some x) :
    Calls Try.prog 50 #[.pointer (some ⟨r, 0, none⟩), .int .i64 (i : Int)] W fun e W' => e = .returned (.bool (decide (x.next < x.calls.length))) ∧ ∃ q, W' = W.drewN q := by
  have c1 : W.cell? ⟨r, 65, none⟩ = some (.slice (some ⟨g, 0, none⟩) ths.length c) := h.cellk 0
  have hi : i < ths.length := (List.getElem?_eq_some_iff.1 hx).1
  have t2 : (i : Int) < (ths.length : Int) := by omega
  have d0 := keepH (h.thrCell i 0 (by omega) x hx)
  have d1 := keepH (h.thrCell i 1 (by omega) x hx)
  have dc := keepH (h.calls x (List.mem_of_getElem? hx))
  clear h hx
  go_enter Try.func50, Try.ntmps50
  go_wp2_with fail
  refine (s_isDone g i x _ d0.out d1.out dc.out).mono ?_
  rintro e w' ⟨rfl, q, rfl⟩
  go_wp2_with fail
  go_ret
  refine ⟨?_, _, rfl⟩
  simp
  by_cases hh : x.next < x.calls.length
  · simp [hh]
  · simp [hh]
    omega

set_option maxRecDepth 100000 in
set_option maxHeartbeats 4000000 in
theorem s_note {r m b most next : Nat} {vw : List Value} {tv ev av : Value} {ths : List Thr} {steps : Nat} {evs : List Ev} {ats : List Int} {G F : Nat → Prop} {cs : List Nat} {l : List Acc} (ahead : Nat) (num : Int) (W : World) (h : RunAt W G r m vw tv ev av ths steps evs ats) (hm : IsMem W m b) (hb : Bank W F b most next cs l)
    (hd : ∀ k, G k → ¬ F k ∧ k ≠ m) (ha : ahead ≤ 1099511627776) (hl : l.length ≤ 1099511627776) :
    Calls Try.prog 52 #[.pointer (some ⟨r, 0, none⟩), .int .i64 (ahead : Int), .int .i64 num] W fun e W' => e = .returned (.tuple #[]) ∧ ∃ G' av', RunAt W' G' r m vw tv ev av' ths steps evs (extN (extN ats ahead (-1)) l.length num) ∧ Goes W W' G G' := by
  have c3 : W.cell? ⟨r, 68, none⟩ = some av := h.cellk 3
  have H := keepH h
  have HM := keepH hm
  have HB := keepH hb
  clear h hm hb
  go_enter Try.func52, Try.ntmps52
  go_wp2_with fail
  refine (s_extend av ats ahead (-1) _ H.out.ar ha).mono ?_
  rintro e w1 ⟨v1, rfl, R1, C1, B1⟩
  have hy1 : Hid (∀ k, G k → av.ownBlock ≠ some k → w1.heap[k]? = W.heap[k]?) := fun k hk hn => C1.block k (H.out.lt k hk) hn
  have H2 := keepH (H.out.setAts hy1.out C1.size R1)
  have f3 : w1.frozen? ⟨r, 68, none⟩ = false := (World.frozen?_of_block (w := W) (C1.block r (H.out.lt r H.out.inr) (block_apart H.out.ar H.out.blk (by decide)))).trans (H.out.free 68)
  have d3 : w1.cell? ⟨r, 68, none⟩ = some av := (World.cell?_of_block (w := W) (C1.block r (H.out.lt r H.out.inr) (block_apart H.out.ar H.out.blk (by decide)))).trans c3
  have g1 : Hid (Goes W (w1.setCell ⟨r, 68, none⟩ v1) G (fun k => G k ∨ v1.ownBlock = some k)) := ⟨(C1.mono (fun i _ e => H.out.ina i e)).setCell (fun _ => H.out.inr) _, fun k e => e.elim .inl (fun e => (B1 k e).elim (fun e => .inl (H.out.ina k e)) .inr)⟩
  have HM2 : Hid (IsMem (w1.setCell ⟨r, 68, none⟩ v1) m b) := HM.out.chg g1.out.chg (fun e => (hd m e).2 rfl)
  have HB2 : Hid (Bank (w1.setCell ⟨r, 68, none⟩ v1) F b most next cs l) := HB.out.chg g1.out.chg (fun k e e2 => (hd k e2).1 e)
  obtain ⟨p1, q1, hv1⟩ := slice_of R1
  have R1' := keepH R1
  subst hv1
  clear R1 B1 C1
  go_wp2_with fail
  obtain ⟨w2, hw2⟩ : ∃ w2, w2 = w1.setCell ⟨r, 68, none⟩ (.slice p1 (extN ats ahead (-1)).length q1) := ⟨_, rfl⟩
  rw [← hw2] at H2 g1 HM2 HB2 ⊢
  have k3 : w2.cell? ⟨r, 68, none⟩ = some (.slice p1 (extN ats ahead (-1)).length q1) := H2.out.cellk 3
  have k0 : w2.cell? ⟨r, 0, none⟩ = some (.pointer (some ⟨m, 0, none⟩)) := H2.out.cell0
  clear hw2 c3 d3 f3
  go_region_with (first
    | (go_at_call 51; refine (m_made m b most next F cs l _ (HM2.out.chg (W' := w2.drew) (Goes.drewN w2 (fun _ => False) 1).chg (fun h => h)) (HB2.out.chg (W' := w2.drew) (Goes.drewN w2 (fun _ => False) 1).chg (fun _ _ h => h))).mono ?_; rintro e w' ⟨rfl, rfl⟩)
    | (go_at_call 53; refine (s_extend _ (extN ats ahead (-1)) l.length num w2.drew (row_kept (W := w2) H2.out.ar fun k _ => rfl) hl).mono ?_; rintro e w3 ⟨v3, rfl, R3, C3, B3⟩; have hR3 := keepH R3; have hC3 := keepH C3; have hB3 := keepH B3; have f4 : w3.frozen? ⟨r, 68, none⟩ = false := (World.frozen?_of_block (w := w2) (C3.block r (H2.out.lt r H2.out.inr) (block_apart H2.out.ar H2.out.blk (by decide)))).trans (H2.out.free 68); have d4 : w3.cell? ⟨r, 68, none⟩ = some (.slice p1 (extN ats ahead (-1)).length q1) := (World.cell?_of_block (w := w2) (C3.block r (H2.out.lt r H2.out.inr) (block_apart H2.out.ar H2.out.blk (by decide)))).trans k3; obtain ⟨p3, q3, rfl⟩ := slice_of R3; clear R3 C3 B3))
  all_goals (try go_wp2_with fail)
  all_goals go_end0
  all_goals
    have C4 : Chg (fun k => (Value.slice p1 (extN ats ahead (-1)).length q1).ownBlock = some k) w2 w3 := ⟨hC3.out.os, hC3.out.tape, hC3.out.output, hC3.out.size, hC3.out.block⟩
    have H3 := H2.out.setAts (Y := w3) (fun k hk hn => C4.block k (H2.out.lt k hk) hn) C4.size hR3.out
    refine ⟨rfl, _, _, H3, g1.out.trans ⟨(C4.mono (fun i _ e => H2.out.ina i e)).setCell (fun _ => H2.out.inr) _, fun k e => e.elim .inl (fun e => (hB3.out k e).elim (fun e => .inl (H2.out.ina k e)) .inr)⟩⟩
end Go.Proofs.Ytkfmpebhibnniaa
