/- A runner's small calls: may a thread step; a row of steps is extended; accesses are noted. -/
import Derived.Test.YtnhiodmigmmfgaaQ2SRun
import Derived.Deep.RegionHeld
import Derived.Defers
import Derived.Recover
import Derived.Deep.CutRange
namespace Go.Proofs.Ytnhiodmigmmfgaa
open Go.RowKit Go.Shelf

theorem infoInt : (Try.prog.info? 3).map (fun i => (i.zero, i.size, i.bytes)) = some (some (.int .i64 0), 1, 8) := by kernel_rfl
def lenV : Value → Nat | .slice _ n _ => n | _ => 0
def extN (ats : List Int) (L : Nat) (num : Int) : List Int := ats ++ List.replicate (L - ats.length) num
theorem extN_length (ats : List Int) (L : Nat) (num : Int) : (extN ats L num).length = max ats.length L := by simp [extN]; omega

set_option maxRecDepth 100000 in
set_option maxHeartbeats 1000000 in
theorem s_extend (v : Value) (ats : List Int) (L : Nat) (num : Int) (W : World) (h : W.ownsRow 0 3 1 v ats.length (ats.map i64V)) (hL : L ≤ 1099511627776) :
    Calls Try.prog 35 #[v, .int .i64 (L : Int), .int .i64 num] W fun e W' => ∃ v', e = .returned v' ∧ W'.ownsRow 0 3 1 v' (extN ats L num).length ((extN ats L num).map i64V) ∧ Chg (fun k => v.ownBlock = some k) W W' ∧ ∀ k, v'.ownBlock = some k → v.ownBlock = some k ∨ W.heap.size ≤ k := by
  obtain ⟨i0, hi, hz0, hz1, hz2⟩ := info_parts infoInt
  have H := keepH h
  obtain ⟨p, c, hv⟩ := slice_of h
  have HV := keepH hv
  subst hv
  clear h
  go_enter Try.func35, Try.ntmps35
  go_wp2_with fail
  go_loopw [0] (fun lv wr => ∃ j : Nat, j ≤ L - ats.length ∧ Hid (wr.ownsRow 0 3 1 lv (ats.length + j) ((ats ++ List.replicate j num).map i64V)) ∧ Hid (Chg (fun k => (Value.slice p ats.length c).ownBlock = some k) W wr) ∧ Hid (∀ k, lv.ownBlock = some k → (Value.slice p ats.length c).ownBlock = some k ∨ W.heap.size ≤ k)) (fun lv _ => L - lenV lv)
  case atStart => exact ⟨0, by omega, by show World.ownsRow _ _ _ _ _ _ _; simpa using H.out, Chg.refl _ _, fun k e => .inl e⟩
  case round =>
    obtain ⟨j, hj, HR, HC, HB⟩ := hrel
    obtain ⟨p1, c1, hv1⟩ := slice_of HR.out
    subst hv1
    by_cases hlt : ats.length + j < L
    · have t1 : ((ats.length + j : Nat) : Int) < (L : Int) := by omega
      have hm : ats.length + j + 1 ≤ maxLen := by unfold maxLen; omega
      obtain ⟨n1, hn1⟩ : ∃ n1, n1 = ats.length + j := ⟨_, rfl⟩
      rw [← hn1] at HR HB t1 hm ⊢
      have HN := keepH hn1
      have hby : (n1 + 1) * 8 ≤ 140737488355328 := by omega
      clear hn1
      go_wp2_with (at_builtin; refine wpList_append_own_at _ rfl _ _ 23 rfl 0 3 i0 (.int .i64 0) 1 8 Try.underlying23 hi hz0 hz1 hz2 rfl (by decide) (.slice p1 n1 c1) n1 _ rfl (HR.out.alloc _) ⟨wr.heap.size, 0, none⟩ 1 1 [.int .i64 num] rfl rfl (cell_one_new _ _ _) (by simp [Value.oneCell']) hm hby (Nat.zero_le _) ?_; intro v' w1 r1 r2 r3 r4; obtain ⟨g', c', rfl⟩ := slice_pos r1 (Nat.succ_pos _); have R1 := keepH r1; have R2 := keepH r2; have R4 := keepH r4; clear r1 r2 r3 r4)
      go_roundw
      case rel =>
        refine ⟨j + 1, by have := HN.out; omega, ?_, ?_, ?_⟩
        · have e := R1.out
          have e2 := HN.out
          subst e2
          show World.ownsRow _ _ _ _ _ _ _
          rw [List.replicate_succ', ← List.append_assoc, List.map_append]
          exact e
        · exact ((HC.out.alloc _).grown R2.out (fun k e hk => (HB.out k e).resolve_right (by omega)))
        · intro k e
          rcases R4.out with e2 | e2
          · rw [e2] at e
            exact HB.out k e
          · rw [e2] at e
            simp at e
            have := HC.out.size
            exact .inr (by omega)
      case measure => simp [lenV]; omega
    · obtain rfl : j = L - ats.length := by omega
      have t1 : ¬ ((ats.length + (L - ats.length) : Nat) : Int) < (L : Int) := by omega
      obtain ⟨n1, hn1⟩ : ∃ n1, n1 = ats.length + (L - ats.length) := ⟨_, rfl⟩
      rw [← hn1] at HR HB t1 ⊢
      have HN := keepH hn1
      clear hn1
      go_wp2_with fail
      go_ret
      refine ⟨.slice p1 n1 c1, by simp, ?_, HC.out, HB.out⟩
      have e := HR.out
      have e2 := HN.out
      rw [show (extN ats L num).length = n1 by rw [extN_length]; omega]
      exact e

set_option maxRecDepth 100000 in
theorem s_isDone (g i : Nat) (x : Thr) (W : World) (h0 : W.cell? ⟨g, i * 3, none⟩ = some x.cv) (h1 : W.cell? ⟨g, i * 3 + 1, none⟩ = some (.int .i64 (x.next : Int))) (hc : W.ownsRow 0 77 1 x.cv x.calls.length x.calls) :
    Calls Try.prog 33 #[.pointer (some ⟨g, i * 3, none⟩)] W fun e W' => e = .returned (.bool (decide (x.calls.length ≤ x.next))) ∧ ∃ q, W' = W.drewN q := by
  obtain ⟨p, c, hv⟩ := slice_of hc
  rw [hv] at h0
  clear hc
  go_enter Try.func33, Try.ntmps33
  go_wp2_with fail
  go_quiet (fail)
  go_wp2_with fail
  go_ret
  exact ⟨by simp, _, rfl⟩

set_option maxRecDepth 100000 in
theorem s_canStep_out {r m : Nat} {vw : List Value} {tv ev av : Value} {ths : List Thr} {steps : Nat} {evs : List Ev} {ats : List Int} {G : Nat → Prop} (th : Int) (W : World) (h : RunAt W G r m vw tv ev av ths steps evs ats) (hth : th < 0 ∨ (ths.length : Int) ≤ th) :
    Calls Try.prog 29 #[.pointer (some ⟨r, 0, none⟩), .int .i64 th] W fun e W' => e = .returned (.bool false) ∧ W' = W := by
  have c1 : W.cell? ⟨r, 65, none⟩ = some tv := h.cellk 0
  obtain ⟨p, c, hv⟩ := slice_of h.tr
  subst hv
  clear h
  by_cases h1 : th < 0
  · have t1 : ¬ (0 : Int) ≤ th := by omega
    go_enter Try.func29, Try.ntmps29
    go_wp2_with fail
    go_ret
    exact ⟨by simp, rfl⟩
  · have t1 : (0 : Int) ≤ th := by omega
    have t2 : ¬ th < (ths.length : Int) := by omega
    clear hth
    go_enter Try.func29, Try.ntmps29
    go_wp2_with fail
    go_ret
    exact ⟨by simp, rfl⟩
set_option maxRecDepth 100000 in
theorem s_canStep_in {r m g c : Nat} {vw : List Value} {ev av : Value} {ths : List Thr} {steps : Nat} {evs : List Ev} {ats : List Int} {G : Nat → Prop} (i : Nat) (x : Thr) (W : World) (h : RunAt W G r m vw (.slice (some ⟨g, 0, none⟩) ths.length c) ev av ths steps evs ats) (hx : ths[i]? = some x) :
    Calls Try.prog 29 #[.pointer (some ⟨r, 0, none⟩), .int .i64 (i : Int)] W fun e W' => e = .returned (.bool (decide (x.next < x.calls.length))) ∧ ∃ q, W' = W.drewN q := by
  have c1 : W.cell? ⟨r, 65, none⟩ = some (.slice (some ⟨g, 0, none⟩) ths.length c) := h.cellk 0
  have hi : i < ths.length := (List.getElem?_eq_some_iff.1 hx).1
  have t2 : (i : Int) < (ths.length : Int) := by omega
  have d0 := keepH (h.thrCell i 0 (by omega) x hx)
  have d1 := keepH (h.thrCell i 1 (by omega) x hx)
  have dc := keepH (h.calls x (List.mem_of_getElem? hx))
  clear h hx
  go_enter Try.func29, Try.ntmps29
  go_wp2_with fail
  refine (s_isDone g i x _ d0.out d1.out dc.out).mono ?_
  rintro e w' ⟨rfl, q, rfl⟩
  go_wp2_with fail
  go_ret
  refine ⟨?_, _, rfl⟩
  simp
  by_cases hh : x.next < x.calls.length
  · simp [hh]
  · simp [hh]
    omega

set_option maxRecDepth 100000 in
set_option maxHeartbeats 4000000 in
theorem s_note {r m b most next : Nat} {vw : List Value} {tv ev av : Value} {ths : List Thr} {steps : Nat} {evs : List Ev} {ats : List Int} {G F : Nat → Prop} {cs : List Nat} {l : List Acc} (ahead : Nat) (num : Int) (W : World) (h : RunAt W G r m vw tv ev av ths steps evs ats) (hm : IsMem W m b) (hb : Bank W F b most next cs l)
    (hd : ∀ k, G k → ¬ F k ∧ k ≠ m) (ha : ahead ≤ 1099511627776) (hl : l.length ≤ 1099511627776) :
    Calls Try.prog 32 #[.pointer (some ⟨r, 0, none⟩), .int .i64 (ahead : Int), .int .i64 num] W fun e W' => e = .returned (.tuple #[]) ∧ ∃ G' av', RunAt W' G' r m vw tv ev av' ths steps evs (extN (extN ats ahead (-1)) l.length num) ∧ Goes W W' G G' := by
  have c3 : W.cell? ⟨r, 68, none⟩ = some av := h.cellk 3
  have H := keepH h
  have HM := keepH hm
  have HB := keepH hb
  clear h hm hb
  go_enter Try.func32, Try.ntmps32
  go_wp2_with fail
  refine (s_extend av ats ahead (-1) _ H.out.ar ha).mono ?_
  rintro e w1 ⟨v1, rfl, R1, C1, B1⟩
  have hy1 : Hid (∀ k, G k → av.ownBlock ≠ some k → w1.heap[k]? = W.heap[k]?) := fun k hk hn => C1.block k (H.out.lt k hk) hn
  have H2 := keepH (H.out.setAts hy1.out C1.size R1)
  have f3 : w1.frozen? ⟨r, 68, none⟩ = false := (World.frozen?_of_block (w := W) (C1.block r (H.out.lt r H.out.inr) (block_apart H.out.ar H.out.blk (by decide)))).trans (H.out.free 68)
  have d3 : w1.cell? ⟨r, 68, none⟩ = some av := (World.cell?_of_block (w := W) (C1.block r (H.out.lt r H.out.inr) (block_apart H.out.ar H.out.blk (by decide)))).trans c3
  have g1 : Hid (Goes W (w1.setCell ⟨r, 68, none⟩ v1) G (fun k => G k ∨ v1.ownBlock = some k)) := ⟨(C1.mono (fun i _ e => H.out.ina i e)).setCell (fun _ => H.out.inr) _, fun k e => e.elim .inl (fun e => (B1 k e).elim (fun e => .inl (H.out.ina k e)) .inr)⟩
  have HM2 : Hid (IsMem (w1.setCell ⟨r, 68, none⟩ v1) m b) := HM.out.chg g1.out.chg (fun e => (hd m e).2 rfl)
  have HB2 : Hid (Bank (w1.setCell ⟨r, 68, none⟩ v1) F b most next cs l) := HB.out.chg g1.out.chg (fun k e e2 => (hd k e2).1 e)
  obtain ⟨p1, q1, hv1⟩ := slice_of R1
  have R1' := keepH R1
  subst hv1
  clear R1 B1 C1
  go_wp2_with fail
  obtain ⟨w2, hw2⟩ : ∃ w2, w2 = w1.setCell ⟨r, 68, none⟩ (.slice p1 (extN ats ahead (-1)).length q1) := ⟨_, rfl⟩
  rw [← hw2] at H2 g1 HM2 HB2 ⊢
  have k3 : w2.cell? ⟨r, 68, none⟩ = some (.slice p1 (extN ats ahead (-1)).length q1) := H2.out.cellk 3
  have k0 : w2.cell? ⟨r, 0, none⟩ = some (.pointer (some ⟨m, 0, none⟩)) := H2.out.cell0
  clear hw2 c3 d3 f3
  go_region_with (first
    | (go_at_call 30; refine (m_made m b most next F cs l _ (HM2.out.chg (W' := w2.drew) (Goes.drewN w2 (fun _ => False) 1).chg (fun h => h)) (HB2.out.chg (W' := w2.drew) (Goes.drewN w2 (fun _ => False) 1).chg (fun _ _ h => h))).mono ?_; rintro e w' ⟨rfl, rfl⟩)
    | (go_at_call 35; refine (s_extend _ (extN ats ahead (-1)) l.length num w2.drew (row_kept (W := w2) H2.out.ar fun k _ => rfl) hl).mono ?_; rintro e w3 ⟨v3, rfl, R3, C3, B3⟩; have hR3 := keepH R3; have hC3 := keepH C3; have hB3 := keepH B3; have f4 : w3.frozen? ⟨r, 68, none⟩ = false := (World.frozen?_of_block (w := w2) (C3.block r (H2.out.lt r H2.out.inr) (block_apart H2.out.ar H2.out.blk (by decide)))).trans (H2.out.free 68); have d4 : w3.cell? ⟨r, 68, none⟩ = some (.slice p1 (extN ats ahead (-1)).length q1) := (World.cell?_of_block (w := w2) (C3.block r (H2.out.lt r H2.out.inr) (block_apart H2.out.ar H2.out.blk (by decide)))).trans k3; obtain ⟨p3, q3, rfl⟩ := slice_of R3; clear R3 C3 B3))
  all_goals (try go_wp2_with fail)
  all_goals go_end0
  all_goals
    have C4 : Chg (fun k => (Value.slice p1 (extN ats ahead (-1)).length q1).ownBlock = some k) w2 w3 := ⟨hC3.out.os, hC3.out.tape, hC3.out.output, hC3.out.size, hC3.out.block⟩
    have H3 := H2.out.setAts (Y := w3) (fun k hk hn => C4.block k (H2.out.lt k hk) hn) C4.size hR3.out
    refine ⟨rfl, _, _, H3, g1.out.trans ⟨(C4.mono (fun i _ e => H2.out.ina i e)).setCell (fun _ => H2.out.inr) _, fun k e => e.elim .inl (fun e => (hB3.out k e).elim (fun e => .inl (H2.out.ina k e)) .inr)⟩⟩
end Go.Proofs.Ytnhiodmigmmfgaa
/- A proc takes a step: stepOf; a Load. -/
namespace Go.Proofs.Ytnhiodmigmmfgaa
open Go.RowKit Go.Shelf

theorem s_catch (p : Addr) (w : World) :
    CallsD Try.prog 42 #[.pointer (some p)] .returning w fun e u' w' => e = .returned (.tuple #[]) ∧ u' = .returning ∧ w' = w := by
  refine callsD_of_wpS Try.func42 rfl fun c₀ cs hu => ?_
  apply wpS_seq
  apply wpS_region
  simp [wpOpsS, go_sem, recoverD, hu, Try.ntmps42, Exit.thenS]
  refine wpS_cond (t := false) (by simp [Act.eval, Array.replicate]) ?_
  simp only [Bool.false_eq_true, if_false]
  refine wpS_of_wp (wp_skip ?_)
  cases c₀
  simp_all [bodyPostS, results, Try.results42]

theorem mt_step_load (a : Addr) (w : World) : (method 264 57 (.pointer (some a)) "Step").run Try.prog w = .ok (69, .pointer (some a)) w := by kernel_rfl

set_option maxRecDepth 100000 in
theorem s_stepOf_load (a : Addr) (v : Value) (R : Bool → World → Prop) (W : World)
    (hK : Calls Try.prog 69 #[.pointer (some a), v] (W.alloc (.cells #[.bool false] 4)) fun e W' => ∃ d, e = .returned (.bool d) ∧ R d W' ∧ W'.heap[W.heap.size]? = some (.cells #[.bool false] 4 (0, 0))) :
    Calls Try.prog 31 #[.iface 57 (.pointer (some a)), v] W fun e W' => ∃ d W1, e = .returned (.bool d) ∧ R d W1 ∧ W1.heap[W.heap.size]? = some (.cells #[.bool false] 4 (0, 0)) ∧ W' = W1.setCell ⟨W.heap.size, 0, none⟩ (.bool d) := by
  have hmf : ∀ (fn : Fn) (first cap : Array Value) (w : World), (Instr.makeFunc fn first cap).run Try.prog w = .ok (.func fn first cap) w := fun _ _ _ _ => rfl
  have hm := mt_step_load a
  have HK := keepH hK
  clear hK
  go_enter_defers Try.func31, Try.ntmps31
  go_wp2_with fail
  refine HK.out.mono ?_
  rintro e W1 ⟨d, rfl, hR, hb⟩
  have c0 : W1.cell? ⟨W.heap.size, 0, none⟩ = some (.bool false) := cell_of hb 0
  have f0 := free_of hb 0
  have HR := keepH hR
  have HB := keepH hb
  clear hR hb
  go_wp2_with fail
  refine leaves_cons (f := 42) (args := #[.pointer (some ⟨W.heap.size, 0, none⟩)]) (by simp) (by simp [go_sem]) ?_
  refine (s_catch ⟨W.heap.size, 0, none⟩ _).mono ?_
  rintro e u' w'' ⟨rfl, rfl, rfl⟩
  have r0 := World.cell?_setCell_same' W1 ⟨W.heap.size, 0, none⟩ (.bool d) (by rw [c0]; rfl)
  simp [Leaves, settle, results, Try.results31, go_sem, r0]
  cases d
  · exact .inl ⟨rfl, W1, HR.out, HB.out, rfl⟩
  · exact .inr ⟨rfl, W1, HR.out, HB.out, rfl⟩

set_option maxRecDepth 100000 in
theorem s_stepOf_nil (v : Value) (W : World) : Calls Try.prog 31 #[.nilIface, v] W fun e W' => e = .returned (.bool true) ∧ Chg (fun _ => False) W W' := by
  go_enter_defers Try.func31, Try.ntmps31
  go_wp2_with fail
  simp [bodyPostD, Leaves, results, Try.results31, go_sem]
  exact (Chg.refl _ W).alloc _

/-- A Load: its cell, what it told, whether it is done. -/
def IsLoad (W : World) (p addr val : Nat) (done : Bool) : Prop := W.heap[p]? = some (.cells #[.int .u64 (addr : Int), .int .u64 (val : Int), .bool done] 96 (0, 0))
theorem IsLoad.chg {W W' : World} {F : Nat → Prop} {p addr val : Nat} {done : Bool} (h : IsLoad W p addr val done) (hc : Chg F W W') (hn : ¬ F p) : IsLoad W' p addr val done := (hc.block p (lt_of h) hn).trans h

set_option maxRecDepth 100000 in
theorem load_new (addr : Nat) (W : World) : Calls Try.prog 12 #[.int .u64 (addr : Int)] W fun e W' => e = .returned (.pointer (some ⟨W.heap.size, 0, none⟩)) ∧ W' = W.alloc (.cells #[.int .u64 (addr : Int), .int .u64 0, .bool false] 96) := by
  go_enter Try.func12, Try.ntmps12
  go_wp2_with fail
  go_ret
  exact ⟨by simp, rfl⟩
set_option maxRecDepth 100000 in
theorem load_step (p addr val v b most next made : Nat) (th : Int) (F : Nat → Prop) (cs : List Nat) (l : List Acc) (W : World) (hp : IsLoad W p addr val false) (hw : IsView W v b th made) (h : Bank W F b most next cs l) (hnv : ¬ F v) (hnp : ¬ F p) (hpv : p ≠ v) (hmd : made < 1099511627776) (hl : l.length < 1099511627776) (ha : addr < 18446744073709551616) :
    Calls Try.prog 69 #[.pointer (some ⟨p, 0, none⟩), .pointer (some ⟨v, 0, none⟩)] W fun e W' => e = .returned (.bool true) ∧ ∃ F' vs, Bank W' F' b most next cs (l ++ [⟨th, 1, addr, 0, 0, vs, [], cellN cs addr, false⟩]) ∧ IsView W' v b th (made + 1) ∧ IsLoad W' p addr (cellN cs addr) true ∧ ¬ F' p ∧ ¬ F' v ∧
      Chg (fun k => (F k ∨ k = v) ∨ k = p) W W' ∧ ∀ k, F' k → F k ∨ W.heap.size ≤ k := by
  have c0 : W.cell? ⟨p, 0, none⟩ = some (.int .u64 (addr : Int)) := cell_of hp 0
  have c2 : W.cell? ⟨p, 2, none⟩ = some (.bool false) := cell_of hp 2
  have HP := keepH hp
  have HW := keepH hw
  have H := keepH h
  clear hp hw h
  go_enter Try.func69, Try.ntmps69
  go_wp2_with fail
  refine (v_load v b most next made th addr F cs l _ HW.out H.out hnv hmd hl ha).mono ?_
  rintro e W1 ⟨rfl, F1, vs, B1, V1, G1⟩
  have hp1 : Hid (IsLoad W1 p addr val false) := HP.out.chg G1.chg (fun e => e.elim hnp hpv)
  have d1 : W1.cell? ⟨p, 1, none⟩ = some (.int .u64 (val : Int)) := cell_of hp1.out 1
  have d2 : W1.cell? ⟨p, 2, none⟩ = some (.bool false) := cell_of hp1.out 2
  have f1 := free_of hp1.out 1
  have f2 := free_of hp1.out 2
  have n1 : ¬ F1 p := G1.out (lt_of HP.out) hnp
  have n2 : ¬ F1 v := G1.out HW.out.lt hnv
  have HB1 := keepH B1
  have HV1 := keepH V1
  clear B1 V1
  go_wp2_with fail
  go_ret
  have cg : Chg (fun k => k = p) W1 ((W1.setCell ⟨p, 1, none⟩ (.int .u64 (cellN cs addr : Int))).setCell ⟨p, 2, none⟩ (.bool true)) := ((Chg.refl (fun k => k = p) W1).setCell (p := ⟨p, 1, none⟩) (fun _ => rfl) _).setCell (p := ⟨p, 2, none⟩) (fun _ => rfl) _
  refine ⟨by simp, F1, vs, HB1.out.chg cg (fun k e e2 => n1 (e2 ▸ e)), HV1.out.chg cg (fun e => hpv e.symm), ?_, n1, n2, G1.chg.trans cg (fun _ _ e => .inl e) (fun _ _ e => .inr e), G1.new⟩
  have e := set_of (set_of hp1.out 1 (.int .u64 (cellN cs addr : Int))) 2 (.bool true)
  exact e
end Go.Proofs.Ytnhiodmigmmfgaa
/- A runner's pick. -/
namespace Go.Proofs.Ytnhiodmigmmfgaa
open Go.RowKit Go.Shelf

def evV (st th ix : Int) (ret : Bool) : Value := .agg #[.int .i64 st, .int .i64 th, .int .i64 ix, .bool ret]
theorem infoE : (Try.prog.info? 99).map (fun i => (i.zero, i.size, i.bytes)) = some (some (evV 0 0 0 false), 4, 32) := by kernel_rfl

section
variable {r m : Nat} {vw : List Value} {tv ev av : Value} {ths : List Thr} {steps : Nat} {evs : List Ev} {ats : List Int} {G : Nat → Prop}

set_option maxRecDepth 100000 in
theorem r_pick_out (th : Int) (W : World) (h : RunAt W G r m vw tv ev av ths steps evs ats) (hth : th < 0 ∨ (ths.length : Int) ≤ th) (hst : steps < 1099511627776) :
    Calls Try.prog 13 #[.pointer (some ⟨r, 0, none⟩), .int .i64 th] W fun e W' => e = .returned (.bool false) ∧ RunAt W' G r m vw tv ev av ths (steps + 1) evs ats ∧ Goes W W' G G := by
  have c1 : W.cell? ⟨r, 66, none⟩ = some (.int .i64 (steps : Int)) := h.cellk 1
  have f1 := h.free 66
  obtain ⟨n1, hn1⟩ : ∃ n1, n1 = steps + 1 := ⟨_, rfl⟩
  have wn : IntKind.i64.wrap ((steps : Int) + 1) = (n1 : Int) := by rw [IntKind.wrap_i64]; omega
  have H := keepH h
  have H1 := keepH (h.setSteps n1)
  have HN := keepH hn1
  clear h hn1
  go_enter Try.func13, Try.ntmps13
  go_wp2_with fail
  refine (s_canStep_out th _ H1.out hth).mono ?_
  rintro e w' ⟨rfl, rfl⟩
  go_wp2_with fail
  go_ret
  exact ⟨by simp, by rw [← HN.out]; exact H1.out, ⟨(Chg.refl G W).setCell (fun _ => H.out.inr) _, fun _ e => .inl e⟩⟩
set_option maxRecDepth 100000 in
theorem r_pick_done {g c : Nat} (i : Nat) (x : Thr) (W : World) (h : RunAt W G r m vw (.slice (some ⟨g, 0, none⟩) ths.length c) ev av ths steps evs ats) (hx : ths[i]? = some x) (hd : x.calls.length ≤ x.next) (hst : steps < 1099511627776) :
    Calls Try.prog 13 #[.pointer (some ⟨r, 0, none⟩), .int .i64 (i : Int)] W fun e W' => e = .returned (.bool false) ∧ RunAt W' G r m vw (.slice (some ⟨g, 0, none⟩) ths.length c) ev av ths (steps + 1) evs ats ∧ Goes W W' G G := by
  have c1 : W.cell? ⟨r, 66, none⟩ = some (.int .i64 (steps : Int)) := h.cellk 1
  have f1 := h.free 66
  obtain ⟨n1, hn1⟩ : ∃ n1, n1 = steps + 1 := ⟨_, rfl⟩
  have wn : IntKind.i64.wrap ((steps : Int) + 1) = (n1 : Int) := by rw [IntKind.wrap_i64]; omega
  have H := keepH h
  have H1 := keepH (h.setSteps n1)
  have HN := keepH hn1
  have t1 : decide (x.next < x.calls.length) = false := by simp; omega
  clear h hn1
  go_enter Try.func13, Try.ntmps13
  go_wp2_with fail
  refine (s_canStep_in i x _ H1.out hx).mono ?_
  rintro e w' ⟨rfl, q, rfl⟩
  go_wp2_with fail
  go_ret
  refine ⟨by simp, ?_, ⟨((Chg.refl G W).setCell (fun _ => H.out.inr) _).trans (Goes.drewN _ G q).chg (fun _ _ x => x) (fun _ _ x => x), fun _ e => .inl e⟩⟩
  rw [← HN.out]
  exact H1.out.kept (Nat.le_refl _) (fun _ _ => rfl)
end

/-- What a pick leaves of a thread, of the events, of the steps of accesses. -/
def pickThr (x : Thr) (d : Bool) : Thr := { x with next := x.next + (if d then 1 else 0), begun := !d }
def pickEvs (evs : List Ev) (x : Thr) (steps i : Nat) (d : Bool) : List Ev :=
  (if x.begun then evs else evs ++ [⟨(steps : Int), (i : Int), (x.next : Int), false⟩]) ++ (if d then [⟨(steps : Int), (i : Int), (x.next : Int), true⟩] else [])

/-- One event more. -/
theorem ev_more {X Y : World} {r m : Nat} {vw : List Value} {tv ev av : Value} {ths : List Thr} {steps : Nat} {evs : List Ev} {ats : List Int} {G : Nat → Prop} {g' c' : Nat} {ob : Obj} {y : Ev} (h : RunAt X G r m vw tv ev av ths steps evs ats)
    (hg : ((X.drew).alloc ob).grownBy Y ev.ownBlock) (ho : Y.ownsRow 0 99 4 (.slice (some ⟨g', 0, none⟩) (evs.length + 1) c') (evs.length + 1) (evRow evs ++ y.cells)) (hw : ev.ownBlock = some g' ∨ X.heap.size ≤ g') :
    RunAt (Y.setCell ⟨r, 67, none⟩ (.slice (some ⟨g', 0, none⟩) (evs.length + 1) c')) (fun k => G k ∨ k = g') r m vw tv (.slice (some ⟨g', 0, none⟩) (evs.length + 1) c') av ths steps (evs ++ [y]) ats ∧
      Goes X (Y.setCell ⟨r, 67, none⟩ (.slice (some ⟨g', 0, none⟩) (evs.length + 1) c')) G (fun k => G k ∨ k = g') := by
  have hs : X.heap.size ≤ Y.heap.size := by have := hg.size; simp at this; omega
  have hy : ∀ k, G k → ev.ownBlock ≠ some k → Y.heap[k]? = X.heap[k]? := fun k hk hn => (hg.block k (by have := h.lt k hk; simp; omega) (fun e => hn e.symm)).trans (Below.heap_alloc X.drew ob k (h.lt k hk))
  have row : Y.ownsRow 0 99 4 (.slice (some ⟨g', 0, none⟩) (evs.length + 1) c') (evs ++ [y]).length (evRow (evs ++ [y])) := by simpa [evRow] using ho
  have e := h.setEvents hy hs row
  have eG : (fun k => G k ∨ (Value.slice (some ⟨g', 0, none⟩) (evs.length + 1) c').ownBlock = some k) = (fun k => G k ∨ k = g') := by funext k; simp [Value.ownBlock, eq_comm]
  rw [eG] at e
  refine ⟨e, ⟨?_, fun k hk => hk.elim .inl (fun e => hw.elim (fun e2 => .inl (h.ine k (by rw [e]; exact e2))) (fun e2 => .inr (by omega)))⟩⟩
  exact (((Chg.refl G X).drew.alloc ob).grown hg (fun k e _ => h.ine k e)).setCell (fun _ => h.inr) _
end Go.Proofs.Ytnhiodmigmmfgaa
/- A runner's pick of a thread that may step. -/
namespace Go.Proofs.Ytnhiodmigmmfgaa
open Go.RowKit Go.Shelf

set_option maxRecDepth 100000 in
set_option maxHeartbeats 8000000 in
theorem r_pick_in {r m g c vb : Nat} {vw : List Value} {ev av : Value} {ths : List Thr} {steps : Nat} {evs : List Ev} {ats : List Int} {G K : Nat → Prop} (I : World → (Nat → Prop) → Prop) (J : Bool → World → (Nat → Prop) → Prop) (ln : Nat) (ln' : Bool → Nat) (i : Nat) (x : Thr) (p : Value) (W : World)
    (h : RunAt W G r m vw (.slice (some ⟨g, 0, none⟩) ths.length c) ev av ths steps evs ats) (hx : ths[i]? = some x) (hn : x.next < x.calls.length) (hp : x.calls[x.next]? = some p) (hv : vw[i]? = some (.pointer (some ⟨vb, 0, none⟩)))
    (hI : I W K) (hGK : ∀ k, G k → ¬ K k)
    (keepI : ∀ X Y K, I X K → X.heap.size ≤ Y.heap.size → (∀ k, K k → Y.heap[k]? = X.heap[k]?) → I Y K) (ltI : ∀ X K, I X K → ∀ k, K k → k < X.heap.size)
    (memI : ∀ X K, I X K → ∃ b F most next cs l, IsMem X m b ∧ Bank X F b most next cs l ∧ l.length = ln ∧ (∀ k, F k → K k) ∧ K m)
    (keepJ : ∀ d X Y K, J d X K → X.heap.size ≤ Y.heap.size → (∀ k, K k → Y.heap[k]? = X.heap[k]?) → J d Y K) (ltJ : ∀ d X K, J d X K → ∀ k, K k → k < X.heap.size)
    (memJ : ∀ d X K, J d X K → ∃ b F most next cs l, IsMem X m b ∧ Bank X F b most next cs l ∧ l.length = ln' d ∧ (∀ k, F k → K k) ∧ K m)
    (step : ∀ X K, I X K → Calls Try.prog 31 #[p, .pointer (some ⟨vb, 0, none⟩)] X fun e X' => ∃ d K', e = .returned (.bool d) ∧ J d X' K' ∧ Goes X X' K K')
    (hst : steps < 1099511627776) (hev : evs.length + 2 ≤ 1099511627776) (hln : ln ≤ 1099511627776) (hln' : ∀ d, ln' d ≤ 1099511627776) :
    Calls Try.prog 13 #[.pointer (some ⟨r, 0, none⟩), .int .i64 (i : Int)] W fun e W' => ∃ d G' K' ev' av', e = .returned (.bool true) ∧ RunAt W' G' r m vw (.slice (some ⟨g, 0, none⟩) ths.length c) ev' av' (ths.set i (pickThr x d)) (steps + 1) (pickEvs evs x steps i d) (extN (extN ats ln (-1)) (ln' d) (steps : Int)) ∧
      J d W' K' ∧ (∀ k, G' k → ¬ K' k) ∧ Goes W W' (fun k => G k ∨ K k) (fun k => G' k ∨ K' k) := by
  obtain ⟨i0, hi, hz0, hz1, hz2⟩ := info_parts infoE
  have c1 : W.cell? ⟨r, 66, none⟩ = some (.int .i64 (steps : Int)) := h.cellk 1
  have f1 := h.free 66
  obtain ⟨n1, hn1⟩ : ∃ n1, n1 = steps + 1 := ⟨_, rfl⟩
  have wn : IntKind.i64.wrap ((steps : Int) + 1) = (n1 : Int) := by rw [IntKind.wrap_i64]; omega
  have H := keepH h
  have H1 := keepH (h.setSteps n1)
  have HN := keepH hn1
  have t1 : decide (x.next < x.calls.length) = true := by simp; omega
  have hil : i < ths.length := (List.getElem?_eq_some_iff.1 hx).1
  have hi64 : i < 64 := by have := h.thl; omega
  have HX := keepH hx
  have HP := keepH hp
  have HVW := keepH hv
  have HI := keepH hI
  have HGK := keepH hGK
  have kI := keepH keepI
  have lI := keepH ltI
  have mI := keepH memI
  have kJ := keepH keepJ
  have lJ := keepH ltJ
  have mJ := keepH memJ
  have ST := keepH step
  have hln2 := keepH hln'
  clear h hn1 hp hv hI hGK keepI ltI memI keepJ ltJ memJ step hx hln'
  go_enter Try.func13, Try.ntmps13
  go_wp2_with fail
  refine (s_canStep_in i x _ H1.out HX.out).mono ?_
  rintro e w' ⟨rfl, q, rfl⟩
  obtain ⟨w1, hw1⟩ : ∃ w1, w1 = ((W.setCell ⟨r, 66, none⟩ (.int .i64 (n1 : Int))).drewN q) := ⟨_, rfl⟩
  rw [← hw1]
  have R1 : Hid (RunAt w1 G r m vw (.slice (some ⟨g, 0, none⟩) ths.length c) ev av ths n1 evs ats) := by rw [hw1]; exact H1.out.kept (Nat.le_refl _) (fun _ _ => rfl)
  have G1 : Hid (Goes W w1 G G) := by rw [hw1]; exact ⟨((Chg.refl G W).setCell (fun _ => H.out.inr) _).trans (Goes.drewN _ G q).chg (fun _ _ x => x) (fun _ _ x => x), fun _ e => .inl e⟩
  have hsz1 : w1.heap.size = W.heap.size := by rw [hw1]; simp [World.setCell]
  have c65 : w1.cell? ⟨r, 65, none⟩ = some (.slice (some ⟨g, 0, none⟩) ths.length c) := R1.out.cellk 0
  have d1 : w1.cell? ⟨g, i * 3 + 1, none⟩ = some (.int .i64 (x.next : Int)) := R1.out.thrCell i 1 (by omega) x HX.out
  have d2 : w1.cell? ⟨g, i * 3 + 2, none⟩ = some (.bool x.begun) := R1.out.thrCell i 2 (by omega) x HX.out
  have hgl : g < w1.heap.size := row_lt R1.out.tr g rfl
  have ne1 : ¬ g = w1.heap.size := by omega
  have ne2 : ¬ w1.heap.size = g := by omega
  have hil' : (i : Int) < (ths.length : Int) := by omega
  have d2a : ∀ o, (w1.alloc o).cell? ⟨g, i * 3 + 2, none⟩ = some (.bool x.begun) := fun o => (World.cell?_of_block (w := w1) (Below.heap_alloc _ _ _ hgl)).trans d2
  clear hw1 c1 f1 H1
  go_upto_if 44 with fail
  go_cut [] from 43 to 57 (fun wx => ∃ G2 ev2, Hid (RunAt wx G2 r m vw (.slice (some ⟨g, 0, none⟩) ths.length c) ev2 av (ths.set i { x with begun := true }) n1 (if x.begun then evs else evs ++ [⟨(steps : Int), (i : Int), (x.next : Int), false⟩]) ats) ∧ Hid (Goes W wx G G2) ∧ Hid (wx.heap[W.heap.size]? = some (.cells #[.int .i64 (steps : Int), .int .i64 (i : Int), .int .i64 (x.next : Int), .bool false] 99 (0, 0))) ∧ Hid (¬ G2 W.heap.size))
  case first =>
    have f2 : ∀ o, (w1.alloc o).frozen? ⟨g, i * 3 + 2, none⟩ = false := fun o => (World.frozen?_of_block (w := w1) (Below.heap_alloc _ _ _ hgl)).trans (World.ownsRow.frozenAt R1.out.tr (i * 3 + 2))
    have RE : Hid (∀ o, RunAt (w1.alloc o) G r m vw (.slice (some ⟨g, 0, none⟩) ths.length c) ev av ths n1 evs ats) := fun o => R1.out.chg ((Chg.refl (fun _ => False) _).alloc o) (fun _ _ h => h)
    have GE : Hid (∀ o, Goes W (w1.alloc o) G G) := fun o => ⟨G1.out.chg.alloc o, fun _ e => .inl e⟩
    have hG0 : Hid (¬ G W.heap.size) := fun e => by have := H.out.lt _ e; omega
    by_cases hbg : x.begun = true
    · have hb1 : (!x.begun) = false := by simp [hbg]
      simp only [hb1]
      go_wp2_with fail
      go_meet
      have es : ths.set i { x with begun := true } = ths := by
        have e : ({ x with begun := true } : Thr) = x := by cases x; simp_all
        rw [e]
        apply List.ext_getElem?
        intro j
        by_cases hj : j = i
        · subst hj
          simp [hil]
          have := HX.out
          rw [List.getElem?_eq_getElem hil] at this
          simpa using this.symm
        · rw [List.getElem?_set_ne (Ne.symm hj)]
      refine ⟨G, ev, ?_, GE.out _, ?_, hG0.out⟩
      · rw [es, if_pos hbg]
        exact RE.out _
      · have e := heap_alloc_new w1 (.cells #[.int .i64 (steps : Int), .int .i64 (i : Int), .int .i64 (x.next : Int), .bool false] 99)
        rw [hsz1] at e
        exact e
    · have hb1 : (!x.begun) = true := by simp [hbg]
      simp only [hb1]
      have X2 : Hid (∀ o, RunAt ((w1.alloc o).setCell ⟨g, i * 3 + 2, none⟩ (.bool true)) G r m vw (.slice (some ⟨g, 0, none⟩) ths.length c) ev av (ths.set i { x with begun := true }) n1 evs ats) := fun o => (RE.out o).setThr i 2 (by omega) x { x with begun := true } HX.out _ rfl ⟨rfl, rfl⟩ (show x.next ≤ x.calls.length by omega)
      go_wp2_with fail
      obtain ⟨w2, hw2⟩ : ∃ w2, w2 = ((w1.alloc (.cells #[.int .i64 (steps : Int), .int .i64 (i : Int), .int .i64 (x.next : Int), .bool false] 99)).setCell ⟨g, i * 3 + 2, none⟩ (.bool true)) := ⟨_, rfl⟩
      rw [← hw2]
      have R2 : Hid (RunAt w2 G r m vw (.slice (some ⟨g, 0, none⟩) ths.length c) ev av (ths.set i { x with begun := true }) n1 evs ats) := by rw [hw2]; exact X2.out _
      have G2 : Hid (Goes W w2 G G) := by rw [hw2]; exact ⟨(GE.out _).chg.setCell (fun _ => H.out.int g rfl) _, fun _ e => .inl e⟩
      have E2 : Hid (w2.heap[W.heap.size]? = some (.cells #[.int .i64 (steps : Int), .int .i64 (i : Int), .int .i64 (x.next : Int), .bool false] 99 (0, 0))) := by
        have e := heap_alloc_new w1 (.cells #[.int .i64 (steps : Int), .int .i64 (i : Int), .int .i64 (x.next : Int), .bool false] 99)
        rw [hsz1] at e
        rw [hw2]
        exact other_of e (by omega) _
      have hs2 : w2.heap.size = W.heap.size + 1 := by rw [hw2]; simp [World.setCell, hsz1]
      have e0 : w2.cell? ⟨W.heap.size, 0, none⟩ = some (.int .i64 (steps : Int)) := cell_of E2.out 0
      have e1 : w2.cell? ⟨W.heap.size, 1, none⟩ = some (.int .i64 (i : Int)) := cell_of E2.out 1
      have e2 : w2.cell? ⟨W.heap.size, 2, none⟩ = some (.int .i64 (x.next : Int)) := cell_of E2.out 2
      have e3 : w2.cell? ⟨W.heap.size, 3, none⟩ = some (.bool false) := cell_of E2.out 3
      have c67 : w2.cell? ⟨r, 67, none⟩ = some ev := R2.out.cellk 2
      have c67a : ∀ o, (w2.alloc o).cell? ⟨r, 67, none⟩ = some ev := fun o => (World.cell?_of_block (w := w2) (Below.heap_alloc _ _ _ (lt_of R2.out.blk))).trans c67
      have HE : Hid (w2.drew.ownsRow 0 99 4 ev evs.length (evRow evs)) := row_kept (W := w2) R2.out.er fun k _ => rfl
      obtain ⟨pe, ce, hev'⟩ := slice_of R2.out.er
      have HEV := keepH hev'
      subst hev'
      have hsz2 : Hid (w2.drew.heap.size = W.heap.size + 1) := hs2
      clear hw2 X2 RE GE f2 d2a d1 d2 c65
      go_region_law (refine step_append_own rfl (.tmp 52) (.tmp 54) 62 rfl 99 i0 (evV 0 0 0 false) 4 32 Try.underlying62 hi hz0 hz1 hz2 rfl (by decide) (.slice pe evs.length ce) evs.length (evRow evs) rfl (HE.out.alloc _) ⟨W.heap.size + 1, 0, none⟩ 1 1 [.int .i64 (steps : Int), .int .i64 (i : Int), .int .i64 (x.next : Int), .bool false] rfl rfl (cells_new _ _ hsz2.out _ _) (by simp [Value.oneCell']) (by unfold maxLen; omega) (by omega) ?_; intro v' w3 hown3 hgr3 _ hwh3; obtain ⟨g', c3, rfl⟩ := slice_pos hown3 (Nat.succ_pos _); have hb3 := keepH ((hgr3.block r (by have := lt_of R2.out.blk; simp; omega) (fun e => block_apart R2.out.er R2.out.blk (by decide) e.symm)).trans ((Below.heap_alloc w2.drew _ r (lt_of R2.out.blk)).trans R2.out.blk)); have r8 : w3.cell? ⟨r, 67, none⟩ = some (.slice pe evs.length ce) := (cell_of hb3.out 67).trans ((cell_of R2.out.blk 67).symm.trans c67); have rf := free_of hb3.out 67; have HO := keepH hown3; have HW3 := keepH hwh3; have HG3 := keepH hgr3; clear hown3 hwh3 hgr3)
      all_goals (try go_wp2_with fail)
      all_goals go_meet
      all_goals
        have hw' : (Value.slice pe evs.length ce).ownBlock = some g' ∨ w2.heap.size ≤ g' := by
          rcases HW3.out with e | e
          · exact .inl e.symm
          · simp [Value.ownBlock] at e
            exact .inr (by omega)
        obtain ⟨RR, GG⟩ := ev_more (y := ⟨(steps : Int), (i : Int), (x.next : Int), false⟩) R2.out HG3.out HO.out hw'
        have hgn : g' ≠ W.heap.size := by
          rcases hw' with e | e
          · have := H.out.lt g' (H.out.ine g' e)
            omega
          · omega
        refine ⟨fun k => G k ∨ k = g', .slice (some ⟨g', 0, none⟩) (evs.length + 1) c3, ?_, G2.out.trans GG, ?_, fun e => e.elim hG0.out (fun e => hgn e.symm)⟩
        · rw [if_neg hbg]
          exact RR
        · exact (GG.chg.block _ (by omega) hG0.out).trans E2.out
  case rest =>
    obtain ⟨G2, ev2, R2, GG2, E2, N2⟩ := hcut
    have IW : Hid (I wc K) := kI.out W wc K HI.out GG2.out.chg.size (fun k hk => GG2.out.chg.block k (lI.out W K HI.out k hk) (fun e => HGK.out k e hk))
    have GK2 : Hid (∀ k, G2 k → ¬ K k) := fun k e hk => (GG2.out.new k e).elim (fun e => HGK.out k e hk) (fun e => by have := lI.out W K HI.out k hk; omega)
    obtain ⟨b, F, most, next, cs, l, hm, hb, hll, hFK, hKm⟩ := mI.out wc K IW.out
    have c0 : wc.cell? ⟨r, 0, none⟩ = some (.pointer (some ⟨m, 0, none⟩)) := R2.out.cell0
    have HMc := keepH hm
    have HBc := keepH hb
    clear hm hb d1 d2 d2a c65 R1 G1 hFK hKm
    go_upto_region 13 with (refine (m_made m b most next F cs l _ HMc.out HBc.out).mono ?_; rintro e w' ⟨rfl, rfl⟩)
    have hx2 : (ths.set i { x with begun := true })[i]? = some { x with begun := true } := by simp [hil]
    have t0 : w'.cell? ⟨g, i * 3, none⟩ = some x.cv := by
      have R2' := R2.out
      rw [show ths.length = (ths.set i { x with begun := true }).length by simp] at R2'
      exact R2'.thrCell i 0 (by omega) { x with begun := true } hx2
    have t3 : w'.cell? ⟨g, i * 3 + 1, none⟩ = some (.int .i64 (x.next : Int)) := by
      have R2' := R2.out
      rw [show ths.length = (ths.set i { x with begun := true }).length by simp] at R2'
      exact R2'.thrCell i 1 (by omega) { x with begun := true } hx2
    have hrow : w'.ownsRow 0 77 1 x.cv x.calls.length x.calls := R2.out.calls { x with begun := true } (List.mem_of_getElem? hx2)
    obtain ⟨gc, cc, hcv⟩ := slice_pos hrow (by omega)
    rw [hcv] at t0 hrow
    have tp : w'.cell? ⟨gc, x.next, none⟩ = some p := by rw [World.ownsRow.cellAt hrow x.next (by omega)]; exact HP.out
    have tvw : w'.cell? ⟨r, 1 + i, none⟩ = some (.pointer (some ⟨vb, 0, none⟩)) := (R2.out.cellv i hi64).trans HVW.out
    have u1 : (x.next : Int) < (x.calls.length : Int) := by omega
    have u2 : (i : Int) < 64 := by omega
    have HCV := keepH hcv
    clear hrow hcv hx2 c0
    go_cut [9] from 63 to 79 (fun s9 wx => ∃ d K3, s9 = .bool d ∧ Hid (J d wx K3) ∧ Hid (Goes w' wx K K3))
    case first =>
      go_region_with (go_at_call 31; refine (ST.out w'.drew K (kI.out w' w'.drew K IW.out (Nat.le_refl _) (fun _ _ => rfl))).mono ?_; rintro e w4 ⟨d, K3, rfl, hJ, hG⟩; have HJ := keepH hJ; have HG4 := keepH hG; clear hJ hG)
      all_goals (try go_wp2_with fail)
      all_goals go_meet
      all_goals exact ⟨d, K3, rfl, HJ, ⟨⟨HG4.out.chg.os, HG4.out.chg.tape, HG4.out.chg.output, HG4.out.chg.size, HG4.out.chg.block⟩, HG4.out.new⟩⟩
    case rest =>
      obtain ⟨d, K3, rfl, HJ, G3⟩ := hcut
      have R3 : Hid (RunAt wc G2 r m vw (.slice (some ⟨g, 0, none⟩) ths.length c) ev2 av (ths.set i { x with begun := true }) n1 (if x.begun then evs else evs ++ [⟨(steps : Int), (i : Int), (x.next : Int), false⟩]) ats) := R2.out.chg G3.out.chg GK2.out
      have GK3 : Hid (∀ k, G2 k → ¬ K3 k) := fun k e hk => (G3.out.new k hk).elim (GK2.out k e) (fun e2 => by have := R2.out.lt k e; omega)
      obtain ⟨b', F', most', next', cs', l', hm', hb', hll', hFK', hKm'⟩ := mJ.out d wc K3 HJ.out
      have HM' := keepH hm'
      have HB' := keepH hb'
      have HD' : Hid (∀ k, G2 k → ¬ F' k ∧ k ≠ m) := fun k e => ⟨fun e2 => GK3.out k e (hFK' k e2), fun e2 => GK3.out k e (by rw [e2]; exact hKm')⟩
      have hl2 : l'.length ≤ 1099511627776 := by rw [hll']; exact hln2.out d
      have HLL := keepH hll'
      have hE3 : Hid (wc.heap[W.heap.size]? = some (.cells #[.int .i64 (steps : Int), .int .i64 (i : Int), .int .i64 (x.next : Int), .bool false] 99 (0, 0))) := (G3.out.chg.block _ (lt_of E2.out) (fun e => by have := lI.out W K HI.out _ e; omega)).trans E2.out
      clear hm' hb' hll' hFK' hKm' t0 t3 tp tvw hll HMc HBc
      go_wp2_with fail
      refine (s_note ln (steps : Int) _ R3.out HM'.out HB'.out HD'.out hln hl2).mono ?_
      rintro e w5 ⟨rfl, G5, av5, R5, GG5⟩
      have HR5 : Hid (RunAt w5 G5 r m vw (.slice (some ⟨g, 0, none⟩) ths.length c) ev2 av5 (ths.set i { x with begun := true }) n1 (if x.begun then evs else evs ++ [⟨(steps : Int), (i : Int), (x.next : Int), false⟩]) (extN (extN ats ln (-1)) (ln' d) (steps : Int))) := by rw [← HLL.out]; exact R5
      have HG5 := keepH GG5
      have GK5 : Hid (∀ k, G5 k → ¬ K3 k) := fun k e hk => (GG5.new k e).elim (fun e => GK3.out k e hk) (fun e => by have := lJ.out d wc K3 HJ.out k hk; omega)
      have HJ5 : Hid (J d w5 K3) := kJ.out d wc w5 K3 HJ.out GG5.chg.size (fun k hk => GG5.chg.block k (lJ.out d wc K3 HJ.out k hk) (fun e => GK3.out k e hk))
      have hE5 : Hid (w5.heap[W.heap.size]? = some (.cells #[.int .i64 (steps : Int), .int .i64 (i : Int), .int .i64 (x.next : Int), .bool false] 99 (0, 0))) := (GG5.chg.block _ (lt_of hE3.out) N2.out).trans hE3.out
      have NG5 : Hid (¬ G5 W.heap.size) := fun e => (GG5.new _ e).elim N2.out (fun e => by have := lt_of hE3.out; omega)
      have NK3 : Hid (¬ K3 W.heap.size) := fun e => (G3.out.new _ e).elim (fun e => by have := lI.out W K HI.out _ e; omega) (fun e => by have := lt_of E2.out; omega)
      have GT : Hid (Goes W w5 (fun k => G k ∨ K k) (fun k => G5 k ∨ K3 k)) := by
        refine ⟨(GG2.out.chg.trans G3.out.chg (H := fun k => G k ∨ K k) (fun _ _ e => .inl e) (fun _ _ e => .inr e)).trans GG5.chg (fun _ _ e => e) (fun k hk e => (GG2.out.new k e).elim .inl (fun e => by omega)), fun k e => ?_⟩
        have s1 := GG2.out.chg.size
        have s2 := G3.out.chg.size
        rcases e with e | e
        · rcases GG5.new k e with e | e
          · rcases GG2.out.new k e with e | e
            · exact .inl (.inl e)
            · exact .inr e
          · exact .inr (by omega)
        · rcases G3.out.new k e with e | e
          · exact .inl (.inr e)
          · exact .inr (by omega)
      clear R5 GG5 R3 GG2 G3 hE3 HM' HB' HD' E2 N2 IW GK2 GK3 R2 HJ
      cases d with
      | false =>
        go_wp2_with fail
        go_ret
        refine ⟨false, G5, K3, ev2, av5, by simp, ?_, HJ5.out, GK5.out, GT.out⟩
        have e := HR5.out
        rw [← HN.out]
        have e1 : pickThr x false = { x with begun := true } := rfl
        have e2 : pickEvs evs x steps i false = (if x.begun then evs else evs ++ [⟨(steps : Int), (i : Int), (x.next : Int), false⟩]) := by simp [pickEvs]
        rw [e1, e2]
        exact e
      | true =>
        have hxm : (ths.set i { x with begun := true })[i]? = some { x with begun := true } := by simp [hil]
        obtain ⟨nx, hnx⟩ : ∃ nx, nx = x.next + 1 := ⟨_, rfl⟩
        have hcl := (H.out.nxt x (List.mem_of_getElem? HX.out)).2
        have wx : IntKind.i64.wrap ((x.next : Int) + 1) = (nx : Int) := by rw [IntKind.wrap_i64]; omega
        have R5 : Hid (RunAt w5 G5 r m vw (.slice (some ⟨g, 0, none⟩) (ths.set i { x with begun := true }).length c) ev2 av5 (ths.set i { x with begun := true }) n1 (if x.begun then evs else evs ++ [⟨(steps : Int), (i : Int), (x.next : Int), false⟩]) (extN (extN ats ln (-1)) (ln' true) (steps : Int))) := by rw [List.length_set]; exact HR5.out
        have k1 : w5.cell? ⟨g, i * 3 + 1, none⟩ = some (.int .i64 (x.next : Int)) := R5.out.thrCell i 1 (by omega) { x with begun := true } hxm
        have k2 : w5.cell? ⟨g, i * 3 + 2, none⟩ = some (.bool true) := R5.out.thrCell i 2 (by omega) { x with begun := true } hxm
        have z1 : w5.frozen? ⟨g, i * 3 + 1, none⟩ = false := World.ownsRow.frozenAt R5.out.tr (i * 3 + 1)
        have z2 : w5.frozen? ⟨g, i * 3 + 2, none⟩ = false := World.ownsRow.frozenAt R5.out.tr (i * 3 + 2)
        have R6 : Hid (RunAt (w5.setCell ⟨g, i * 3 + 2, none⟩ (.bool false)) G5 r m vw (.slice (some ⟨g, 0, none⟩) (ths.set i { x with begun := false }).length c) ev2 av5 (ths.set i { x with begun := false }) n1 (if x.begun then evs else evs ++ [⟨(steps : Int), (i : Int), (x.next : Int), false⟩]) (extN (extN ats ln (-1)) (ln' true) (steps : Int))) := by
          have e := R5.out.setThr i 2 (by omega) { x with begun := true } { x with begun := false } hxm (.bool false) rfl ⟨rfl, rfl⟩ (show x.next ≤ x.calls.length by omega)
          refine keepH ?_
          simpa [List.length_set, List.set_set] using e
        have hxf : (ths.set i { x with begun := false })[i]? = some { x with begun := false } := by simp [hil]
        have R7 : Hid (RunAt ((w5.setCell ⟨g, i * 3 + 2, none⟩ (.bool false)).setCell ⟨g, i * 3 + 1, none⟩ (.int .i64 (nx : Int))) G5 r m vw (.slice (some ⟨g, 0, none⟩) ths.length c) ev2 av5 (ths.set i (pickThr x true)) n1 (if x.begun then evs else evs ++ [⟨(steps : Int), (i : Int), (x.next : Int), false⟩]) (extN (extN ats ln (-1)) (ln' true) (steps : Int))) := by
          have e := R6.out.setThr i 1 (by omega) { x with begun := false } (pickThr x true) hxf (.int .i64 (nx : Int)) (by rw [hnx]; rfl) ⟨rfl, rfl⟩ (show x.next + 1 ≤ x.calls.length by omega)
          refine keepH ?_
          simpa [List.length_set, List.set_set] using e
        have E5 : w5.cell? ⟨W.heap.size, 3, none⟩ = some (.bool false) := cell_of hE5.out 3
        have zE : w5.frozen? ⟨W.heap.size, 3, none⟩ = false := free_of hE5.out 3
        have hgW : g < W.heap.size := by have := H.out.lt g (H.out.int g rfl); omega
        have nn1 : ¬ W.heap.size = g := by omega
        have nn2 : ¬ g = W.heap.size := by omega
        have HNX := keepH hnx
        clear hxm hxf hnx R5 R6
        go_upto_region 19 with fail
        obtain ⟨w8, hw8⟩ : ∃ w8, w8 = (((w5.setCell ⟨g, i * 3 + 2, none⟩ (.bool false)).setCell ⟨g, i * 3 + 1, none⟩ (.int .i64 (nx : Int))).setCell ⟨W.heap.size, 3, none⟩ (.bool true)) := ⟨_, rfl⟩
        rw [← hw8]
        have R8 : Hid (RunAt w8 G5 r m vw (.slice (some ⟨g, 0, none⟩) ths.length c) ev2 av5 (ths.set i (pickThr x true)) n1 (if x.begun then evs else evs ++ [⟨(steps : Int), (i : Int), (x.next : Int), false⟩]) (extN (extN ats ln (-1)) (ln' true) (steps : Int))) := by
          rw [hw8]
          exact R7.out.chg ((Chg.refl (fun k => k = W.heap.size) _).setCell (p := ⟨W.heap.size, 3, none⟩) (fun _ => rfl) _) (fun k e e2 => NG5.out (by rw [← e2]; exact e))
        have G8 : Hid (Chg (fun k => k = g ∨ k = W.heap.size) w5 w8) := by
          rw [hw8]
          exact (((Chg.refl (fun k => k = g ∨ k = W.heap.size) w5).setCell (p := ⟨g, i * 3 + 2, none⟩) (fun _ => .inl rfl) _).setCell (p := ⟨g, i * 3 + 1, none⟩) (fun _ => .inl rfl) _).setCell (p := ⟨W.heap.size, 3, none⟩) (fun _ => .inr rfl) _
        have hE8 : Hid (w8.heap[W.heap.size]? = some (.cells #[.int .i64 (steps : Int), .int .i64 (i : Int), .int .i64 (x.next : Int), .bool true] 99 (0, 0))) := by
          rw [hw8]
          have e := set_of (other_of (other_of hE5.out nn1 (.bool false) (k := i * 3 + 2)) nn1 (.int .i64 (nx : Int)) (k := i * 3 + 1)) 3 (.bool true)
          exact e
        have y0 : w8.cell? ⟨W.heap.size, 0, none⟩ = some (.int .i64 (steps : Int)) := cell_of hE8.out 0
        have y1 : w8.cell? ⟨W.heap.size, 1, none⟩ = some (.int .i64 (i : Int)) := cell_of hE8.out 1
        have y2 : w8.cell? ⟨W.heap.size, 2, none⟩ = some (.int .i64 (x.next : Int)) := cell_of hE8.out 2
        have y3 : w8.cell? ⟨W.heap.size, 3, none⟩ = some (.bool true) := cell_of hE8.out 3
        have c67 : w8.cell? ⟨r, 67, none⟩ = some ev2 := R8.out.cellk 2
        have c67a : ∀ o, (w8.alloc o).cell? ⟨r, 67, none⟩ = some ev2 := fun o => (World.cell?_of_block (w := w8) (Below.heap_alloc _ _ _ (lt_of R8.out.blk))).trans c67
        obtain ⟨evs2, hevs2⟩ : ∃ evs2, evs2 = (if x.begun then evs else evs ++ [⟨(steps : Int), (i : Int), (x.next : Int), false⟩]) := ⟨_, rfl⟩
        rw [← hevs2] at R8
        have hel : evs2.length + 1 ≤ 1099511627776 := by rw [hevs2]; split <;> simp <;> omega
        have HEQ := keepH hevs2
        have HE : Hid (w8.drew.ownsRow 0 99 4 ev2 evs2.length (evRow evs2)) := row_kept (W := w8) R8.out.er fun k _ => rfl
        obtain ⟨pe, ce, hev'⟩ := slice_of R8.out.er
        subst hev'
        clear hw8 hevs2 k1 k2 z1 z2 E5 zE R7 HR5 hE5
        go_region_law (refine step_append_own rfl (.tmp 100) (.tmp 102) 62 rfl 99 i0 (evV 0 0 0 false) 4 32 Try.underlying62 hi hz0 hz1 hz2 rfl (by decide) (.slice pe evs2.length ce) evs2.length (evRow evs2) rfl (HE.out.alloc _) ⟨w8.heap.size, 0, none⟩ 1 1 [.int .i64 (steps : Int), .int .i64 (i : Int), .int .i64 (x.next : Int), .bool true] rfl rfl (cells_new _ _ rfl _ _) (by simp [Value.oneCell']) (by unfold maxLen; omega) (by omega) ?_; intro v' w3 hown3 hgr3 _ hwh3; obtain ⟨g', c3, rfl⟩ := slice_pos hown3 (Nat.succ_pos _); have hb3 := keepH ((hgr3.block r (by have := lt_of R8.out.blk; simp; omega) (fun e => block_apart R8.out.er R8.out.blk (by decide) e.symm)).trans ((Below.heap_alloc w8.drew _ r (lt_of R8.out.blk)).trans R8.out.blk)); have r8 : w3.cell? ⟨r, 67, none⟩ = some (.slice pe evs2.length ce) := (cell_of hb3.out 67).trans ((cell_of R8.out.blk 67).symm.trans c67); have rf := free_of hb3.out 67; have HO := keepH hown3; have HW3 := keepH hwh3; have HG3 := keepH hgr3; clear hown3 hwh3 hgr3)
        all_goals (try go_wp2_with fail)
        all_goals go_ret
        all_goals
          have hw' : (Value.slice pe evs2.length ce).ownBlock = some g' ∨ w8.heap.size ≤ g' := by
            rcases HW3.out with e | e
            · exact .inl e.symm
            · simp [Value.ownBlock] at e
              exact .inr (by omega)
          obtain ⟨RR, GG⟩ := ev_more (y := ⟨(steps : Int), (i : Int), (x.next : Int), true⟩) R8.out HG3.out HO.out hw'
          have g5 : G5 g := R8.out.int g rfl
          have c58 : Chg (fun k => G5 k ∨ k = W.heap.size) w5 (w3.setCell ⟨r, 67, none⟩ (.slice (some ⟨g', 0, none⟩) (evs2.length + 1) c3)) := G8.out.trans GG.chg (fun k _ e => e.elim (fun e => .inl (by rw [e]; exact g5)) .inr) (fun k _ e => .inl e)
          have hJ8 := kJ.out true w5 _ K3 HJ5.out c58.size (fun k hk => c58.block k (lJ.out true w5 K3 HJ5.out k hk) (fun e => e.elim (fun e => GK5.out k e hk) (fun e => NK3.out (by rw [← e]; exact hk))))
          refine ⟨true, fun k => G5 k ∨ k = g', K3, .slice (some ⟨g', 0, none⟩) (evs2.length + 1) c3, av5, by simp, ?_, hJ8, ?_, ?_⟩
          · have e2 : pickEvs evs x steps i true = evs2 ++ [⟨(steps : Int), (i : Int), (x.next : Int), true⟩] := by rw [HEQ.out]; rfl
            rw [← HN.out, e2]
            exact RR
          · intro k e hk
            rcases e with e | e
            · exact GK5.out k e hk
            · rcases hw' with e2 | e2
              · exact GK5.out k (R8.out.ine k (by rw [e]; exact e2)) hk
              · have := lJ.out true w5 K3 HJ5.out k hk
                have := G8.out.size
                omega
          · refine ⟨GT.out.chg.trans c58 (fun _ _ e => e) (fun k hk e => e.elim (fun e => (GT.out.new k (.inl e)).elim (fun e => e) (fun e => by omega)) (fun e => by omega)), fun k e => ?_⟩
            have s1 := GT.out.chg.size
            have s2 := G8.out.size
            rcases e with (e | e) | e
            · exact GT.out.new k (.inl e)
            · rcases hw' with e2 | e2
              · exact GT.out.new k (.inl (R8.out.ine k (by rw [e]; exact e2)))
              · exact .inr (by omega)
            · exact GT.out.new k (.inr e)
end Go.Proofs.Ytnhiodmigmmfgaa
