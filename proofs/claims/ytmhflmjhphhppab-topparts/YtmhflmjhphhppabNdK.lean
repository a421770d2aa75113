/- Node's Fork on a memory with room: what its steps do. -/
import Derived.Deep.MidRow
import Derived.Test.YtmhflmjhphhppabNdF
namespace Go.Proofs.Ytmhflmjhphhppab
open Go.RowKit Go.Shelf
set_option linter.unusedVariables false

theorem setCells_of (t : TypeId) (p : Nat) (vs : List Value) : ∀ (pre old post : List Value) (w : World), w.heap[p]? = some (.cells (pre ++ old ++ post).toArray t (0, 0)) → old.length = vs.length → (w.setCells p pre.length vs).heap[p]? = some (.cells (pre ++ vs ++ post).toArray t (0, 0)) := by
  induction vs with
  | nil =>
    intro pre old post w h hl
    obtain rfl : old = [] := List.length_eq_zero_iff.1 hl
    simpa [World.setCells] using h
  | cons x vs ih =>
    intro pre old post w h hl
    obtain ⟨y, old', rfl⟩ : ∃ y old', old = y :: old' := by
      cases old with
      | nil => simp at hl
      | cons y o => exact ⟨y, o, rfl⟩
    have h1 := set_of h pre.length x
    have e : (pre ++ y :: old' ++ post).toArray.setIfInBounds pre.length x = ((pre ++ [x]) ++ old' ++ post).toArray := by
      rw [List.setIfInBounds_toArray]
      congr 1
      simp
    rw [e] at h1
    have h2 := ih (pre ++ [x]) old' post (w.setCell ⟨p, pre.length, none⟩ x) h1 (by simpa using hl)
    simp only [List.length_append, List.length_singleton] at h2
    simpa [World.setCells] using h2
theorem setCells_chg (p : Nat) (vs : List Value) : ∀ (o : Nat) (w : World), Chg (fun k => k = p) w (w.setCells p o vs) := by
  induction vs with
  | nil => intro o w; exact Chg.refl _ _
  | cons x vs ih =>
    intro o w
    exact (setC (W := w) (p := p) (i := o) x).trans (ih (o + 1) _) (fun _ _ x => x) (fun _ _ x => x)
theorem fork_set {W : World} {p : Nat} {over : Bool} {err aw am bw bm top level : Nat} {cells : List Nat} {pos wd : Nat} (h : IsFork W p over err aw am bw bm top level cells pos wd) (i x : Nat) (hi : i < 64) : IsFork (W.setCell ⟨p, 8 + i, none⟩ (.int .u64 (x : Int))) p over err aw am bw bm top level (cells.set i x) pos wd := by
  refine ⟨by simp [h.1], ?_⟩
  have e := set_of h.2 (8 + i) (.int .u64 (x : Int))
  rw [e, List.setIfInBounds_toArray]
  congr 2
  unfold forkL
  rw [List.append_assoc, List.set_append_right _ _ (by simp), List.set_append_left _ _ (by simp; have := h.1; omega), List.append_assoc, List.map_set]
  simp [u64V]
theorem fork_setpos {W : World} {p : Nat} {over : Bool} {err aw am bw bm top level : Nat} {cells : List Nat} {pos wd : Nat} (h : IsFork W p over err aw am bw bm top level cells pos wd) (x : Nat) : IsFork (W.setCell ⟨p, 72, none⟩ (.int .i64 (x : Int))) p over err aw am bw bm top level cells x wd := by
  refine ⟨h.1, ?_⟩
  have e := set_of h.2 72 (.int .i64 (x : Int))
  rw [e, List.setIfInBounds_toArray]
  congr 2
  unfold forkL
  rw [List.set_append_right _ _ (by simp [h.1])]
  simp [h.1]
theorem fork_setwd {W : World} {p : Nat} {over : Bool} {err aw am bw bm top level : Nat} {cells : List Nat} {pos wd : Nat} (h : IsFork W p over err aw am bw bm top level cells pos wd) (x : Nat) : IsFork (W.setCell ⟨p, 73, none⟩ (.int .u64 (x : Int))) p over err aw am bw bm top level cells pos x := by
  refine ⟨h.1, ?_⟩
  have e := set_of h.2 73 (.int .u64 (x : Int))
  rw [e, List.setIfInBounds_toArray]
  congr 2
  unfold forkL
  rw [List.set_append_right _ _ (by simp [h.1])]
  simp [h.1]
theorem fork_zero {W : World} {p : Nat} {over : Bool} {err aw am bw bm top level : Nat} {cells : List Nat} {pos wd : Nat} (h : IsFork W p over err aw am bw bm top level cells pos wd) : IsFork (W.setCells p 8 ((List.replicate 64 0).map u64V)) p over err aw am bw bm top level (List.replicate 64 0) pos wd := by
  refine ⟨by simp, ?_⟩
  exact setCells_of 136 p ((List.replicate 64 0).map u64V) [.bool over, .int .i64 (err : Int), .int .u64 (aw : Int), .int .u64 (am : Int), .int .u64 (bw : Int), .int .u64 (bm : Int), .int .i64 (top : Int), .int .i64 (level : Int)] (cells.map u64V) [.int .i64 (pos : Int), .int .u64 (wd : Int)] W h.2 (by simp [h.1])

set_option maxRecDepth 100000 in
set_option maxHeartbeats 2000000 in
theorem hang_ok (p v b most next made : Nat) (th : Int) (F : Nat → Prop) (cs : List Nat) (l : List Acc) (W : World) {aw am bw bm top level : Nat} {cells : List Nat} {pos wd : Nat} (hp : IsFork W p false 0 aw am bw bm top level cells pos wd) (hw : IsView W v b th made) (h : Bank W F b most next cs l) (hnv : ¬ F v) (hnp : ¬ F p) (hpv : p ≠ v) (hmd : made < 1099511627776) (hl : l.length < 1099511627776) (cw cm thn : Nat) (hcw : cw < 18446744073709551616) (hcm : cm < 18446744073709551616) (hlv : level < 11) (a : Nat) (ea : alAt most next 3 = a) (ha : a ≠ 0) (dg : Nat) (hdg : (dg : Int) = dig cm level) (hdl : dg < 64) :
    Calls Try.prog 74 #[.pointer (some ⟨p, 0, none⟩), .pointer (some ⟨v, 0, none⟩), .agg #[.int .u64 (cw : Int), .int .u64 (cm : Int)], .int .i64 (thn : Int)] W fun e W' => e = .returned (.bool false) ∧ IsFork W' p false 0 aw am bw bm top level (cells.set dg a) thn wd ∧ Went W W' F v p b most (alNext most next 3) (alN most next cs [cw, 1, 0]) th (made + 1) (fun vs => l ++ [⟨th, 5, a, 0, 0, vs, [cw, 1, 0], 0, false⟩]) := by
  obtain ⟨w1, hw1⟩ : ∃ w1, w1 = W.alloc (.cells #[.int .u64 (cw : Int), .int .u64 (cm : Int)] 133) := ⟨_, rfl⟩
  have C1 : Chg (fun _ => False) W w1 := by rw [hw1]; exact (Chg.refl _ _).alloc _
  have b1 : w1.heap[W.heap.size]? = some (.cells #[.int .u64 (cw : Int), .int .u64 (cm : Int)] 133 (0, 0)) := by rw [hw1]; exact heap_alloc_new _ _
  have hs1 : w1.heap.size = W.heap.size + 1 := by rw [hw1]; simp
  have c0 : w1.cell? ⟨W.heap.size, 0, none⟩ = some (.int .u64 (cw : Int)) := cell_of b1 0
  have HP := keepH (hp.chg C1 (fun x => x))
  have HW := keepH (hw.chg C1 (fun x => x))
  have H := keepH (h.chg C1 (fun _ _ x => x))
  have HC1 := keepH C1
  have HB1 := keepH b1
  have HS1 := keepH hs1
  have HF : Hid (¬ F W.heap.size) := fun x => Nat.lt_irrefl _ (h.lt' _ x)
  have HVl : Hid (v < W.heap.size) := hw.lt
  have HPl : Hid (p < W.heap.size) := lt_of hp.2
  have HDG : Hid (∀ w, Calls Try.prog 44 #[.int .u64 (cm : Int), .int .i64 (level : Int)] w fun e W' => e = .returned (.int .i64 (dg : Int)) ∧ W' = w) := fun w => by rw [hdg]; exact digit_any cm level w (by omega) (by omega) (by omega) (by omega)
  have n1 : ((a : Int) == 0) = false := beq_eq_false_iff_ne.2 (by omega)
  clear hp hw h C1 b1 hs1 hdg
  go_enter Try.func74, Try.ntmps74
  go_upto_region 1 with fail
  rw [← hw1]
  clear hw1
  go_wp2_with fail
  refine (v_alloc v b most next made th (some ⟨w1.heap.size, 0, none⟩) 3 [cw, 1, 0] F cs l _ (HW.out.chg (F := fun _ => False) ((Chg.refl _ w1).alloc _) (fun h => h)) (H.out.chg (G := fun _ => False) ((Chg.refl _ w1).alloc _) (fun _ _ h => h)) hnv hmd hl (reads_new w1 [cw, 1, 0] w1.heap.size rfl) (fun ad e _ => by cases e; exact fun y => Nat.lt_irrefl _ (H.out.lt' _ y)) (fun ad e _ => by cases e; exact fun y => by have := HVl.out; have := HS1.out; simp only [] at y; omega) (by simp; omega) (by simp)).mono ?_
  rintro e w2 ⟨rfl, F2, vs, B2, V2, G2⟩
  have CA : Chg (fun k => F k ∨ k = v) w1 w2 := ((Chg.refl (fun k => F k ∨ k = v) w1).alloc _).trans G2.chg (fun _ _ x => x) (fun _ _ x => x)
  have HG2 : Hid (GoesV W w2 F F2 v) := GoesV.from HC1.out (GoesV.from ((Chg.refl (fun _ => False) w1).alloc _) G2)
  have HP2 := keepH (HP.out.chg CA (fun e => e.elim hnp hpv))
  have d1 : w2.cell? ⟨W.heap.size, 1, none⟩ = some (.int .u64 (cm : Int)) := cell_of ((CA.block _ (by have := HS1.out; omega) (fun e => e.elim HF.out (by have := HVl.out; omega))).trans HB1.out) 1
  have HN2 : Hid (¬ F2 p) := HG2.out.out HPl.out hnp
  have ev : alAt most next [cw, 1, 0].length = a := ea
  rw [ev] at B2
  have HB2 := keepH B2
  have HV2 := keepH V2
  have e7 : w2.cell? ⟨p, 7, none⟩ = some (.int .i64 (level : Int)) := cell_of HP2.out.2 7
  have fc : w2.cell? ⟨p, 8 + dg, none⟩ = some (.int .u64 (cellN cells dg : Int)) := (cell_of HP2.out.2 (8 + dg)).trans (fork_cell HP2.out.1 dg hdl)
  have ff := free_of HP2.out.2 (8 + dg)
  clear CA B2 V2 G2 c0
  go_upto_region 4 with fail
  go_cut [] from 21 to 32 (fun wz => Hid (IsFork wz p false 0 aw am bw bm top level (cells.set dg a) pos wd ∧ Chg (fun k => k = p) w2 wz))
  case first =>
    go_region_with (go_at_call 44; refine (HDG.out _).mono ?_; rintro e w3 ⟨rfl, rfl⟩)
    all_goals (try go_wp2_with fail)
    all_goals go_meet
    all_goals (exact keepH ⟨fork_set HP2.out dg a hdl, (setC (W := w2) _).drew⟩)
  case rest =>
    obtain ⟨wz, hwz⟩ : ∃ wz, wz = wc := ⟨_, rfl⟩
    rw [← hwz] at hcut ⊢
    clear hwz
    obtain ⟨P3, C3⟩ := hcut.out
    have HP3 := keepH P3
    have HC3 := keepH C3
    have e72 : wz.cell? ⟨p, 72, none⟩ = some (.int .i64 (pos : Int)) := (cell_of P3.2 72).trans (fork_pos P3.1)
    have f72 := free_of P3.2 72
    clear hcut P3 C3 d1 e7 fc ff
    go_wp2_with fail
    go_ret
    have c4 : Chg (fun k => k = p) w2 (wz.setCell ⟨p, 72, none⟩ (.int .i64 (thn : Int))) := HC3.out.trans (setC _) (fun _ _ x => x) (fun _ _ x => x)
    exact ⟨by simp, fork_setpos HP3.out thn, F2, vs, HB2.out.putC HN2.out c4, HV2.out.chg c4 (Ne.symm hpv), HG2.out.thenP c4⟩

theorem reads_fork {W : World} {p : Nat} {over : Bool} {err aw am bw bm top level : Nat} {cells : List Nat} {pos wd : Nat} (h : IsFork W p over err aw am bw bm top level cells pos wd) : Reads W (some ⟨p, 8, none⟩) cells := by
  refine .inr ⟨_, rfl, fun j u hj => ?_⟩
  rw [Addr.add_mid]
  rw [List.getElem?_map] at hj
  obtain ⟨x, hx, rfl⟩ := Option.map_eq_some_iff.1 hj
  have hlt : j < cells.length := (List.getElem?_eq_some_iff.1 hx).1
  rw [cell_of h.2, fork_cell h.1 j (by have := h.1; omega)]
  simp [u64V, cellN, hx]
def zs64 : Array Value := #[.int .u64 0, .int .u64 0, .int .u64 0, .int .u64 0, .int .u64 0, .int .u64 0, .int .u64 0, .int .u64 0, .int .u64 0, .int .u64 0, .int .u64 0, .int .u64 0, .int .u64 0, .int .u64 0, .int .u64 0, .int .u64 0, .int .u64 0, .int .u64 0, .int .u64 0, .int .u64 0, .int .u64 0, .int .u64 0, .int .u64 0, .int .u64 0, .int .u64 0, .int .u64 0, .int .u64 0, .int .u64 0, .int .u64 0, .int .u64 0, .int .u64 0, .int .u64 0, .int .u64 0, .int .u64 0, .int .u64 0, .int .u64 0, .int .u64 0, .int .u64 0, .int .u64 0, .int .u64 0, .int .u64 0, .int .u64 0, .int .u64 0, .int .u64 0, .int .u64 0, .int .u64 0, .int .u64 0, .int .u64 0, .int .u64 0, .int .u64 0, .int .u64 0, .int .u64 0, .int .u64 0, .int .u64 0, .int .u64 0, .int .u64 0, .int .u64 0, .int .u64 0, .int .u64 0, .int .u64 0, .int .u64 0, .int .u64 0, .int .u64 0, .int .u64 0]
theorem zeros64 : zs64.toList = (List.replicate 64 0).map u64V := by rfl
theorem zeros_size : zs64.size = 64 := by rfl
theorem info100 : (Try.prog.info? 134).map (·.size) = some zs64.size := by kernel_rfl
theorem zeros_one : zs64.all (·.oneCell') = true := by kernel_rfl

def JoinP (W' : World) (p a am bw bm top level : Nat) (cells : List Nat) (wd : Nat) : Prop := if level = top then IsFork W' p true 0 (2 * a) am bw bm top level cells 2 (2 * a) else IsFork W' p false 0 (2 * a) am bw bm top (level - 1) (List.replicate 64 0) 3 wd
set_option maxRecDepth 100000 in
set_option maxHeartbeats 2000000 in
theorem join_any (p v b most next made : Nat) (th : Int) (F : Nat → Prop) (cs : List Nat) (l : List Acc) (W : World) {aw am bw bm top level : Nat} {cells : List Nat} {wd : Nat} (hp : IsFork W p false 0 aw am bw bm top level cells 2 wd) (hw : IsView W v b th made) (h : Bank W F b most next cs l) (hnv : ¬ F v) (hnp : ¬ F p) (hpv : p ≠ v) (hmd : made < 1099511627776) (hl : l.length < 1099511627776) (hcs : ∀ x ∈ cells, x < 18446744073709551616) (hmo : most ≤ 4194304) (htl : top ≤ level) (hlv : level < 11) (hnx : 1 ≤ next) (a : Nat) (ea : alAt most next 64 = a) (ha : a ≠ 0) :
    Calls Try.prog 75 #[.pointer (some ⟨p, 0, none⟩), .pointer (some ⟨v, 0, none⟩)] W fun e W' => e = .returned (.bool (decide (level = top))) ∧ JoinP W' p a am bw bm top level cells wd ∧ Went W W' F v p b most (alNext most next 64) (alN most next cs cells) th (made + 1) (fun vs => l ++ [⟨th, 5, a, 0, 0, vs, cells, 0, false⟩]) := by
  have hal := alAt_le most next 64 hnx
  rw [ea] at hal
  have hlen := hp.1
  have hR := reads_fork hp
  have HP := keepH hp
  have HW := keepH hw
  have H := keepH h
  have HR := keepH hR
  have n1 : ((a : Int) == 0) = false := beq_eq_false_iff_ne.2 (by omega)
  have HAL : Hid (0 < a ∧ a ≤ 4611686018427387904) := by show _ ∧ _; omega
  obtain ⟨bw2, hbw2⟩ : ∃ bw2, bw2 = 2 * a := ⟨_, rfl⟩
  have HBW := keepH hbw2
  have HLEN := keepH hlen
  clear hp hw h hR hal hbw2
  go_enter Try.func75, Try.ntmps75
  go_wp2_with fail
  have hv := v_alloc v b most next made th (some ⟨p, 8, none⟩) 64 cells F cs l W HW.out H.out hnv hmd hl HR.out (fun ad e _ => by cases e; exact hnp) (fun ad e _ => by cases e; exact hpv) hcs (by rw [hlen]; decide)
  rw [hlen, ea] at hv
  refine hv.mono ?_
  rintro e w2 ⟨rfl, F2, vs, B2, V2, G2⟩
  have HG2 := keepH G2
  have HP2 := keepH (HP.out.chg G2.chg (fun e => e.elim hnp hpv))
  have HN2 : Hid (¬ F2 p) := G2.out (lt_of HP.out.2) hnp
  have HB2 := keepH B2
  have HV2 := keepH V2
  clear hv B2 V2 G2 hlen
  go_wp2_with fail
  refine (child_branch a bw2 _ HBW.out HAL.out.1 HAL.out.2).mono ?_
  rintro e w3 ⟨rfl, rfl⟩
  have e2 : w3.cell? ⟨p, 2, none⟩ = some (.int .u64 (aw : Int)) := cell_of HP2.out.2 2
  have f2 := free_of HP2.out.2 2
  obtain ⟨w4, hw4⟩ : ∃ w4, w4 = w3.setCell ⟨p, 2, none⟩ (.int .u64 (bw2 : Int)) := ⟨_, rfl⟩
  have HP4 : Hid (IsFork w4 p false 0 bw2 am bw bm top level cells 2 wd) := by rw [hw4]; exact ⟨HP2.out.1, set_of HP2.out.2 2 _⟩
  have HC4 : Hid (Chg (fun k => k = p) w3 w4) := by rw [hw4]; exact setC _
  go_upto_region 5 with fail
  rw [← hw4]
  clear hw4 e2 f2
  have e7 : w4.cell? ⟨p, 7, none⟩ = some (.int .i64 (level : Int)) := cell_of HP4.out.2 7
  have e6 : w4.cell? ⟨p, 6, none⟩ = some (.int .i64 (top : Int)) := cell_of HP4.out.2 6
  by_cases hlt : level = top
  · subst hlt
    have dd : decide (level = level) = true := by simp
    go_quiet (fail)
    obtain ⟨w5, hw5⟩ : ∃ w5, w5 = w4.drewN nq := ⟨_, rfl⟩
    have C5 : Chg (fun _ => False) w4 w5 := by rw [hw5]; exact (Goes.drewN w4 (fun _ => False) nq).chg
    rw [← hw5]
    clear hw5 e7 e6
    have HP5 := keepH (HP4.out.chg C5 (fun x => x))
    have HC5 : Hid (Chg (fun k => k = p) w3 w5) := HC4.out.trans C5 (fun _ _ x => x) (fun _ _ x => x.elim)
    have g2 : w5.cell? ⟨p, 2, none⟩ = some (.int .u64 (bw2 : Int)) := cell_of HP5.out.2 2
    have g73 : w5.cell? ⟨p, 73, none⟩ = some (.int .u64 (wd : Int)) := (cell_of HP5.out.2 73).trans (fork_wd HP5.out.1)
    have k73 := free_of HP5.out.2 73
    have HP6 := keepH (fork_setwd HP5.out bw2)
    clear C5
    go_wp2_with fail
    refine (fork_end HP6.out 0).mono ?_
    rintro e w6 ⟨rfl, P6, C6⟩
    have HP7 := keepH P6
    have HC7 : Hid (Chg (fun k => k = p) w3 w6) := (HC5.out.trans (setC _) (fun _ _ x => x) (fun _ _ x => x)).trans C6 (fun _ _ x => x) (fun _ _ x => x)
    clear P6 C6
    go_wp2_with fail
    go_ret
    refine ⟨by simp, ?_, F2, vs, HB2.out.putC HN2.out HC7.out, HV2.out.chg HC7.out (Ne.symm hpv), HG2.out.thenP HC7.out⟩
    unfold JoinP
    rw [if_pos rfl, ← HBW.out]
    exact HP7.out
  · have dd : decide (level = top) = false := decide_eq_false hlt
    have n2 : ((level : Int) == (top : Int)) = false := beq_eq_false_iff_ne.2 (by omega)
    go_quiet (fail)
    obtain ⟨w5, hw5⟩ : ∃ w5, w5 = w4.drewN nq := ⟨_, rfl⟩
    have C5 : Chg (fun _ => False) w4 w5 := by rw [hw5]; exact (Goes.drewN w4 (fun _ => False) nq).chg
    rw [← hw5]
    clear hw5 e7 e6
    have HP5 := keepH (HP4.out.chg C5 (fun x => x))
    have HC5 : Hid (Chg (fun k => k = p) w3 w5) := HC4.out.trans C5 (fun _ _ x => x) (fun _ _ x => x.elim)
    have g7 : w5.cell? ⟨p, 7, none⟩ = some (.int .i64 (level : Int)) := cell_of HP5.out.2 7
    have k7 := free_of HP5.out.2 7
    obtain ⟨lv, hlv2⟩ : ∃ lv, lv = level - 1 := ⟨_, rfl⟩
    have kw : IntKind.i64.wrap ((level : Int) - 1) = (lv : Int) := by rw [IntKind.wrap_i64]; omega
    have HLV := keepH hlv2
    have HP6 : Hid (IsFork (w5.setCell ⟨p, 7, none⟩ (.int .i64 (lv : Int))) p false 0 bw2 am bw bm top lv cells 2 wd) := ⟨HP5.out.1, set_of HP5.out.2 7 _⟩
    obtain ⟨w6, hw6⟩ : ∃ w6, w6 = w5.setCell ⟨p, 7, none⟩ (.int .i64 (lv : Int)) := ⟨_, rfl⟩
    rw [← hw6] at HP6
    have HC6 : Hid (Chg (fun k => k = p) w3 w6) := by rw [hw6]; exact HC5.out.trans (setC _) (fun _ _ x => x) (fun _ _ x => x)
    clear C5 hlv2
    go_upto_region 9 with fail
    rw [← hw6]
    clear hw6 g7 k7
    have HTH : Hid (w6.there p 8 zs64.size) := fun j hj => by
      have hj' : j < 64 := by rw [zeros_size] at hj; exact hj
      exact ⟨by rw [cell_of HP6.out.2, fork_cell HP6.out.1 j hj']; rfl, free_of HP6.out.2 _⟩
    obtain ⟨w7, hw7⟩ : ∃ w7, w7 = w6.setCells p 8 zs64.toList := ⟨_, rfl⟩
    have HP7 : Hid (IsFork w7 p false 0 bw2 am bw bm top lv (List.replicate 64 0) 2 wd) := by rw [hw7, zeros64]; exact fork_zero HP6.out
    have HC7 : Hid (Chg (fun k => k = p) w3 w7) := by rw [hw7]; exact HC6.out.trans (setCells_chg p _ 8 _) (fun _ _ x => x) (fun _ _ x => x)
    have HW7 := keepH hw7
    clear hw7
    have e72 : w7.cell? ⟨p, 72, none⟩ = some (.int .i64 2) := (cell_of HP7.out.2 72).trans (fork_pos HP7.out.1)
    have f72 := free_of HP7.out.2 72
    go_wp2_with (refine wpList_store_mid rfl 134 (.tmp 58) (.tmp 56) rfl p 8 zs64 rfl rfl HTH.out info100 zeros_one ?_; rw [← HW7.out]; clear HW7)
    go_ret
    have HP8 := keepH (fork_setpos HP7.out 3)
    have HC8 : Hid (Chg (fun k => k = p) w3 (w7.setCell ⟨p, 72, none⟩ (.int .i64 ((3 : Nat) : Int)))) := HC7.out.trans (setC _) (fun _ _ x => x) (fun _ _ x => x)
    refine ⟨by simp [hlt], ?_, F2, vs, HB2.out.putC HN2.out HC8.out, HV2.out.chg HC8.out (Ne.symm hpv), HG2.out.thenP HC8.out⟩
    have e8 := HP8.out
    rw [HLV.out] at e8
    unfold JoinP
    rw [if_neg hlt, ← HBW.out]
    exact e8

set_option maxRecDepth 100000 in
set_option maxHeartbeats 2000000 in
theorem begin_ok (p v b most next made : Nat) (th : Int) (F : Nat → Prop) (cs : List Nat) (l : List Acc) (W : World) {aw am bw bm top level : Nat} {cells : List Nat} {wd : Nat} (hp : IsFork W p false 0 aw am bw bm top level cells 0 wd) (hw : IsView W v b th made) (h : Bank W F b most next cs l) (hnv : ¬ F v) (hnp : ¬ F p) (hpv : p ≠ v) (hmd : made < 1099511627776) (hl : l.length < 1099511627776) (h0 : am < 18446744073709551616) (h1 : bm < 18446744073709551616) (h2 : top < 9223372036854775808) (hcw : aw < 18446744073709551616) (lv : Nat) (hpt : partN am bm top = some lv) (hlv : lv < 11) (a : Nat) (ea : alAt most next 3 = a) (ha : a ≠ 0) (dg : Nat) (hdg : (dg : Int) = dig am lv) (hdl : dg < 64) :
    Calls Try.prog 73 #[.pointer (some ⟨p, 0, none⟩), .pointer (some ⟨v, 0, none⟩)] W fun e W' => e = .returned (.bool false) ∧ IsFork W' p false 0 aw am bw bm top lv (cells.set dg a) 1 wd ∧ Went W W' F v p b most (alNext most next 3) (alN most next cs [aw, 1, 0]) th (made + 1) (fun vs => l ++ [⟨th, 5, a, 0, 0, vs, [aw, 1, 0], 0, false⟩]) := by
  have c3 : W.cell? ⟨p, 3, none⟩ = some (.int .u64 (am : Int)) := cell_of hp.2 3
  have c5 : W.cell? ⟨p, 5, none⟩ = some (.int .u64 (bm : Int)) := cell_of hp.2 5
  have c6 : W.cell? ⟨p, 6, none⟩ = some (.int .i64 (top : Int)) := cell_of hp.2 6
  have HPT : Hid (∀ w, Calls Try.prog 92 #[.int .u64 (am : Int), .int .u64 (bm : Int), .int .i64 (top : Int)] w fun e W' => e = .returned (.tuple #[.int .i64 (lv : Int), .bool true]) ∧ W' = w) := fun w => by
    have q := parting_any am bm top w h0 h1 h2
    rw [hpt] at q
    exact q
  have HP := keepH hp
  have HW := keepH hw
  have H := keepH h
  clear hp hw h hpt
  go_enter Try.func73, Try.ntmps73
  go_upto_region 1 with fail
  go_quiet (first | (go_at_call 92; refine (HPT.out _).mono ?_; rintro x y ⟨rfl, rfl⟩; exact ⟨rfl, _, rfl⟩))
  obtain ⟨w1, hw1⟩ : ∃ w1, w1 = W.drewN nq := ⟨_, rfl⟩
  have C1 : Chg (fun _ => False) W w1 := by rw [hw1]; exact (Goes.drewN W (fun _ => False) nq).chg
  rw [← hw1]
  clear hw1 c3 c5 c6 HPT
  have HP1 := keepH (HP.out.chg C1 (fun h => h))
  have f7 := free_of HP1.out.2 7
  have d7 := (cell_of HP1.out.2 7).trans rfl
  have HP2 : Hid (IsFork (w1.setCell ⟨p, 7, none⟩ (.int .i64 (lv : Int))) p false 0 aw am bw bm top lv cells 0 wd) := ⟨HP1.out.1, set_of HP1.out.2 7 _⟩
  have c2 : (w1.setCell ⟨p, 7, none⟩ (.int .i64 (lv : Int))).cell? ⟨p, 2, none⟩ = some (.int .u64 (aw : Int)) := cell_of HP2.out.2 2
  have c3 : (w1.setCell ⟨p, 7, none⟩ (.int .i64 (lv : Int))).cell? ⟨p, 3, none⟩ = some (.int .u64 (am : Int)) := cell_of HP2.out.2 3
  obtain ⟨w2, hw2⟩ : ∃ w2, w2 = w1.setCell ⟨p, 7, none⟩ (.int .i64 (lv : Int)) := ⟨_, rfl⟩
  have HC2 : Hid (Chg (fun k => k = p) W w2) := by rw [hw2]; exact C1.trans (setC _) (fun _ _ x => x.elim) (fun _ _ x => x)
  rw [← hw2] at HP2 c2 c3
  clear C1
  go_upto_region 5 with fail
  rw [← hw2]
  clear hw2 f7 d7
  go_wp2_with fail
  refine (hang_ok p v b most next made th F cs l w2 HP2.out (HW.out.chg HC2.out (Ne.symm hpv)) (H.out.putC hnp HC2.out) hnv hnp hpv hmd hl aw am 1 hcw h0 hlv a ea ha dg hdg hdl).mono ?_
  rintro e w3 ⟨rfl, P3, F3, vs, B3, V3, G3⟩
  have HP3 := keepH P3
  have HWn : Hid (Went W w3 F v p b most (alNext most next 3) (alN most next cs [aw, 1, 0]) th (made + 1) (fun vs => l ++ [⟨th, 5, a, 0, 0, vs, [aw, 1, 0], 0, false⟩])) := ⟨F3, vs, B3, V3, ⟨HC2.out.trans G3.chg (fun _ _ x => .inr x) (fun _ _ x => x), fun k e => (G3.new k e).elim .inl (fun y => .inr (Nat.le_trans HC2.out.size y))⟩⟩
  clear P3 B3 V3 G3
  go_wp2_with fail
  go_ret
  exact ⟨by simp, HP3.out, HWn.out⟩
set_option maxRecDepth 100000 in
theorem fork_s0 (p v b most next made : Nat) (th : Int) (F : Nat → Prop) (cs : List Nat) (l : List Acc) (W : World) {aw am bw bm top level : Nat} {cells : List Nat} {wd : Nat} (hp : IsFork W p false 0 aw am bw bm top level cells 0 wd) (hw : IsView W v b th made) (h : Bank W F b most next cs l) (hnv : ¬ F v) (hnp : ¬ F p) (hpv : p ≠ v) (hmd : made < 1099511627776) (hl : l.length < 1099511627776) (h0 : am < 18446744073709551616) (h1 : bm < 18446744073709551616) (h2 : top < 9223372036854775808) (hcw : aw < 18446744073709551616) (lv : Nat) (hpt : partN am bm top = some lv) (hlv : lv < 11) (a : Nat) (ea : alAt most next 3 = a) (ha : a ≠ 0) (dg : Nat) (hdg : (dg : Int) = dig am lv) (hdl : dg < 64) :
    Calls Try.prog 38 #[.pointer (some ⟨p, 0, none⟩), .pointer (some ⟨v, 0, none⟩)] W fun e W' => e = .returned (.bool false) ∧ IsFork W' p false 0 aw am bw bm top lv (cells.set dg a) 1 wd ∧ Went W W' F v p b most (alNext most next 3) (alN most next cs [aw, 1, 0]) th (made + 1) (fun vs => l ++ [⟨th, 5, a, 0, 0, vs, [aw, 1, 0], 0, false⟩]) := by
  have c0 : W.cell? ⟨p, 0, none⟩ = some (.bool false) := cell_of hp.2 0
  have c72 : W.cell? ⟨p, 72, none⟩ = some (.int .i64 0) := (cell_of hp.2 72).trans (fork_pos hp.1)
  have c2 : W.cell? ⟨p, 2, none⟩ = some (.int .u64 (aw : Int)) := cell_of hp.2 2
  have c3 : W.cell? ⟨p, 3, none⟩ = some (.int .u64 (am : Int)) := cell_of hp.2 3
  have c4 : W.cell? ⟨p, 4, none⟩ = some (.int .u64 (bw : Int)) := cell_of hp.2 4
  have c5 : W.cell? ⟨p, 5, none⟩ = some (.int .u64 (bm : Int)) := cell_of hp.2 5
  have HIN := keepH (begin_ok p v b most next made th F cs l W hp hw h hnv hnp hpv hmd hl h0 h1 h2 hcw lv hpt hlv a ea ha dg hdg hdl)
  clear hp hw h
  go_enter Try.func38, Try.ntmps38
  go_wp2_with fail
  refine HIN.out.mono ?_
  rintro e w1 ⟨rfl, P1, G1⟩
  have HP1 := keepH P1
  have HG1 := keepH G1
  clear P1 G1
  go_wp2_with fail
  go_ret
  exact ⟨by simp, HP1.out, HG1.out⟩
set_option maxRecDepth 100000 in
theorem fork_s1 (p v b most next made : Nat) (th : Int) (F : Nat → Prop) (cs : List Nat) (l : List Acc) (W : World) {aw am bw bm top level : Nat} {cells : List Nat} {wd : Nat} (hp : IsFork W p false 0 aw am bw bm top level cells 1 wd) (hw : IsView W v b th made) (h : Bank W F b most next cs l) (hnv : ¬ F v) (hnp : ¬ F p) (hpv : p ≠ v) (hmd : made < 1099511627776) (hl : l.length < 1099511627776) (hcw : bw < 18446744073709551616) (hcm : bm < 18446744073709551616) (hlv : level < 11) (a : Nat) (ea : alAt most next 3 = a) (ha : a ≠ 0) (dg : Nat) (hdg : (dg : Int) = dig bm level) (hdl : dg < 64) :
    Calls Try.prog 38 #[.pointer (some ⟨p, 0, none⟩), .pointer (some ⟨v, 0, none⟩)] W fun e W' => e = .returned (.bool false) ∧ IsFork W' p false 0 aw am bw bm top level (cells.set dg a) 2 wd ∧ Went W W' F v p b most (alNext most next 3) (alN most next cs [bw, 1, 0]) th (made + 1) (fun vs => l ++ [⟨th, 5, a, 0, 0, vs, [bw, 1, 0], 0, false⟩]) := by
  have c0 : W.cell? ⟨p, 0, none⟩ = some (.bool false) := cell_of hp.2 0
  have c72 : W.cell? ⟨p, 72, none⟩ = some (.int .i64 1) := (cell_of hp.2 72).trans (fork_pos hp.1)
  have c2 : W.cell? ⟨p, 2, none⟩ = some (.int .u64 (aw : Int)) := cell_of hp.2 2
  have c3 : W.cell? ⟨p, 3, none⟩ = some (.int .u64 (am : Int)) := cell_of hp.2 3
  have c4 : W.cell? ⟨p, 4, none⟩ = some (.int .u64 (bw : Int)) := cell_of hp.2 4
  have c5 : W.cell? ⟨p, 5, none⟩ = some (.int .u64 (bm : Int)) := cell_of hp.2 5
  have HIN := keepH (hang_ok p v b most next made th F cs l W hp hw h hnv hnp hpv hmd hl bw bm 2 hcw hcm hlv a ea ha dg hdg hdl)
  clear hp hw h
  go_enter Try.func38, Try.ntmps38
  go_wp2_with fail
  refine HIN.out.mono ?_
  rintro e w1 ⟨rfl, P1, G1⟩
  have HP1 := keepH P1
  have HG1 := keepH G1
  clear P1 G1
  go_wp2_with fail
  go_ret
  exact ⟨by simp, HP1.out, HG1.out⟩
set_option maxRecDepth 100000 in
theorem fork_s3 (p v b most next made : Nat) (th : Int) (F : Nat → Prop) (cs : List Nat) (l : List Acc) (W : World) {aw am bw bm top level : Nat} {cells : List Nat} {wd : Nat} (hp : IsFork W p false 0 aw am bw bm top level cells 3 wd) (hw : IsView W v b th made) (h : Bank W F b most next cs l) (hnv : ¬ F v) (hnp : ¬ F p) (hpv : p ≠ v) (hmd : made < 1099511627776) (hl : l.length < 1099511627776) (hcw : aw < 18446744073709551616) (hcm : am < 18446744073709551616) (hlv : level < 11) (a : Nat) (ea : alAt most next 3 = a) (ha : a ≠ 0) (dg : Nat) (hdg : (dg : Int) = dig am level) (hdl : dg < 64) :
    Calls Try.prog 38 #[.pointer (some ⟨p, 0, none⟩), .pointer (some ⟨v, 0, none⟩)] W fun e W' => e = .returned (.bool false) ∧ IsFork W' p false 0 aw am bw bm top level (cells.set dg a) 2 wd ∧ Went W W' F v p b most (alNext most next 3) (alN most next cs [aw, 1, 0]) th (made + 1) (fun vs => l ++ [⟨th, 5, a, 0, 0, vs, [aw, 1, 0], 0, false⟩]) := by
  have c0 : W.cell? ⟨p, 0, none⟩ = some (.bool false) := cell_of hp.2 0
  have c72 : W.cell? ⟨p, 72, none⟩ = some (.int .i64 3) := (cell_of hp.2 72).trans (fork_pos hp.1)
  have c2 : W.cell? ⟨p, 2, none⟩ = some (.int .u64 (aw : Int)) := cell_of hp.2 2
  have c3 : W.cell? ⟨p, 3, none⟩ = some (.int .u64 (am : Int)) := cell_of hp.2 3
  have c4 : W.cell? ⟨p, 4, none⟩ = some (.int .u64 (bw : Int)) := cell_of hp.2 4
  have c5 : W.cell? ⟨p, 5, none⟩ = some (.int .u64 (bm : Int)) := cell_of hp.2 5
  have HIN := keepH (hang_ok p v b most next made th F cs l W hp hw h hnv hnp hpv hmd hl aw am 2 hcw hcm hlv a ea ha dg hdg hdl)
  clear hp hw h
  go_enter Try.func38, Try.ntmps38
  go_wp2_with fail
  refine HIN.out.mono ?_
  rintro e w1 ⟨rfl, P1, G1⟩
  have HP1 := keepH P1
  have HG1 := keepH G1
  clear P1 G1
  go_wp2_with fail
  go_ret
  exact ⟨by simp, HP1.out, HG1.out⟩
set_option maxRecDepth 100000 in
theorem fork_s2 (p v b most next made : Nat) (th : Int) (F : Nat → Prop) (cs : List Nat) (l : List Acc) (W : World) {aw am bw bm top level : Nat} {cells : List Nat} {wd : Nat} (hp : IsFork W p false 0 aw am bw bm top level cells 2 wd) (hw : IsView W v b th made) (h : Bank W F b most next cs l) (hnv : ¬ F v) (hnp : ¬ F p) (hpv : p ≠ v) (hmd : made < 1099511627776) (hl : l.length < 1099511627776) (hcs : ∀ x ∈ cells, x < 18446744073709551616) (hmo : most ≤ 4194304) (htl : top ≤ level) (hlv : level < 11) (hnx : 1 ≤ next) (a : Nat) (ea : alAt most next 64 = a) (ha : a ≠ 0) :
    Calls Try.prog 38 #[.pointer (some ⟨p, 0, none⟩), .pointer (some ⟨v, 0, none⟩)] W fun e W' => e = .returned (.bool (decide (level = top))) ∧ JoinP W' p a am bw bm top level cells wd ∧ Went W W' F v p b most (alNext most next 64) (alN most next cs cells) th (made + 1) (fun vs => l ++ [⟨th, 5, a, 0, 0, vs, cells, 0, false⟩]) := by
  have c0 : W.cell? ⟨p, 0, none⟩ = some (.bool false) := cell_of hp.2 0
  have c72 : W.cell? ⟨p, 72, none⟩ = some (.int .i64 2) := (cell_of hp.2 72).trans (fork_pos hp.1)
  have c2 : W.cell? ⟨p, 2, none⟩ = some (.int .u64 (aw : Int)) := cell_of hp.2 2
  have c3 : W.cell? ⟨p, 3, none⟩ = some (.int .u64 (am : Int)) := cell_of hp.2 3
  have c4 : W.cell? ⟨p, 4, none⟩ = some (.int .u64 (bw : Int)) := cell_of hp.2 4
  have c5 : W.cell? ⟨p, 5, none⟩ = some (.int .u64 (bm : Int)) := cell_of hp.2 5
  have HIN := keepH (join_any p v b most next made th F cs l W hp hw h hnv hnp hpv hmd hl hcs hmo htl hlv hnx a ea ha)
  clear hp hw h
  go_enter Try.func38, Try.ntmps38
  go_wp2_with fail
  refine HIN.out.mono ?_
  rintro e w1 ⟨rfl, P1, G1⟩
  have HP1 := keepH P1
  have HG1 := keepH G1
  clear P1 G1
  go_wp2_with fail
  go_ret
  exact ⟨by simp, HP1.out, HG1.out⟩
end Go.Proofs.Ytmhflmjhphhppab
