/- Node's procs Leaf and Look: what a step does, and what they tell. -/
import Derived.Deep.Cut
import Derived.Deep.CutBlock
import Derived.Deep.DeepCutAuto
import Derived.Test.YtokooplfjibneaaGreatVv
namespace Go.Proofs.YtokooplfjibneaaGreat
open Go.RowKit Go.Shelf

def IsLeaf (W : World) (p : Nat) (over : Bool) (err k x wd : Nat) : Prop := W.heap[p]? = some (.cells #[.bool over, .int .i64 (err : Int), .int .u64 (k : Int), .int .u64 (x : Int), .int .u64 (wd : Int)] 157 (0, 0))
theorem IsLeaf.chg {W W' : World} {F : Nat → Prop} {p : Nat} {over : Bool} {err k x wd : Nat} (h : IsLeaf W p over err k x wd) (hc : Chg F W W') (hn : ¬ F p) : IsLeaf W' p over err k x wd := (hc.block p (lt_of h) hn).trans h
theorem GoesV.thenP {W W1 W2 : World} {F F1 : Nat → Prop} {v p : Nat} (h : GoesV W W1 F F1 v) (c : Chg (fun k => k = p) W1 W2) : GoesP W W2 F F1 v p :=
  ⟨h.chg.trans c (fun _ _ x => Or.inl x) (fun _ _ x => Or.inr x), h.new⟩
theorem GoesP.thenP {W W1 W2 : World} {F F1 : Nat → Prop} {v p : Nat} (h : GoesP W W1 F F1 v p) (c : Chg (fun k => k = p) W1 W2) : GoesP W W2 F F1 v p :=
  ⟨h.chg.trans c (fun _ _ x => x) (fun _ _ x => Or.inr x), h.new⟩
theorem Bank.putC {W W1 : World} {F : Nat → Prop} {b most next p : Nat} {cs : List Nat} {l : List Acc} (h : Bank W F b most next cs l) (hp : ¬ F p) (c : Chg (fun k => k = p) W W1) : Bank W1 F b most next cs l :=
  h.chg c (fun _ hk e => hp (by rw [← e]; exact hk))
theorem setC {W : World} {p i : Nat} (u : Value) : Chg (fun k => k = p) W (W.setCell ⟨p, i, none⟩ u) := (Chg.refl (fun k => k = p) W).setCell (p := ⟨p, i, none⟩) (fun _ => rfl) u
theorem GoesV.from {W W1 W2 : World} {F F1 : Nat → Prop} {v : Nat} (c : Chg (fun _ => False) W W1) (h : GoesV W1 W2 F F1 v) : GoesV W W2 F F1 v :=
  ⟨c.trans h.chg (fun _ _ x => x.elim) (fun _ _ x => x), fun k e => (h.new k e).elim .inl (fun y => .inr (Nat.le_trans c.size y))⟩
def Went (W W' : World) (F : Nat → Prop) (v p b most next : Nat) (cs : List Nat) (th : Int) (made : Nat) (f : Value → List Acc) : Prop := ∃ F' vs, Bank W' F' b most next cs (f vs) ∧ IsView W' v b th made ∧ GoesP W W' F F' v p
set_option maxRecDepth 100000 in
theorem leaf_new (k x : Nat) (W : World) : Calls Tryz.prog 63 #[.int .u64 (k : Int), .int .u64 (x : Int)] W fun e W' => e = .returned (.pointer (some ⟨W.heap.size, 0, none⟩)) ∧ W' = W.alloc (.cells #[.bool false, .int .i64 0, .int .u64 (k : Int), .int .u64 (x : Int), .int .u64 0] 157) := by
  go_enter Tryz.func63, Tryz.ntmps63
  go_wp2_with fail
  go_ret
  exact ⟨by simp, rfl⟩
set_option maxRecDepth 100000 in
theorem leaf_word (p : Nat) (over : Bool) (err k x wd : Nat) (W : World) (hp : IsLeaf W p over err k x wd) : Calls Tryz.prog 66 #[.pointer (some ⟨p, 0, none⟩)] W fun e W' => e = .returned (.int .u64 (wd : Int)) ∧ W' = W := by
  have c4 : W.cell? ⟨p, 4, none⟩ = some (.int .u64 (wd : Int)) := cell_of hp 4
  go_enter Tryz.func66, Tryz.ntmps66
  go_wp2_with fail
  go_ret
  exact ⟨by simp, rfl⟩
set_option maxRecDepth 100000 in
theorem o_failed (p : Nat) (err : Int) (W : World) (c1 : W.cell? ⟨p, 1, none⟩ = some (.int .i64 err)) : Calls Tryz.prog 94 #[.pointer (some ⟨p, 0, none⟩)] W fun e W' => e = .returned (.int .i64 err) ∧ W' = W := by
  go_enter Tryz.func94, Tryz.ntmps94
  go_wp2_with fail
  go_ret
  exact ⟨by simp, rfl⟩
set_option maxRecDepth 100000 in
theorem leaf_errno (p : Nat) (over : Bool) (err k x wd : Nat) (W : World) (hp : IsLeaf W p over err k x wd) : Calls Tryz.prog 80 #[.pointer (some ⟨p, 0, none⟩)] W fun e W' => e = .returned (.int .i64 (err : Int)) ∧ W' = W := by
  have c1 : W.cell? ⟨p, 1, none⟩ = some (.int .i64 (err : Int)) := cell_of hp 1
  go_enter Tryz.func80, Tryz.ntmps80
  go_wp2_with fail
  refine (o_failed p err _ c1).mono ?_
  rintro e w1 ⟨rfl, rfl⟩
  go_wp2_with fail
  go_ret
  exact ⟨by simp, rfl⟩
set_option maxRecDepth 100000 in
theorem o_end (p : Nat) (err : Int) (cs : Array Value) (t : TypeId) (W : World) (hp : W.heap[p]? = some (.cells cs t (0, 0))) (o : Bool) (r : Int) (h0 : cs[0]? = some (.bool o)) (h1 : cs[1]? = some (.int .i64 r)) :
    Calls Tryz.prog 92 #[.pointer (some ⟨p, 0, none⟩), .int .i64 err] W fun e W' => e = .returned (.bool true) ∧ W'.heap[p]? = some (.cells ((cs.setIfInBounds 0 (.bool true)).setIfInBounds 1 (.int .i64 err)) t (0, 0)) ∧ Chg (fun k => k = p) W W' := by
  have c0 : W.cell? ⟨p, 0, none⟩ = some (.bool o) := (cell_of hp 0).trans h0
  have f0 := free_of hp 0
  have H2 := keepH (set_of hp 0 (.bool true))
  have f1 := free_of H2.out 1
  have c1 : (W.setCell ⟨p, 0, none⟩ (.bool true)).cell? ⟨p, 1, none⟩ = some (.int .i64 r) := by rw [cell_of H2.out 1, Array.getElem?_setIfInBounds_ne (by decide)]; exact h1
  have c1' : W.cell? ⟨p, 1, none⟩ = some (.int .i64 r) := (cell_of hp 1).trans h1
  clear hp
  go_enter Tryz.func92, Tryz.ntmps92
  go_wp2_with fail
  go_ret
  exact ⟨by simp, set_of H2.out 1 _, (setC _).trans (setC _) (fun _ _ x => x) (fun _ _ x => x)⟩

set_option maxRecDepth 100000 in
theorem child_leaf (m wd : Nat) (W : World) (hwd : wd = 2 * m + 1) (h0 : 0 < m) (h1 : m ≤ 4611686018427387904) :
    Calls Tryz.prog 93 #[.int .u8 1, .int .u64 (m : Int)] W fun e w' => e = .returned (.tuple #[.int .u64 (wd : Int), .int .i64 0]) ∧ w' = W := by
  have n1 : ((m : Int) == 0) = false := beq_eq_false_iff_ne.2 (by omega)
  have n2 : ¬ (4611686018427387904 : Int) < (m : Int) := by omega
  have k1 : IntKind.u64.wrap (2 * (m : Int)) = 2 * (m : Int) := by rw [IntKind.wrap_u64]; omega
  have k2 : IntKind.u64.wrap (2 * (m : Int) + 1) = (wd : Int) := by rw [IntKind.wrap_u64]; omega
  clear hwd
  go_enter Tryz.func93, Tryz.ntmps93
  go_wp2_with fail
  go_ret2
  exact ⟨by simp, rfl⟩
set_option maxRecDepth 100000 in
theorem child_branch (m wd : Nat) (W : World) (hwd : wd = 2 * m) (h0 : 0 < m) (h1 : m ≤ 4611686018427387904) :
    Calls Tryz.prog 93 #[.int .u8 2, .int .u64 (m : Int)] W fun e w' => e = .returned (.tuple #[.int .u64 (wd : Int), .int .i64 0]) ∧ w' = W := by
  have n1 : ((m : Int) == 0) = false := beq_eq_false_iff_ne.2 (by omega)
  have n2 : ¬ (4611686018427387904 : Int) < (m : Int) := by omega
  have k1 : IntKind.u64.wrap (2 * (m : Int)) = (wd : Int) := by rw [IntKind.wrap_u64]; omega
  clear hwd
  go_enter Tryz.func93, Tryz.ntmps93
  go_wp2_with fail
  go_ret2
  exact ⟨by simp, rfl⟩

theorem alAt_le (most next n : Nat) (h : 1 ≤ next) : alAt most next n = 0 ∨ alAt most next n = next ∧ next < most := by
  unfold alAt
  by_cases h2 : alOk most next n
  · rw [if_pos h2]
    unfold alOk at h2
    omega
  · rw [if_neg h2]
    exact .inl rfl

set_option maxRecDepth 100000 in
set_option maxHeartbeats 2000000 in
theorem leaf_step (p v b most next made k x : Nat) (th : Int) (F : Nat → Prop) (cs : List Nat) (l : List Acc) (W : World) (hp : IsLeaf W p false 0 k x 0) (hw : IsView W v b th made) (h : Bank W F b most next cs l) (hnv : ¬ F v) (hnp : ¬ F p) (hpv : p ≠ v) (hmd : made < 1099511627776) (hl : l.length < 1099511627776) (hk : k < 18446744073709551616) (hx : x < 18446744073709551616) (a : Nat) (ea : alAt most next 2 = a) (hmost : most ≤ 4194304) (hnx : 1 ≤ next) :
    Calls Tryz.prog 79 #[.pointer (some ⟨p, 0, none⟩), .pointer (some ⟨v, 0, none⟩)] W fun e W' => e = .returned (.bool true) ∧ IsLeaf W' p true (if a = 0 then 30 else 0) k x (if a = 0 then 0 else 2 * a + 1) ∧ Went W W' F v p b most (alNext most next 2) (alN most next cs [k, x]) th (made + 1) (fun vs => (l ++ [⟨th, 5, a, 0, 0, vs, [k, x], 0, false⟩])) := by
  have ha := alAt_le most next 2 hnx
  rw [ea] at ha
  have c0 : W.cell? ⟨p, 0, none⟩ = some (.bool false) := cell_of hp 0
  have c2 : W.cell? ⟨p, 2, none⟩ = some (.int .u64 (k : Int)) := cell_of hp 2
  have c3 : W.cell? ⟨p, 3, none⟩ = some (.int .u64 (x : Int)) := cell_of hp 3
  have HP := keepH hp
  have HW := keepH hw
  have H := keepH h
  have HA := keepH ha
  clear hp hw h ha
  go_enter Tryz.func79, Tryz.ntmps79
  go_upto_region 3 with fail
  go_cut [5] from 15 to 25 (fun s5 wz => s5 = .int .u64 (a : Int) ∧ Hid (IsLeaf wz p false 0 k x 0 ∧ ∃ F' vs, Bank wz F' b most (alNext most next 2) (alN most next cs [k, x]) (l ++ [⟨th, 5, a, 0, 0, vs, [k, x], 0, false⟩]) ∧ IsView wz v b th (made + 1) ∧ GoesV W wz F F' v))
  case first =>
    go_region_with (go_at_call 19; refine (v_alloc v b most next made th (some ⟨W.heap.size, 0, none⟩) 2 [k, x] F cs l _ (HW.out.chg (F := fun _ => False) ((Chg.refl _ W).drew.alloc _) (fun h => h)) (H.out.chg (G := fun _ => False) ((Chg.refl _ W).drew.alloc _) (fun _ _ h => h)) hnv hmd hl (reads_new W.drew [k, x] W.heap.size rfl) (fun ad e _ => by cases e; exact fun y => Nat.lt_irrefl _ (H.out.lt' _ y)) (fun ad e _ => by cases e; exact fun y => by have := HW.out.lt; simp only [] at y; omega) (by simp; omega) (by simp)).mono ?_; rintro e w1 ⟨rfl, F1, vs, B1, V1, G1⟩)
    all_goals (try go_wp2_with fail)
    all_goals go_meet
    all_goals (exact ⟨by rw [← ea], keepH ⟨HP.out.chg (((Chg.refl (fun _ => False) W).drew.alloc _).trans G1.chg (H := fun k => F k ∨ k = v) (fun _ _ x => x.elim) (fun _ _ x => x)) (fun e => e.elim hnp hpv), F1, vs, by rw [← ea]; exact B1, V1, GoesV.from ((Chg.refl (fun _ => False) W).drew.alloc _) G1⟩⟩)
  case rest =>
    obtain ⟨wz, hwz⟩ : ∃ wz, wz = wc := ⟨_, rfl⟩
    rw [← hwz] at hcut ⊢
    clear hwz
    obtain ⟨rfl, HC⟩ := hcut
    obtain ⟨P1, F1, vs, B1, V1, G1⟩ := HC.out
    have HP1 := keepH P1
    have HB1 := keepH B1
    have HV1 := keepH V1
    have HG1 := keepH G1
    have HN1 : Hid (¬ F1 p) := G1.out (lt_of HP.out) hnp
    have f4 := free_of P1 4
    have d4 := (cell_of P1 4).trans rfl
    clear HC P1 B1 V1 G1 c0 c2 c3
    by_cases h0 : a = 0
    · subst h0
      go_wp2_with fail
      refine (o_end p 30 _ _ _ HP1.out false 0 rfl rfl).mono ?_
      rintro e w2 ⟨rfl, P2, C2⟩
      have HP2 : Hid (IsLeaf w2 p true 30 k x 0) := P2
      have HC2 := keepH C2
      clear P2 C2
      go_wp2_with fail
      go_ret
      exact ⟨by simp, HP2.out, F1, vs, HB1.out.putC HN1.out HC2.out, HV1.out.chg HC2.out (Ne.symm hpv), HG1.out.thenP HC2.out⟩
    · have n1 : ((a : Int) == 0) = false := beq_eq_false_iff_ne.2 (by omega)
      have a1 : 0 < a ∧ a ≤ 4194304 := by have := HA.out; omega
      go_wp2_with fail
      obtain ⟨wd, hwd⟩ : ∃ wd, wd = 2 * a + 1 := ⟨_, rfl⟩
      refine (child_leaf a wd _ hwd a1.1 (by omega)).mono ?_
      rintro e w2 ⟨rfl, rfl⟩
      have HWD := keepH hwd
      clear hwd
      have HP2 := keepH (set_of HP1.out 4 (.int .u64 (wd : Int)))
      go_wp2_with fail
      refine (o_end p 0 _ _ _ HP2.out false 0 rfl rfl).mono ?_
      rintro e w3 ⟨rfl, P3, C3⟩
      have HP3 : Hid (IsLeaf w3 p true 0 k x wd) := P3
      have HC3 := keepH ((setC _).trans C3 (H := fun k => k = p) (fun _ _ x => x) (fun _ _ x => x))
      clear P3 C3
      go_wp2_with fail
      go_ret
      exact ⟨by simp, by have e := HP3.out; rw [HWD.out] at e; simpa [h0] using e, F1, vs, HB1.out.putC HN1.out HC3.out, HV1.out.chg HC3.out (Ne.symm hpv), HG1.out.thenP HC3.out⟩

set_option maxRecDepth 100000 in
theorem leaf_done (p : Nat) (err k x wd : Nat) (v : Value) (W : World) (hp : IsLeaf W p true err k x wd) : Calls Tryz.prog 79 #[.pointer (some ⟨p, 0, none⟩), v] W fun e W' => e = .returned (.bool true) ∧ W' = W := by
  have c0 : W.cell? ⟨p, 0, none⟩ = some (.bool true) := cell_of hp 0
  go_enter Tryz.func79, Tryz.ntmps79
  go_wp2_with fail
  go_ret
  exact ⟨by simp, rfl⟩

end Go.Proofs.YtokooplfjibneaaGreat
