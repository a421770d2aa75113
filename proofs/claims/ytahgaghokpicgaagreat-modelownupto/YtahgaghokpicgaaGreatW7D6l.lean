/- A handle taken. -/
import Derived.Test.YtahgaghokpicgaaGreatW6D6h
import Derived.BigQuiet
namespace Go.Proofs.YtahgaghokpicgaaGreat
open Go.RowKit Go.Maps
set_option linter.unusedVariables false
set_option maxHeartbeats 16000000
def holdL (hs : List (Nat × Value)) (h : Nat) (v : Value) : List (Nat × Value) := hs.takeWhile (fun y => decide (y.1 < h)) ++ (h, v) :: hs.dropWhile (fun y => decide (y.1 < h))
theorem hold_at {l : List (Nat × Value)} {k i : Nat} {v : Value} (hi : i ≤ l.length) (h1 : ∀ (j : Nat) x, j < i → l[j]? = some x → x.1 < k) (h2 : ∀ x, l[i]? = some x → ¬ x.1 < k) : holdL l k v = l.take i ++ [(k, v)] ++ l.drop i := by
 have gen : l.takeWhile (fun y => decide (y.1 < k)) = l.take i ∧ l.dropWhile (fun y => decide (y.1 < k)) = l.drop i := by
  induction l generalizing i with
  | nil => simp
  | cons y l ih =>
   cases i with
   | zero =>
    have := h2 y (by simp)
    simp [this]
   | succ i =>
    have hy := h1 0 y (by omega) (by simp)
    have := ih (i := i) (by simpa using hi) (fun j x hj hx => h1 (j + 1) x (by omega) (by simpa using hx)) (fun x hx => h2 x (by simpa using hx))
    simp [hy, this.1, this.2]
 unfold holdL
 rw [gen.1, gen.2]
 simp
set_option maxRecDepth 100000 in
theorem hold_go {W : World} {m : Nat} {mu : Int} {pm : Option Addr} {nm cm g cap : Nat} {hs : List (Nat × Value)} (H : RMod W m mu (.slice pm nm cm) (.slice (some ⟨g, 0, none⟩) hs.length cap) hs) (hl : hs.length ≤ 4000000) (hP : HsAt W (some ⟨g, 0, none⟩) hs) (hcap : hs.length ≤ cap) {h : Nat} (hk : h < 18446744073709551616) :
    Calls Tryz.prog 51 #[.pointer (some ⟨m, 0, none⟩), .int .u64 h] W fun e W' => e = .returned (.tuple #[]) ∧ (∃ v, RMod W' m mu (.slice pm nm cm) v (holdL hs h (.slice pm nm cm))) ∧ Chg (fun k => k = m) W W' := by
 obtain ⟨i0, hi, hz0, hz1, hz2⟩ := info_parts infoHeld
 have HM := keepH H
 have HP := keepH hP
 have HKX : Hid (h < 18446744073709551616) := hk
 have HCP : Hid (hs.length ≤ cap) := hcap
 have HLL := keepH hl
 clear hP hk hcap H
 go_enter Tryz.func51, Tryz.ntmps51
 go_wp2_with fail
 go_loopw [4, 5] (fun s q wr => ∃ i : Nat, i ≤ hs.length ∧ q = .int .i64 i ∧ Hid (HRow wr W.heap.size s (hs.take i) ∧ Chg (fun _ => False) W wr ∧ ∀ (j : Nat) y, j < i → hs[j]? = some y → y.1 < h)) (fun _ q _ => hs.length - natOf q)
 case atStart => exact ⟨0, Nat.zero_le _, rfl, HRow.nil _ _, Chg.refl _ _, fun j y h => absurd h (by omega)⟩
 case round =>
  obtain ⟨i, hil, rfl, HX⟩ := hrel
  have HB0 : Hid ((hs.take i).length < 4398046000000) := by show _ < _; rw [List.length_take]; omega
  have dm2 := (HM.out.quiet HX.out.2.1).c2
  have dm1 := (HM.out.quiet HX.out.2.1).c1
  by_cases hlt : i < hs.length
  ·have q1 : (i : Int) < (hs.length : Int) := by omega
   obtain ⟨⟨k, x⟩, hk⟩ : ∃ y, hs[i]? = some y := ⟨hs[i], List.getElem?_eq_getElem hlt⟩
   obtain ⟨px, nx, cx, ex⟩ := (HM.out.row.2 (k, x) (List.mem_of_getElem? hk)).2
   have ex : x = .slice px nx cx := ex
   subst ex
   obtain ⟨bk, off, e9, hbk, hcs⟩ := HP.out.resolve_left (by intro e; subst e; simp at hk)
   injection e9 with e9
   injection e9 with e1 e2
   subst e1
   subst e2
   obtain ⟨hk64, hc0, hc1⟩ := hcs i k _ hk
   have c0 : wr.cell? ⟨g, i * 2, none⟩ = some (.int .u64 k) := by have := cell_chg HX.out.2.1 hc0 (fun x => x); simpa using this
   have c1 : wr.cell? ⟨g, i * 2 + 1, none⟩ = some (.slice px nx cx) := by have := cell_chg HX.out.2.1 hc1 (fun x => x); simpa using this
   have HKV := keepH hk64
   have HK := keepH hk
   clear hk hcs hc0 hc1 hbk hk64
   by_cases t1 : k < h
   ·have q2 : (k : Int) < (h : Int) := by omega
    have HT1 := keepH t1
    clear t1
    go_wp2_with (first | (at_builtin; go_loud (refine wpList_append_own_at _ rfl _ _ 103 rfl W.heap.size 111 i0 (.agg #[.int .u64 0, .slice none 0 0]) 2 32 Tryz.underlying103 hi hz0 hz1 hz2 rfl (by decide) _ _ _ rfl (HX.out.1.1.kept (World.grownBy_alloc _ _ none) (by cases Value.ownBlock _ <;> simp)) ⟨_, 0, none⟩ 1 1 [.int .u64 k, .slice px nx cx] rfl rfl (cells_new _ _ rfl _ _) (by intro u hu; simp at hu; rcases hu with rfl | rfl <;> rfl) (by unfold maxLen; have := HB0.out; omega) (by have := HB0.out; omega) (Nat.le_trans HX.out.2.1.size (by simp)) ?_); intro v' w3 r1 r2 r3 r4; have R1 := keepH r1; have R2 := keepH r2; have R4 := keepH r4; clear r1 r2 r3 r4))
    go_roundw
    case rel =>
     refine ⟨i + 1, by omega, by first | rfl | go_num, ?_, ?_, fun j y hj hy => ?_⟩
     ·rw [List.take_add_one, HK.out]
      exact HRow.add HX.out.1.2 HKV.out ⟨_, _, _, rfl⟩ R1.out
     ·exact (HX.out.2.1.alloc _).trans (grown_chg (F := fun j => W.heap.size ≤ j) R2.out (fun j e => (HX.out.1.lt j e).1)) (fun _ _ x => x) (fun j hj e => by omega)
     ·by_cases q : j = i
      ·subst q; rw [HK.out] at hy; injection hy with hy; subst hy; exact HT1.out
      ·exact HX.out.2.2 j y (by omega) hy
    case measure => exact meas hlt
   ·have q2 : ¬ (k : Int) < (h : Int) := by omega
    have HT1 := keepH t1
    clear t1
    have HRW : Hid (holdL hs h (.slice pm nm cm) = hs.take i ++ [(h, .slice pm nm cm)] ++ hs.drop i) := hold_at hil HX.out.2.2 (fun y hy => by rw [HK.out] at hy; injection hy with hy; subst hy; exact HT1.out)
    go_upto_region 6 with (first | (at_builtin; go_loud (refine wpList_append_own_at _ rfl _ _ 103 rfl W.heap.size 111 i0 (.agg #[.int .u64 0, .slice none 0 0]) 2 32 Tryz.underlying103 hi hz0 hz1 hz2 rfl (by decide) _ _ _ rfl (HX.out.1.1.kept (World.grownBy_alloc _ _ none) (by cases Value.ownBlock _ <;> simp)) ⟨_, 0, none⟩ 1 1 [.int .u64 h, .slice pm nm cm] rfl rfl (cells_new _ _ rfl _ _) (by intro u hu; simp at hu; rcases hu with rfl | rfl <;> rfl) (by unfold maxLen; have := HB0.out; omega) (by have := HB0.out; omega) (Nat.le_trans HX.out.2.1.size (by simp)) ?_); intro v' w3 r1 r2 r3 r4; have R1 := keepH r1; have R2 := keepH r2; have R4 := keepH r4; clear r1 r2 r3 r4))
    have HR3 : Hid (HRow w3 W.heap.size v' (hs.take i ++ [(h, .slice pm nm cm)]) ∧ Chg (fun _ => False) W w3) := ⟨HRow.add HX.out.1.2 HKX.out ⟨_, _, _, rfl⟩ (by have := R1.out; simpa using this), (HX.out.2.1.alloc _).trans (grown_chg (F := fun j => W.heap.size ≤ j) R2.out (fun j e => (HX.out.1.lt j e).1)) (fun _ _ x => x) (fun j hj e => by omega)⟩
    clear R1 R2 R4
    have hlen : (hs.take i ++ [(h, Value.slice pm nm cm)]).length + (hs.drop i).length ≤ 4398046510000 := by rw [List.length_append, List.length_take, List.length_drop]; have := HLL.out; show min i hs.length + 1 + (hs.length - i) ≤ _; omega
    obtain ⟨ad, hsl, hPT⟩ := tail_held HP.out HCP.out (i := i) (by omega)
    obtain ⟨dd, hdd⟩ : ∃ d, d = cap - i := ⟨_, rfl⟩
    rw [← hdd] at hsl
    have hno : some ad = none → hs.drop i = [] := fun e => by cases e
    obtain ⟨v9, w9, hap, hR9, hC9⟩ := app_held HR3.out.1 (hPT.chgF HR3.out.2 (fun _ _ _ x => x)) (fun y hy => HM.out.row.2 y ((List.drop_sublist _ _).subset hy)) hno hlen HR3.out.2.size dd 103
    have hC9' : Chg (fun _ => False) W w9 := HR3.out.2.trans hC9 (fun _ _ x => x) (fun j hj e => by omega)
    have M3 := HM.out.quiet HR3.out.2
    have M9 := HM.out.quiet hC9'
    rw [← HRW.out] at hR9
    obtain ⟨p9, c9, rfl, _⟩ := hR9.slice
    have HE : Hid (RMod (w9.setCell ⟨m, 2, none⟩ (.slice p9 (holdL hs h (.slice pm nm cm)).length c9)) m mu (.slice pm nm cm) (.slice p9 (holdL hs h (.slice pm nm cm)).length c9) (holdL hs h (.slice pm nm cm)) ∧ Chg (fun k => k = m) W (w9.setCell ⟨m, 2, none⟩ (.slice p9 (holdL hs h (.slice pm nm cm)).length c9))) := ⟨M9.put hR9 (lt_of HM.out.at_), (show Chg (fun k => k = m) W w9 from hC9'.mono (fun _ _ x => x.elim)).setCell (fun _ => rfl) _⟩
    have d3 := M3.c2
    have d9 := M9.c2
    have f9 := free_of M9.at_ 2
    have hsl3 := hsl w3
    obtain ⟨n9, hn9⟩ : ∃ n, n = (holdL hs h (.slice pm nm cm)).length := ⟨_, rfl⟩
    rw [← hn9] at hap HE
    obtain ⟨n8, hn8⟩ : ∃ n, n = (hs.drop i).length := ⟨_, rfl⟩
    rw [← hn8] at hap hsl3
    clear hsl hPT hR9 hC9 hC9' M3 M9 hlen hn9 hn8
    go_wp2_with (first | (at_builtin; refine wpList_append_runP rfl _ _ 103 rfl _ _ _ _ rfl rfl hap ?_))
    go_end0
    exact ⟨rfl, ⟨_, HE.out.1⟩, HE.out.2⟩
  ·have q1 : ¬ (i : Int) < (hs.length : Int) := by omega
   have HRW : Hid (holdL hs h (.slice pm nm cm) = hs.take i ++ [(h, .slice pm nm cm)] ++ hs.drop i) := hold_at hil HX.out.2.2 (fun y hy => absurd (List.getElem?_eq_some_iff.1 hy).1 hlt)
   go_upto_region 6 with (first | (at_builtin; go_loud (refine wpList_append_own_at _ rfl _ _ 103 rfl W.heap.size 111 i0 (.agg #[.int .u64 0, .slice none 0 0]) 2 32 Tryz.underlying103 hi hz0 hz1 hz2 rfl (by decide) _ _ _ rfl (HX.out.1.1.kept (World.grownBy_alloc _ _ none) (by cases Value.ownBlock _ <;> simp)) ⟨_, 0, none⟩ 1 1 [.int .u64 h, .slice pm nm cm] rfl rfl (cells_new _ _ rfl _ _) (by intro u hu; simp at hu; rcases hu with rfl | rfl <;> rfl) (by unfold maxLen; have := HB0.out; omega) (by have := HB0.out; omega) (Nat.le_trans HX.out.2.1.size (by simp)) ?_); intro v' w3 r1 r2 r3 r4; have R1 := keepH r1; have R2 := keepH r2; have R4 := keepH r4; clear r1 r2 r3 r4))
   have HR3 : Hid (HRow w3 W.heap.size v' (hs.take i ++ [(h, .slice pm nm cm)]) ∧ Chg (fun _ => False) W w3) := ⟨HRow.add HX.out.1.2 HKX.out ⟨_, _, _, rfl⟩ (by have := R1.out; simpa using this), (HX.out.2.1.alloc _).trans (grown_chg (F := fun j => W.heap.size ≤ j) R2.out (fun j e => (HX.out.1.lt j e).1)) (fun _ _ x => x) (fun j hj e => by omega)⟩
   clear R1 R2 R4
   have hlen : (hs.take i ++ [(h, Value.slice pm nm cm)]).length + (hs.drop i).length ≤ 4398046510000 := by rw [List.length_append, List.length_take, List.length_drop]; have := HLL.out; show min i hs.length + 1 + (hs.length - i) ≤ _; omega
   obtain ⟨ad, hsl, hPT⟩ := tail_held HP.out HCP.out (i := i) (by omega)
   obtain ⟨dd, hdd⟩ : ∃ d, d = cap - i := ⟨_, rfl⟩
   rw [← hdd] at hsl
   have hno : some ad = none → hs.drop i = [] := fun e => by cases e
   obtain ⟨v9, w9, hap, hR9, hC9⟩ := app_held HR3.out.1 (hPT.chgF HR3.out.2 (fun _ _ _ x => x)) (fun y hy => HM.out.row.2 y ((List.drop_sublist _ _).subset hy)) hno hlen HR3.out.2.size dd 103
   have hC9' : Chg (fun _ => False) W w9 := HR3.out.2.trans hC9 (fun _ _ x => x) (fun j hj e => by omega)
   have M3 := HM.out.quiet HR3.out.2
   have M9 := HM.out.quiet hC9'
   rw [← HRW.out] at hR9
   obtain ⟨p9, c9, rfl, _⟩ := hR9.slice
   have HE : Hid (RMod (w9.setCell ⟨m, 2, none⟩ (.slice p9 (holdL hs h (.slice pm nm cm)).length c9)) m mu (.slice pm nm cm) (.slice p9 (holdL hs h (.slice pm nm cm)).length c9) (holdL hs h (.slice pm nm cm)) ∧ Chg (fun k => k = m) W (w9.setCell ⟨m, 2, none⟩ (.slice p9 (holdL hs h (.slice pm nm cm)).length c9))) := ⟨M9.put hR9 (lt_of HM.out.at_), (show Chg (fun k => k = m) W w9 from hC9'.mono (fun _ _ x => x.elim)).setCell (fun _ => rfl) _⟩
   have d3 := M3.c2
   have d9 := M9.c2
   have f9 := free_of M9.at_ 2
   have hsl3 := hsl w3
   obtain ⟨n9, hn9⟩ : ∃ n, n = (holdL hs h (.slice pm nm cm)).length := ⟨_, rfl⟩
   rw [← hn9] at hap HE
   obtain ⟨n8, hn8⟩ : ∃ n, n = (hs.drop i).length := ⟨_, rfl⟩
   rw [← hn8] at hap hsl3
   clear hsl hPT hR9 hC9 hC9' M3 M9 hlen hn9 hn8
   go_wp2_with (first | (at_builtin; refine wpList_append_runP rfl _ _ 103 rfl _ _ _ _ rfl rfl hap ?_))
   go_end0
   exact ⟨rfl, ⟨_, HE.out.1⟩, HE.out.2⟩
set_option maxRecDepth 100000 in
theorem hold_nil {W : World} {m : Nat} {mu : Int} {pm : Option Addr} {nm cm : Nat} (H : RMod W m mu (.slice pm nm cm) (.slice none 0 0) []) {h : Nat} (hk : h < 18446744073709551616) :
    Calls Tryz.prog 51 #[.pointer (some ⟨m, 0, none⟩), .int .u64 h] W fun e W' => e = .returned (.tuple #[]) ∧ (∃ v, RMod W' m mu (.slice pm nm cm) v (holdL [] h (.slice pm nm cm))) ∧ Chg (fun k => k = m) W W' := by
 obtain ⟨i0, hi, hz0, hz1, hz2⟩ := info_parts infoHeld
 have HM := keepH H
 have HKX : Hid (h < 18446744073709551616) := hk
 have HX : Hid (HRow W W.heap.size (.slice none 0 0) [] ∧ Chg (fun _ => False) W W ∧ True) := ⟨HRow.nil _ _, Chg.refl _ _, trivial⟩
 have HB0 : Hid (([] : List (Nat × Value)).length < 4398046000000) := by show _ < _; simp
 have dm2 := HM.out.c2
 have dm1 := HM.out.c1
 clear hk H
 go_enter Tryz.func51, Tryz.ntmps51
 go_wp2_with fail
 refine wp_loop_rounds 1 ?_
 rw [rounds_succ]
 go_upto_region 6 with (first | (at_builtin; go_loud (refine wpList_append_own_at _ rfl _ _ 103 rfl W.heap.size 111 i0 (.agg #[.int .u64 0, .slice none 0 0]) 2 32 Tryz.underlying103 hi hz0 hz1 hz2 rfl (by decide) _ _ _ rfl (HX.out.1.1.kept (World.grownBy_alloc _ _ none) (by cases Value.ownBlock _ <;> simp)) ⟨_, 0, none⟩ 1 1 [.int .u64 h, .slice pm nm cm] rfl rfl (cells_new _ _ rfl _ _) (by intro u hu; simp at hu; rcases hu with rfl | rfl <;> rfl) (by unfold maxLen; have := HB0.out; omega) (by have := HB0.out; omega) (Nat.le_trans HX.out.2.1.size (by simp)) ?_); intro v' w3 r1 r2 r3 r4; have R1 := keepH r1; have R2 := keepH r2; have R4 := keepH r4; clear r1 r2 r3 r4))
 have HR3 : Hid (HRow w3 W.heap.size v' [(h, .slice pm nm cm)] ∧ Chg (fun _ => False) W w3) := ⟨HRow.add (l := []) (fun y hy => by cases hy) HKX.out ⟨_, _, _, rfl⟩ (by have := R1.out; simpa using this), (HX.out.2.1.alloc _).trans (grown_chg (F := fun j => W.heap.size ≤ j) R2.out (fun j e => (HX.out.1.lt j e).1)) (fun _ _ x => x) (fun j hj e => by omega)⟩
 clear R1 R2 R4
 obtain ⟨v9, w9, hap, hR9, hC9⟩ := app_held HR3.out.1 (q := none) (r := []) (.inl rfl) (fun y hy => by cases hy) (fun _ => rfl) (by simp) HR3.out.2.size 0 103
 have hC9' : Chg (fun _ => False) W w9 := HR3.out.2.trans hC9 (fun _ _ x => x) (fun j hj e => by omega)
 have M3 := HM.out.quiet HR3.out.2
 have M9 := HM.out.quiet hC9'
 have hR9 : HRow w9 W.heap.size v9 (holdL [] h (.slice pm nm cm)) := by simpa [holdL] using hR9
 obtain ⟨p9, c9, rfl, _⟩ := hR9.slice
 have HE : Hid (RMod (w9.setCell ⟨m, 2, none⟩ (.slice p9 (holdL [] h (.slice pm nm cm)).length c9)) m mu (.slice pm nm cm) (.slice p9 (holdL [] h (.slice pm nm cm)).length c9) (holdL [] h (.slice pm nm cm)) ∧ Chg (fun k => k = m) W (w9.setCell ⟨m, 2, none⟩ (.slice p9 (holdL [] h (.slice pm nm cm)).length c9))) := ⟨M9.put hR9 (lt_of HM.out.at_), (show Chg (fun k => k = m) W w9 from hC9'.mono (fun _ _ x => x.elim)).setCell (fun _ => rfl) _⟩
 have d3 := M3.c2
 have d9 := M9.c2
 have f9 := free_of M9.at_ 2
 have hsl3 := nilH w3
 obtain ⟨n9, hn9⟩ : ∃ n, n = (holdL [] h (.slice pm nm cm)).length := ⟨_, rfl⟩
 rw [← hn9] at hap HE
 clear hR9 hC9 hC9' M3 M9 hn9
 go_wp2_with (first | (at_builtin; refine wpList_append_runP rfl _ _ 103 rfl _ _ _ _ rfl rfl hap ?_))
 go_end0
 exact ⟨rfl, ⟨_, HE.out.1⟩, HE.out.2⟩
theorem r_hold {W : World} {m : Nat} {mu : Int} {pm : Option Addr} {nm cm : Nat} {hv : Value} {hs : List (Nat × Value)} (H : RMod W m mu (.slice pm nm cm) hv hs) (hl : hs.length ≤ 4000000) {h : Nat} (hk : h < 18446744073709551616) :
    Calls Tryz.prog 51 #[.pointer (some ⟨m, 0, none⟩), .int .u64 h] W fun e W' => e = .returned (.tuple #[]) ∧ (∃ v, RMod W' m mu (.slice pm nm cm) v (holdL hs h (.slice pm nm cm))) ∧ Chg (fun k => k = m) W W' := by
 obtain ⟨p, cap, rfl, hP, hcap, hn, ho⟩ := H.row.slice
 cases p with
 | none =>
  obtain ⟨rfl, rfl⟩ := hn rfl
  exact hold_nil H hk
 | some a =>
  obtain ⟨b, off, o⟩ := a
  obtain ⟨_, rfl, rfl⟩ := ho b off o rfl
  exact hold_go H hl hP hcap hk
theorem r_placeM {W : World} {m : Nat} {mu : Int} {mv hv : Value} {hs : List (Nat × Value)} (H : RMod W m mu mv hv hs) (hl : hs.length ≤ 4000000) (h : Nat) :
    Calls Tryz.prog 45 #[.pointer (some ⟨m, 0, none⟩), .int .u64 h] W fun e W' => e = .returned (.int .i64 (placeI hs h)) ∧ W' = W := by
 obtain ⟨p, cap, rfl, hP, hcap, hn, ho⟩ := H.row.slice
 exact r_place H.c2 hP (by omega) h
theorem end7 {W w : World} {b : Nat} {y0 y1 y2 y3 y4 y5 y6 x0 x1 x2 x3 x4 x5 x6 : Value} (h : w.heap[b]? = some (.cells #[y0, y1, y2, y3, y4, y5, y6] 39 (0, 0))) (c : Chg (fun _ => False) W w) (hb : W.heap.size ≤ b) :
    ((((((((w.setCell ⟨b, 0, none⟩ x0).setCell ⟨b, 1, none⟩ x1).setCell ⟨b, 2, none⟩ x2).setCell ⟨b, 3, none⟩ x3).setCell ⟨b, 4, none⟩ x4).setCell ⟨b, 5, none⟩ x5).setCell ⟨b, 6, none⟩ x6)).heap[b]? = some (.cells #[x0, x1, x2, x3, x4, x5, x6] 39 (0, 0)) ∧ Chg (fun _ => False) W (((((((w.setCell ⟨b, 0, none⟩ x0).setCell ⟨b, 1, none⟩ x1).setCell ⟨b, 2, none⟩ x2).setCell ⟨b, 3, none⟩ x3).setCell ⟨b, 4, none⟩ x4).setCell ⟨b, 5, none⟩ x5).setCell ⟨b, 6, none⟩ x6) := by
 have h1 : (w.setCell ⟨b, 0, none⟩ x0).heap[b]? = some (.cells #[x0, y1, y2, y3, y4, y5, y6] 39 (0, 0)) := set_of h 0 x0
 have h2 : ((w.setCell ⟨b, 0, none⟩ x0).setCell ⟨b, 1, none⟩ x1).heap[b]? = some (.cells #[x0, x1, y2, y3, y4, y5, y6] 39 (0, 0)) := set_of h1 1 x1
 have h3 : (((w.setCell ⟨b, 0, none⟩ x0).setCell ⟨b, 1, none⟩ x1).setCell ⟨b, 2, none⟩ x2).heap[b]? = some (.cells #[x0, x1, x2, y3, y4, y5, y6] 39 (0, 0)) := set_of h2 2 x2
 have h4 : ((((w.setCell ⟨b, 0, none⟩ x0).setCell ⟨b, 1, none⟩ x1).setCell ⟨b, 2, none⟩ x2).setCell ⟨b, 3, none⟩ x3).heap[b]? = some (.cells #[x0, x1, x2, x3, y4, y5, y6] 39 (0, 0)) := set_of h3 3 x3
 have h5 : (((((w.setCell ⟨b, 0, none⟩ x0).setCell ⟨b, 1, none⟩ x1).setCell ⟨b, 2, none⟩ x2).setCell ⟨b, 3, none⟩ x3).setCell ⟨b, 4, none⟩ x4).heap[b]? = some (.cells #[x0, x1, x2, x3, x4, y5, y6] 39 (0, 0)) := set_of h4 4 x4
 have h6 : ((((((w.setCell ⟨b, 0, none⟩ x0).setCell ⟨b, 1, none⟩ x1).setCell ⟨b, 2, none⟩ x2).setCell ⟨b, 3, none⟩ x3).setCell ⟨b, 4, none⟩ x4).setCell ⟨b, 5, none⟩ x5).heap[b]? = some (.cells #[x0, x1, x2, x3, x4, x5, y6] 39 (0, 0)) := set_of h5 5 x5
 have h7 : (((((((w.setCell ⟨b, 0, none⟩ x0).setCell ⟨b, 1, none⟩ x1).setCell ⟨b, 2, none⟩ x2).setCell ⟨b, 3, none⟩ x3).setCell ⟨b, 4, none⟩ x4).setCell ⟨b, 5, none⟩ x5).setCell ⟨b, 6, none⟩ x6).heap[b]? = some (.cells #[x0, x1, x2, x3, x4, x5, x6] 39 (0, 0)) := set_of h6 6 x6
 have c0 : Chg (fun k => k = b) W w := c.mono (fun _ _ x => x.elim)
 have c1 : Chg (fun k => k = b) W (w.setCell ⟨b, 0, none⟩ x0) := c0.setCell (fun _ => rfl) x0
 have c2 : Chg (fun k => k = b) W ((w.setCell ⟨b, 0, none⟩ x0).setCell ⟨b, 1, none⟩ x1) := c1.setCell (fun _ => rfl) x1
 have c3 : Chg (fun k => k = b) W (((w.setCell ⟨b, 0, none⟩ x0).setCell ⟨b, 1, none⟩ x1).setCell ⟨b, 2, none⟩ x2) := c2.setCell (fun _ => rfl) x2
 have c4 : Chg (fun k => k = b) W ((((w.setCell ⟨b, 0, none⟩ x0).setCell ⟨b, 1, none⟩ x1).setCell ⟨b, 2, none⟩ x2).setCell ⟨b, 3, none⟩ x3) := c3.setCell (fun _ => rfl) x3
 have c5 : Chg (fun k => k = b) W (((((w.setCell ⟨b, 0, none⟩ x0).setCell ⟨b, 1, none⟩ x1).setCell ⟨b, 2, none⟩ x2).setCell ⟨b, 3, none⟩ x3).setCell ⟨b, 4, none⟩ x4) := c4.setCell (fun _ => rfl) x4
 have c6 : Chg (fun k => k = b) W ((((((w.setCell ⟨b, 0, none⟩ x0).setCell ⟨b, 1, none⟩ x1).setCell ⟨b, 2, none⟩ x2).setCell ⟨b, 3, none⟩ x3).setCell ⟨b, 4, none⟩ x4).setCell ⟨b, 5, none⟩ x5) := c5.setCell (fun _ => rfl) x5
 have c7 : Chg (fun k => k = b) W (((((((w.setCell ⟨b, 0, none⟩ x0).setCell ⟨b, 1, none⟩ x1).setCell ⟨b, 2, none⟩ x2).setCell ⟨b, 3, none⟩ x3).setCell ⟨b, 4, none⟩ x4).setCell ⟨b, 5, none⟩ x5).setCell ⟨b, 6, none⟩ x6) := c6.setCell (fun _ => rfl) x6
 exact ⟨h7, c7.mono (fun k hk e => by omega)⟩
theorem chg_dn {F : Nat → Prop} {a b : World} (h : Chg F a b) (n : Nat) : Chg F a (b.drewN n) := h.trans ⟨rfl, rfl, rfl, Nat.le_refl _, fun _ _ _ => rfl⟩ (fun _ _ x => x) (fun _ _ x => x)
theorem two_new (W : World) (o o' : Obj) (n : Nat) : (((W.alloc o).alloc o').drewN n).heap[W.heap.size + 1]? = some o' := by
 show ((W.alloc o).alloc o').heap[W.heap.size + 1]? = some o'
 have : ((W.heap.push o).push o')[W.heap.size + 1]? = some o' := by rw [show W.heap.size + 1 = (W.heap.push o).size by simp]; exact Array.getElem?_push_size
 exact this
set_option maxRecDepth 100000 in
theorem q_long {W : World} {m : Nat} {mu : Int} {mv hv : Value} {hs : List (Nat × Value)} (H : RMod W m mu mv hv hs) {k v od hk lo hi r6 r7 : Int} {r5 : Bool} {kp : Option Addr} {kn kc : Nat} (hlen : mu < (kn : Int)) :
    Calls Tryz.prog 46 #[.pointer (some ⟨m, 0, none⟩), .agg #[.int .u8 7, .int .u64 k, .int .u64 v, .int .u64 od, .int .u64 hk, .bool r5, .int .i64 r6, .int .i64 r7, .slice kp kn kc, .int .u64 lo, .int .u64 hi]] W fun e W' => e = .returned (.agg #[.int .i64 6, .bool false, .int .u64 0, .bool false, .int .u64 0, .slice none 0 0, .int .u64 0]) ∧ Chg (fun _ => False) W W' := by
 have hm := lt_of H.at_
 have c0 : ∀ o o', ((W.alloc o).alloc o').cell? ⟨m, 0, none⟩ = some (.int .i64 mu) := fun o o' => by
  have := (H.quiet (((Chg.refl (fun _ => False) W).alloc o).alloc o')).c0
  exact this
 have q1 : decide (mu < (kn : Int)) = true := by simp [hlen]
 have HM := keepH H
 clear H
 go_enter Tryz.func46, Tryz.ntmps46
 go_upto_region 1 with fail
 go_quiet (fail)
 go_wp2_with fail
 have hE := end7 (W := W) (b := W.heap.size + 1) (x0 := .int .i64 6) (x1 := .bool false) (x2 := .int .u64 0) (x3 := .bool false) (x4 := .int .u64 0) (x5 := .slice none 0 0) (x6 := .int .u64 0) (w := ((W.alloc (.cells #[.int .u8 7, .int .u64 k, .int .u64 v, .int .u64 od, .int .u64 hk, .bool r5, .int .i64 r6, .int .i64 r7, .slice kp kn kc, .int .u64 lo, .int .u64 hi] 35 (0, 0))).alloc (.cells #[.int .i64 0, .bool false, .int .u64 0, .bool false, .int .u64 0, .slice none 0 0, .int .u64 0] 39 (0, 0))).drewN nq) (two_new _ _ _ _) (chg_dn (((Chg.refl _ W).alloc _).alloc _) _) (by omega)
 revert hE
 generalize World.setCell _ ⟨W.heap.size + 1, 6, none⟩ _ = w9
 rintro ⟨h9, c9⟩
 have e0 : w9.cell? ⟨W.heap.size + 1, 0, none⟩ = some (.int .i64 6) := by rw [cell_of h9]; rfl
 have e1 : w9.cell? ⟨W.heap.size + 1, 1, none⟩ = some (.bool false) := by rw [cell_of h9]; rfl
 have e2 : w9.cell? ⟨W.heap.size + 1, 2, none⟩ = some (.int .u64 0) := by rw [cell_of h9]; rfl
 have e3 : w9.cell? ⟨W.heap.size + 1, 3, none⟩ = some (.bool false) := by rw [cell_of h9]; rfl
 have e4 : w9.cell? ⟨W.heap.size + 1, 4, none⟩ = some (.int .u64 0) := by rw [cell_of h9]; rfl
 have e5 : w9.cell? ⟨W.heap.size + 1, 5, none⟩ = some (.slice none 0 0) := by rw [cell_of h9]; rfl
 have e6 : w9.cell? ⟨W.heap.size + 1, 6, none⟩ = some (.int .u64 0) := by rw [cell_of h9]; rfl
 refine bodyPost_ret (v := .agg #[.int .i64 6, .bool false, .int .u64 0, .bool false, .int .u64 0, .slice none 0 0, .int .u64 0]) (by simp [results, Tryz.results46, go_sem, e0, e1, e2, e3, e4, e5, e6]) rfl ?_
 exact ⟨rfl, c9⟩
set_option maxRecDepth 100000 in
theorem q_none7 {W : World} {m : Nat} {mu : Int} {mv hv : Value} {hs : List (Nat × Value)} (H : RMod W m mu mv hv hs) (hl : hs.length ≤ 4000000) {hk : Nat} {k v od lo hi r6 r7 : Int} {r5 : Bool} {kp : Option Addr} {kn kc : Nat} (hlen : ¬ mu < (kn : Int)) (hpl : placeI hs hk = -1) :
    Calls Tryz.prog 46 #[.pointer (some ⟨m, 0, none⟩), .agg #[.int .u8 7, .int .u64 k, .int .u64 v, .int .u64 od, .int .u64 hk, .bool r5, .int .i64 r6, .int .i64 r7, .slice kp kn kc, .int .u64 lo, .int .u64 hi]] W fun e W' => e = .returned (.agg #[.int .i64 33, .bool false, .int .u64 0, .bool false, .int .u64 0, .slice none 0 0, .int .u64 0]) ∧ Chg (fun _ => False) W W' := by
 have hm := lt_of H.at_
 have c0 : ∀ o o', ((W.alloc o).alloc o').cell? ⟨m, 0, none⟩ = some (.int .i64 mu) := fun o o' => by
  have := (H.quiet (((Chg.refl (fun _ => False) W).alloc o).alloc o')).c0
  exact this
 have q1 : decide (mu < (kn : Int)) = false := by simp; omega
 have HPL : Hid (∀ o o' n, Calls Tryz.prog 45 #[.pointer (some ⟨m, 0, none⟩), .int .u64 hk] (((W.alloc o).alloc o').drewN n) fun e W' => e = .returned (.int .i64 (-1)) ∧ W' = (((W.alloc o).alloc o').drewN n)) := fun o o' n => by
  have := r_placeM (H.quiet (chg_dn (((Chg.refl (fun _ => False) W).alloc o).alloc o') n)) hl hk
  rw [hpl] at this
  exact this
 clear H hpl
 go_enter Tryz.func46, Tryz.ntmps46
 go_upto_region 1 with fail
 go_quiet (fail)
 go_wp2_with fail
 refine (HPL.out _ _ _).mono ?_
 rintro e w1 ⟨rfl, rfl⟩
 go_wp2_with fail
 have hE := end7 (W := W) (b := W.heap.size + 1) (x0 := .int .i64 33) (x1 := .bool false) (x2 := .int .u64 0) (x3 := .bool false) (x4 := .int .u64 0) (x5 := .slice none 0 0) (x6 := .int .u64 0) (w := ((W.alloc (.cells #[.int .u8 7, .int .u64 k, .int .u64 v, .int .u64 od, .int .u64 hk, .bool r5, .int .i64 r6, .int .i64 r7, .slice kp kn kc, .int .u64 lo, .int .u64 hi] 35 (0, 0))).alloc (.cells #[.int .i64 0, .bool false, .int .u64 0, .bool false, .int .u64 0, .slice none 0 0, .int .u64 0] 39 (0, 0))).drewN nq) (two_new _ _ _ _) (chg_dn (((Chg.refl _ W).alloc _).alloc _) _) (by omega)
 revert hE
 generalize World.setCell _ ⟨W.heap.size + 1, 6, none⟩ _ = w9
 rintro ⟨h9, c9⟩
 have e0 : w9.cell? ⟨W.heap.size + 1, 0, none⟩ = some (.int .i64 33) := by rw [cell_of h9]; rfl
 have e1 : w9.cell? ⟨W.heap.size + 1, 1, none⟩ = some (.bool false) := by rw [cell_of h9]; rfl
 have e2 : w9.cell? ⟨W.heap.size + 1, 2, none⟩ = some (.int .u64 0) := by rw [cell_of h9]; rfl
 have e3 : w9.cell? ⟨W.heap.size + 1, 3, none⟩ = some (.bool false) := by rw [cell_of h9]; rfl
 have e4 : w9.cell? ⟨W.heap.size + 1, 4, none⟩ = some (.int .u64 0) := by rw [cell_of h9]; rfl
 have e5 : w9.cell? ⟨W.heap.size + 1, 5, none⟩ = some (.slice none 0 0) := by rw [cell_of h9]; rfl
 have e6 : w9.cell? ⟨W.heap.size + 1, 6, none⟩ = some (.int .u64 0) := by rw [cell_of h9]; rfl
 refine bodyPost_ret (v := .agg #[.int .i64 33, .bool false, .int .u64 0, .bool false, .int .u64 0, .slice none 0 0, .int .u64 0]) (by simp [results, Tryz.results46, go_sem, e0, e1, e2, e3, e4, e5, e6]) rfl ?_
 exact ⟨rfl, c9⟩
set_option maxRecDepth 100000 in
theorem q_none8 {W : World} {m : Nat} {mu : Int} {mv hv : Value} {hs : List (Nat × Value)} (H : RMod W m mu mv hv hs) (hl : hs.length ≤ 4000000) {hk : Nat} {k v od lo hi r6 r7 : Int} {r5 : Bool} {kp : Option Addr} {kn kc : Nat} (hpl : placeI hs hk = -1) :
    Calls Tryz.prog 46 #[.pointer (some ⟨m, 0, none⟩), .agg #[.int .u8 8, .int .u64 k, .int .u64 v, .int .u64 od, .int .u64 hk, .bool r5, .int .i64 r6, .int .i64 r7, .slice kp kn kc, .int .u64 lo, .int .u64 hi]] W fun e W' => e = .returned (.agg #[.int .i64 33, .bool false, .int .u64 0, .bool false, .int .u64 0, .slice none 0 0, .int .u64 0]) ∧ Chg (fun _ => False) W W' := by
 have hm := lt_of H.at_
 have c0 : ∀ o o', ((W.alloc o).alloc o').cell? ⟨m, 0, none⟩ = some (.int .i64 mu) := fun o o' => by
  have := (H.quiet (((Chg.refl (fun _ => False) W).alloc o).alloc o')).c0
  exact this
 have HPL : Hid (∀ o o' n, Calls Tryz.prog 45 #[.pointer (some ⟨m, 0, none⟩), .int .u64 hk] (((W.alloc o).alloc o').drewN n) fun e W' => e = .returned (.int .i64 (-1)) ∧ W' = (((W.alloc o).alloc o').drewN n)) := fun o o' n => by
  have := r_placeM (H.quiet (chg_dn (((Chg.refl (fun _ => False) W).alloc o).alloc o') n)) hl hk
  rw [hpl] at this
  exact this
 clear H hpl
 go_enter Tryz.func46, Tryz.ntmps46
 go_upto_region 1 with fail
 go_quiet (fail)
 go_wp2_with fail
 refine (HPL.out _ _ _).mono ?_
 rintro e w1 ⟨rfl, rfl⟩
 go_wp2_with fail
 have hE := end7 (W := W) (b := W.heap.size + 1) (x0 := .int .i64 33) (x1 := .bool false) (x2 := .int .u64 0) (x3 := .bool false) (x4 := .int .u64 0) (x5 := .slice none 0 0) (x6 := .int .u64 0) (w := ((W.alloc (.cells #[.int .u8 8, .int .u64 k, .int .u64 v, .int .u64 od, .int .u64 hk, .bool r5, .int .i64 r6, .int .i64 r7, .slice kp kn kc, .int .u64 lo, .int .u64 hi] 35 (0, 0))).alloc (.cells #[.int .i64 0, .bool false, .int .u64 0, .bool false, .int .u64 0, .slice none 0 0, .int .u64 0] 39 (0, 0))).drewN nq) (two_new _ _ _ _) (chg_dn (((Chg.refl _ W).alloc _).alloc _) _) (by omega)
 revert hE
 generalize World.setCell _ ⟨W.heap.size + 1, 6, none⟩ _ = w9
 rintro ⟨h9, c9⟩
 have e0 : w9.cell? ⟨W.heap.size + 1, 0, none⟩ = some (.int .i64 33) := by rw [cell_of h9]; rfl
 have e1 : w9.cell? ⟨W.heap.size + 1, 1, none⟩ = some (.bool false) := by rw [cell_of h9]; rfl
 have e2 : w9.cell? ⟨W.heap.size + 1, 2, none⟩ = some (.int .u64 0) := by rw [cell_of h9]; rfl
 have e3 : w9.cell? ⟨W.heap.size + 1, 3, none⟩ = some (.bool false) := by rw [cell_of h9]; rfl
 have e4 : w9.cell? ⟨W.heap.size + 1, 4, none⟩ = some (.int .u64 0) := by rw [cell_of h9]; rfl
 have e5 : w9.cell? ⟨W.heap.size + 1, 5, none⟩ = some (.slice none 0 0) := by rw [cell_of h9]; rfl
 have e6 : w9.cell? ⟨W.heap.size + 1, 6, none⟩ = some (.int .u64 0) := by rw [cell_of h9]; rfl
 refine bodyPost_ret (v := .agg #[.int .i64 33, .bool false, .int .u64 0, .bool false, .int .u64 0, .slice none 0 0, .int .u64 0]) (by simp [results, Tryz.results46, go_sem, e0, e1, e2, e3, e4, e5, e6]) rfl ?_
 exact ⟨rfl, c9⟩
set_option maxRecDepth 100000 in
theorem q_none9 {W : World} {m : Nat} {mu : Int} {mv hv : Value} {hs : List (Nat × Value)} (H : RMod W m mu mv hv hs) (hl : hs.length ≤ 4000000) {hk : Nat} {k v od lo hi r6 r7 : Int} {r5 : Bool} {kp : Option Addr} {kn kc : Nat} (hpl : placeI hs hk = -1) :
    Calls Tryz.prog 46 #[.pointer (some ⟨m, 0, none⟩), .agg #[.int .u8 9, .int .u64 k, .int .u64 v, .int .u64 od, .int .u64 hk, .bool r5, .int .i64 r6, .int .i64 r7, .slice kp kn kc, .int .u64 lo, .int .u64 hi]] W fun e W' => e = .returned (.agg #[.int .i64 33, .bool false, .int .u64 0, .bool false, .int .u64 0, .slice none 0 0, .int .u64 0]) ∧ Chg (fun _ => False) W W' := by
 have hm := lt_of H.at_
 have c0 : ∀ o o', ((W.alloc o).alloc o').cell? ⟨m, 0, none⟩ = some (.int .i64 mu) := fun o o' => by
  have := (H.quiet (((Chg.refl (fun _ => False) W).alloc o).alloc o')).c0
  exact this
 have HPL : Hid (∀ o o' n, Calls Tryz.prog 45 #[.pointer (some ⟨m, 0, none⟩), .int .u64 hk] (((W.alloc o).alloc o').drewN n) fun e W' => e = .returned (.int .i64 (-1)) ∧ W' = (((W.alloc o).alloc o').drewN n)) := fun o o' n => by
  have := r_placeM (H.quiet (chg_dn (((Chg.refl (fun _ => False) W).alloc o).alloc o') n)) hl hk
  rw [hpl] at this
  exact this
 clear H hpl
 go_enter Tryz.func46, Tryz.ntmps46
 go_upto_region 1 with fail
 go_quiet (fail)
 go_wp2_with fail
 refine (HPL.out _ _ _).mono ?_
 rintro e w1 ⟨rfl, rfl⟩
 go_wp2_with fail
 have hE := end7 (W := W) (b := W.heap.size + 1) (x0 := .int .i64 33) (x1 := .bool false) (x2 := .int .u64 0) (x3 := .bool false) (x4 := .int .u64 0) (x5 := .slice none 0 0) (x6 := .int .u64 0) (w := ((W.alloc (.cells #[.int .u8 9, .int .u64 k, .int .u64 v, .int .u64 od, .int .u64 hk, .bool r5, .int .i64 r6, .int .i64 r7, .slice kp kn kc, .int .u64 lo, .int .u64 hi] 35 (0, 0))).alloc (.cells #[.int .i64 0, .bool false, .int .u64 0, .bool false, .int .u64 0, .slice none 0 0, .int .u64 0] 39 (0, 0))).drewN nq) (two_new _ _ _ _) (chg_dn (((Chg.refl _ W).alloc _).alloc _) _) (by omega)
 revert hE
 generalize World.setCell _ ⟨W.heap.size + 1, 6, none⟩ _ = w9
 rintro ⟨h9, c9⟩
 have e0 : w9.cell? ⟨W.heap.size + 1, 0, none⟩ = some (.int .i64 33) := by rw [cell_of h9]; rfl
 have e1 : w9.cell? ⟨W.heap.size + 1, 1, none⟩ = some (.bool false) := by rw [cell_of h9]; rfl
 have e2 : w9.cell? ⟨W.heap.size + 1, 2, none⟩ = some (.int .u64 0) := by rw [cell_of h9]; rfl
 have e3 : w9.cell? ⟨W.heap.size + 1, 3, none⟩ = some (.bool false) := by rw [cell_of h9]; rfl
 have e4 : w9.cell? ⟨W.heap.size + 1, 4, none⟩ = some (.int .u64 0) := by rw [cell_of h9]; rfl
 have e5 : w9.cell? ⟨W.heap.size + 1, 5, none⟩ = some (.slice none 0 0) := by rw [cell_of h9]; rfl
 have e6 : w9.cell? ⟨W.heap.size + 1, 6, none⟩ = some (.int .u64 0) := by rw [cell_of h9]; rfl
 refine bodyPost_ret (v := .agg #[.int .i64 33, .bool false, .int .u64 0, .bool false, .int .u64 0, .slice none 0 0, .int .u64 0]) (by simp [results, Tryz.results46, go_sem, e0, e1, e2, e3, e4, e5, e6]) rfl ?_
 exact ⟨rfl, c9⟩
end Go.Proofs.YtahgaghokpicgaaGreat
