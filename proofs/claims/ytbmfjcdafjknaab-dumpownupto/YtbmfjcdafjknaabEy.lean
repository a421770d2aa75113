/- Are changes right; does a change fit. -/
import Derived.Test.YtbmfjcdafjknaabEx
import Derived.Test.YtbmfjcdafjknaabEk
namespace Go.Proofs.Ytbmfjcdafjknaab
open Go.RowKit
set_option linter.unusedVariables false

def keysC (l : List Ch) : List (Nat × Nat) := l.map (fun c => (c.k, c.new))
def riseC (l : List Ch) : Bool := riseB (keysC l)
theorem riseC_iff (l : List Ch) : riseC l = true ↔ ∀ (i : Nat) (x y : Ch), l[i]? = some x → l[i + 1]? = some y → x.k < y.k := by
  unfold riseC
  rw [riseB_iff]
  constructor
  · intro h i x y hx hy
    exact h i (x.k, x.new) (y.k, y.new) (by simp [keysC, hx]) (by simp [keysC, hy])
  · intro h i x y hx hy
    simp only [keysC, List.getElem?_map, Option.map_eq_some_iff] at hx hy
    obtain ⟨cx, hx, rfl⟩ := hx
    obtain ⟨cy, hy, rfl⟩ := hy
    exact h i cx cy hx hy
set_option maxRecDepth 100000 in
set_option maxHeartbeats 4000000 in
theorem rise_c {W : World} {p : Option Addr} {l : List Ch} (H : ChAt W p l) (c : Nat) (hl : l.length ≤ 1000000000000) :
    Calls Try.prog 50 #[.slice p l.length c, .func (.func 22) #[] #[]] W fun e W' => e = .returned (.bool (riseC l)) ∧ Below W.heap.size W W' := by
  have HH := keepH H
  clear H
  go_enter Try.func50, Try.ntmps50
  go_wp2_with fail
  go_loopw [5] (fun q wr => ∃ i : Nat, (1 ≤ i ∧ (i ≤ l.length ∨ i = 1)) ∧ q = .int .i64 (i : Int) ∧ Hid ((∀ (j : Nat) (x y : Ch), j + 1 < i → l[j]? = some x → l[j + 1]? = some y → x.k < y.k) ∧ Below W.heap.size W wr)) (fun q _ => l.length + 1 - (intOf q).toNat)
  case atStart => exact ⟨1, ⟨by omega, .inr rfl⟩, rfl, keepH ⟨fun j x y h => absurd h (by omega), Below.refl _ _⟩⟩
  case round =>
    obtain ⟨i, hil, rfl, HX⟩ := hrel
    by_cases hlt : i < l.length
    · have q1 : (i : Int) < (l.length : Int) := by omega
      obtain ⟨j, rfl⟩ : ∃ j, i = j + 1 := ⟨i - 1, by omega⟩
      obtain ⟨⟨a, hd, hs, od, nw⟩, hx⟩ : ∃ x : Ch, l[j]? = some x := ⟨l[j]'(by omega), List.getElem?_eq_getElem _⟩
      obtain ⟨⟨d, hd', hs', od', nw'⟩, hy⟩ : ∃ x : Ch, l[j + 1]? = some x := ⟨l[j + 1], List.getElem?_eq_getElem hlt⟩
      obtain ⟨bk, off, rfl, hbk, hcs⟩ := (HH.out.below HX.out.2).resolve_left (by intro e; subst e; simp at hx)
      obtain ⟨c0, c1, c2, c3, c4⟩ := hcs j _ hx
      obtain ⟨d0, d1, d2, d3, d4⟩ := hcs (j + 1) _ hy
      simp only at c0 c1 c2 c3 c4 d0 d1 d2 d3 d4
      have HXY : Hid (l[j]? = some ⟨a, hd, hs, od, nw⟩ ∧ l[j + 1]? = some ⟨d, hd', hs', od', nw'⟩) := ⟨hx, hy⟩
      clear hx hy hcs
      have wj : IntKind.i64.wrap (j : Int) = (j : Int) := by rw [IntKind.wrap_i64]; omega
      have jb : (j : Int) < (l.length : Int) := by omega
      have j0 : 0 ≤ (j : Int) + 1 := by omega
      have jn : ((j : Int) + 1).toNat = j + 1 := by omega
      have k0 := cell_regrown c0
      have m0 := cell_regrown d0
      have k1 := cell_regrown c1
      have m1 := cell_regrown d1
      have k2 := cell_regrown c2
      have m2 := cell_regrown d2
      have k3 := cell_regrown c3
      have m3 := cell_regrown d3
      have k4 := cell_regrown c4
      have m4 := cell_regrown d4
      have KA := keepH (fun dd os => Calls.regrown_of (w := wr) (d := dd) (os := os) (key_c a hd hs od nw _))
      have KD := keepH (fun dd os => Calls.regrown_of (w := wr) (d := dd) (os := os) (key_c d hd' hs' od' nw' _))
      have HA : Hid (∀ dq osq, Below W.heap.size W (Sort.grow (redrawn wr dq) osq)) := keepH (fun dq osq => below_trans HX.out.2 (below_regrown wr dq osq))
      by_cases t : a < d
      · have t1 : decide ((d : Int) ≤ (a : Int)) = false := decide_eq_false (by omega)
        have t2 : ¬ (d : Int) ≤ (a : Int) := by omega
        have HT := keepH t
        clear t
        go_wp2_with fail
        refine wp_region_quiet_below (by kernel_rfl) (by kernel_rfl) ?_
        repeat (quiet_step (first | exact KA.out _ _ | exact KD.out _ _))
        refine wpQuiet_nil ?_
        intro _ hw'
        obtain ⟨⟨dq, osq⟩, hw''⟩ := hw'
        subst hw''
        go_wp2_with fail
        go_roundw
        case rel => exact ⟨j + 1 + 1, ⟨by omega, .inl (by omega)⟩, by first | rfl | go_num, keepH ⟨fun m x y hm hx hy => by
          by_cases z : m = j
          · subst z
            rw [HXY.out.1] at hx
            rw [HXY.out.2] at hy
            injection hx with hx
            injection hy with hy
            subst hx hy
            exact HT.out
          · exact HX.out.1 m x y (by omega) hx hy, HA.out _ _⟩⟩
        case measure => simp [intOf]; omega
      · have t1 : decide ((d : Int) ≤ (a : Int)) = true := decide_eq_true (by omega)
        have t2 : (d : Int) ≤ (a : Int) := by omega
        have HT := keepH t
        clear t
        have HR : Hid (riseC l = false) := by
          cases hb : riseC l with
          | false => exact keepH rfl
          | true => exact absurd ((riseC_iff l).1 hb j _ _ HXY.out.1 HXY.out.2) HT.out
        go_wp2_with fail
        refine wp_region_quiet_below (by kernel_rfl) (by kernel_rfl) ?_
        repeat (quiet_step (first | exact KA.out _ _ | exact KD.out _ _))
        refine wpQuiet_nil ?_
        intro _ hw'
        obtain ⟨⟨dq, osq⟩, hw''⟩ := hw'
        subst hw''
        go_wp2_with fail
        go_ret
        exact ⟨by rw [HR.out]; rfl, HA.out _ _⟩
    · have q1 : ¬ (i : Int) < (l.length : Int) := by omega
      have HR : Hid (riseC l = true) := keepH ((riseC_iff l).2 (fun j x y hx hy => by
        have := (List.getElem?_eq_some_iff.1 hy).1
        exact HX.out.1 j x y (by omega) hx hy))
      go_wp2_with fail
      go_ret
      exact ⟨by rw [HR.out]; rfl, HX.out.2⟩
def rightC (l : List Ch) : Bool := l.all Ch.right && riseC l
set_option maxRecDepth 100000 in
set_option maxHeartbeats 4000000 in
theorem right_c {W : World} {p : Option Addr} {l : List Ch} (H : ChAt W p l) (c : Nat) (hl : l.length ≤ 1000000000000) :
    Calls Try.prog 19 #[.slice p l.length c] W fun e W' => e = .returned (.bool (rightC l)) ∧ Below W.heap.size W W' := by
  have HH := keepH H
  clear H
  go_enter Try.func19, Try.ntmps19
  go_wp2_with fail
  go_loopw [7] (fun q wr => ∃ i : Nat, i ≤ l.length ∧ q = .int .i64 (i : Int) ∧ Hid ((∀ (j : Nat) (x : Ch), j < i → l[j]? = some x → x.right = true) ∧ Below W.heap.size W wr)) (fun q _ => l.length - (intOf q).toNat)
  case atStart => exact ⟨0, Nat.zero_le _, rfl, keepH ⟨fun j x h => absurd h (by omega), Below.refl _ _⟩⟩
  case round =>
    obtain ⟨i, hil, rfl, HX⟩ := hrel
    by_cases hlt : i < l.length
    · have q1 : (i : Int) < (l.length : Int) := by omega
      obtain ⟨⟨k, hd, hs, od, nw⟩, hx⟩ : ∃ x : Ch, l[i]? = some x := ⟨l[i], List.getElem?_eq_getElem hlt⟩
      obtain ⟨bk, off, rfl, hbk, hcs⟩ := (HH.out.below HX.out.2).resolve_left (by intro e; subst e; simp at hx)
      obtain ⟨c0, c1, c2, c3, c4⟩ := hcs i _ hx
      simp only at c0 c1 c2 c3 c4
      have HIS := fun w => is_right ⟨k, hd, hs, od, nw⟩ w
      have HXX := keepH hx
      clear hx hcs
      cases hr : Ch.right ⟨k, hd, hs, od, nw⟩ with
      | true =>
        rw [hr] at HIS
        simp only [Ch.val] at HIS
        replace HIS := keepH HIS
        have HR := keepH hr
        clear hr
        go_wp2_with (first | (go_at_call 49; refine (HIS.out _).mono ?_; clear HIS; rintro e W2 ⟨rfl, hB2⟩; have HB2 := keepH (below_trans (below_trans HX.out.2 ((Below.refl _ wr).alloc (Nat.le_refl _) _)) hB2); clear hB2))
        go_roundw
        case rel => exact ⟨i + 1, by omega, by first | rfl | go_num, keepH ⟨fun j x hj hx => by
          by_cases z : j = i
          · subst z
            rw [HXX.out] at hx
            injection hx with hx
            rw [← hx]
            exact HR.out
          · exact HX.out.1 j x (by omega) hx, HB2.out⟩⟩
        case measure => simp [intOf]; omega
      | false =>
        rw [hr] at HIS
        simp only [Ch.val] at HIS
        replace HIS := keepH HIS
        have HR : Hid (rightC l = false) := keepH (by
          unfold rightC
          rw [Bool.and_eq_false_iff]
          left
          rw [List.all_eq_false]
          exact ⟨_, List.mem_of_getElem? HXX.out, by rw [hr]; simp⟩)
        clear hr
        go_wp2_with (first | (go_at_call 49; refine (HIS.out _).mono ?_; clear HIS; rintro e W2 ⟨rfl, hB2⟩; have HB2 := keepH (below_trans (below_trans HX.out.2 ((Below.refl _ wr).alloc (Nat.le_refl _) _)) hB2); clear hB2))
        go_ret
        exact ⟨by rw [HR.out]; rfl, HB2.out⟩
    · have q1 : ¬ (i : Int) < (l.length : Int) := by omega
      have HR : Hid (rightC l = riseC l) := keepH (by
        unfold rightC
        have : l.all Ch.right = true := by
          rw [List.all_eq_true]
          intro x hx
          obtain ⟨j, hj⟩ := List.mem_iff_getElem?.1 hx
          exact HX.out.1 j x (by have := (List.getElem?_eq_some_iff.1 hj).1; omega) hj
        rw [this]
        rfl)
      have HC := keepH (rise_c (HH.out.below HX.out.2) c hl)
      go_wp2_with (first | (go_at_call 50; refine HC.out.mono ?_; clear HC; rintro e W2 ⟨rfl, hB2⟩; have HB2 := keepH (below_trans HX.out.2 hB2); clear hB2))
      go_ret
      exact ⟨by rw [HR.out]; rfl, HB2.out⟩
def fitsB (c : Ch) : Option (Nat × Nat) → Bool
  | none => !c.had
  | some x => c.had && decide (c.old = x.2)
set_option maxRecDepth 100000 in
set_option maxHeartbeats 4000000 in
theorem fits_none (c : Ch) (w : World) : Calls Try.prog 23 #[c.val, .pointer none] w fun e w' => e = .returned (.bool (fitsB c none)) ∧ Below w.heap.size w w' := by
  obtain ⟨k, had, has, old, new⟩ := c
  unfold Ch.val fitsB
  have HB : Hid (∀ o, Below w.heap.size w (w.alloc o)) := keepH (fun o => (Below.refl _ w).alloc (Nat.le_refl _) o)
  go_enter Try.func23, Try.ntmps23
  go_wp2_with fail
  go_ret
  exact ⟨rfl, HB.out _⟩
set_option maxRecDepth 100000 in
set_option maxHeartbeats 4000000 in
theorem fits_some (c : Ch) (b o x y : Nat) (w : World) (h0 : w.cell? ⟨b, o, none⟩ = some (.int .u64 (x : Int))) (h1 : w.cell? ⟨b, o + 1, none⟩ = some (.int .u64 (y : Int))) : Calls Try.prog 23 #[c.val, .pointer (some ⟨b, o, none⟩)] w fun e w' => e = .returned (.bool (fitsB c (some (x, y)))) ∧ Below w.heap.size w w' := by
  obtain ⟨k, had, has, old, new⟩ := c
  unfold Ch.val fitsB
  have hb : b < w.heap.size := World.block_lt_of_cell? w _ h0
  have HB : Hid (∀ o n, Below w.heap.size w ((w.alloc o).drewN n)) := keepH (fun o n => below_drew ((Below.refl _ w).alloc (Nat.le_refl _) o) n)
  cases had
  · go_enter Try.func23, Try.ntmps23
    go_wp2_with fail
    go_quiet (fail)
    go_wp2_with fail
    go_ret
    exact ⟨rfl, HB.out _ _⟩
  · by_cases v : old = y
    · have v1 : ((old : Int) == (y : Int)) = true := by simp [v]
      have HV := keepH v
      clear v
      go_enter Try.func23, Try.ntmps23
      go_wp2_with fail
      go_quiet (fail)
      go_wp2_with fail
      go_ret
      exact ⟨by simp [HV.out], HB.out _ _⟩
    · have v1 : ((old : Int) == (y : Int)) = false := by simp; omega
      have HV := keepH v
      clear v
      go_enter Try.func23, Try.ntmps23
      go_wp2_with fail
      go_quiet (fail)
      go_wp2_with fail
      go_ret
      exact ⟨by simp [HV.out], HB.out _ _⟩
end Go.Proofs.Ytbmfjcdafjknaab
