/- Do keys rise? -/
import Derived.Test.YtbmfjcdafjknaabEb
import Derived.Test.YtbmfjcdafjknaabMsX
import Derived.Test.YtbmfjcdafjknaabNc
import Derived.Lib.QuietBelow
namespace Go.Proofs.Ytbmfjcdafjknaab
open Go.RowKit
set_option linter.unusedVariables false

def riseB : List (Nat × Nat) → Bool
  | a :: b :: r => decide (a.1 < b.1) && riseB (b :: r)
  | _ => true
theorem riseB_iff (l : List (Nat × Nat)) : riseB l = true ↔ ∀ (i : Nat) (x y : Nat × Nat), l[i]? = some x → l[i + 1]? = some y → x.1 < y.1 := by
  induction l with
  | nil => simp [riseB]
  | cons a l ih =>
    cases l with
    | nil => simp [riseB]
    | cons b r =>
      simp only [riseB, Bool.and_eq_true, decide_eq_true_eq, ih]
      constructor
      · rintro ⟨h1, h2⟩ i x y hx hy
        cases i with
        | zero => simp at hx hy; subst hx hy; exact h1
        | succ i => exact h2 i x y (by simpa using hx) (by simpa using hy)
      · intro h
        exact ⟨h 0 a b rfl rfl, fun i x y hx hy => h (i + 1) x y (by simpa using hx) (by simpa using hy)⟩
theorem riseB_pair {l : List (Nat × Nat)} (h : riseB l = true) : l.Pairwise (fun a b => a.1 < b.1) := by
  induction l with
  | nil => exact .nil
  | cons a l ih =>
    cases l with
    | nil => exact List.pairwise_singleton _ _
    | cons b r =>
      simp only [riseB, Bool.and_eq_true, decide_eq_true_eq] at h
      have q := ih h.2
      refine List.pairwise_cons.2 ⟨fun y hy => ?_, q⟩
      rcases List.mem_cons.1 hy with rfl | hy
      · exact h.1
      · exact Nat.lt_trans h.1 ((List.pairwise_cons.1 q).1 y hy)
theorem key_p (a b : Nat) (w : World) : Calls Try.prog 21 #[.agg #[.int .u64 (a : Int), .int .u64 (b : Int)]] w fun e w' => e = .returned (.int .u64 (a : Int)) ∧ Below w.heap.size w w' := by
  go_enter Try.func21, Try.ntmps21
  go_wp2_with fail
  go_ret
  exact ⟨rfl, (Below.refl _ w).alloc (Nat.le_refl _) _⟩
theorem PairsAt.getB {W W' : World} {p : Option Addr} {l : List (Nat × Nat)} (h : PairsAt W p l) (c : Below W.heap.size W W') (i k x : Nat) (hi : l[i]? = some (k, x)) : ∃ bk off, p = some ⟨bk, off, none⟩ ∧ k < 18446744073709551616 ∧ x < 18446744073709551616 ∧ W'.cell? ⟨bk, off + i * 2, none⟩ = some (.int .u64 (k : Int)) ∧ W'.cell? ⟨bk, off + i * 2 + 1, none⟩ = some (.int .u64 (x : Int)) := by
  rcases h with rfl | ⟨bk, off, rfl, hb, h⟩
  · simp at hi
  · obtain ⟨b1, b2, h1, h2⟩ := h i k x hi
    exact ⟨bk, off, rfl, b1, b2, (c.cell (p := ⟨bk, off + i * 2, none⟩) hb).trans h1, (c.cell (p := ⟨bk, off + i * 2 + 1, none⟩) hb).trans h2⟩
theorem below_trans {W A C : World} (h : Below W.heap.size W A) (k : Below A.heap.size A C) : Below W.heap.size W C := h.trans ⟨k.os, k.tape, k.output, k.size, fun j hj => k.block j (Nat.lt_of_lt_of_le hj h.size)⟩
set_option maxRecDepth 100000 in
set_option maxHeartbeats 4000000 in
theorem rise_any {W : World} {p : Option Addr} {l : List (Nat × Nat)} (H : PairsAt W p l) (c : Nat) (hl : l.length ≤ 1000000000000) :
    Calls Try.prog 44 #[.slice p l.length c, .func (.func 21) #[] #[]] W fun e W' => e = .returned (.bool (riseB l)) ∧ Below W.heap.size W W' := by
  have HH := keepH H
  clear H
  go_enter Try.func44, Try.ntmps44
  go_wp2_with fail
  go_loopw [5] (fun q wr => ∃ i : Nat, (1 ≤ i ∧ (i ≤ l.length ∨ i = 1)) ∧ q = .int .i64 (i : Int) ∧ Hid ((∀ (j : Nat) (x y : Nat × Nat), j + 1 < i → l[j]? = some x → l[j + 1]? = some y → x.1 < y.1) ∧ Below W.heap.size W wr)) (fun q _ => l.length + 1 - (intOf q).toNat)
  case atStart => exact ⟨1, ⟨by omega, .inr rfl⟩, rfl, keepH ⟨fun j x y h => absurd h (by omega), Below.refl _ _⟩⟩
  case round =>
    obtain ⟨i, hil, rfl, HX⟩ := hrel
    by_cases hlt : i < l.length
    · have q1 : (i : Int) < (l.length : Int) := by omega
      obtain ⟨j, rfl⟩ : ∃ j, i = j + 1 := ⟨i - 1, by omega⟩
      obtain ⟨⟨a, b⟩, hx⟩ : ∃ x, l[j]? = some x := ⟨l[j]'(by omega), List.getElem?_eq_getElem _⟩
      obtain ⟨⟨d, e⟩, hy⟩ : ∃ x, l[j + 1]? = some x := ⟨l[j + 1], List.getElem?_eq_getElem hlt⟩
      obtain ⟨bk, off, rfl, ba, bb, c0, c1⟩ := HH.out.getB HX.out.2 j a b hx
      obtain ⟨bk', off', e', bd, be, d0, d1⟩ := HH.out.getB HX.out.2 (j + 1) d e hy
      injection e' with e'
      injection e' with e1 e2
      subst e1 e2
      have HXY : Hid (l[j]? = some (a, b) ∧ l[j + 1]? = some (d, e)) := ⟨hx, hy⟩
      clear hx hy
      have wj : IntKind.i64.wrap (j : Int) = (j : Int) := by rw [IntKind.wrap_i64]; omega
      have jb : (j : Int) < (l.length : Int) := by omega
      have j0 : 0 ≤ (j : Int) + 1 := by omega
      have jn : ((j : Int) + 1).toNat = j + 1 := by omega
      have k0 := cell_regrown c0
      have k1 := cell_regrown c1
      have m0 := cell_regrown d0
      have m1 := cell_regrown d1
      have KA := keepH (fun dd os => Calls.regrown_of (w := wr) (d := dd) (os := os) (key_p a b _))
      have KD := keepH (fun dd os => Calls.regrown_of (w := wr) (d := dd) (os := os) (key_p d e _))
      have HA : Hid (∀ dq osq, Below W.heap.size W (Sort.grow (redrawn wr dq) osq)) := keepH (fun dq osq => below_trans HX.out.2 (below_regrown wr dq osq))
      by_cases t : a < d
      · have t1 : decide ((d : Int) ≤ (a : Int)) = false := decide_eq_false (by omega)
        have t2 : ¬ (d : Int) ≤ (a : Int) := by omega
        have HT := keepH t
        clear t
        go_wp2_with fail
        refine wp_region_quiet_below (by kernel_rfl) (by kernel_rfl) ?_
        repeat (quiet_step (first | exact KA.out _ _ | exact KD.out _ _))
        refine wpQuiet_nil ?_
        intro _ hw'
        obtain ⟨⟨dq, osq⟩, hw''⟩ := hw'
        subst hw''
        go_wp2_with fail
        go_roundw
        case rel => exact ⟨j + 1 + 1, ⟨by omega, .inl (by omega)⟩, by first | rfl | go_num, keepH ⟨fun m x y hm hx hy => by
          by_cases z : m = j
          · subst z
            rw [HXY.out.1] at hx
            rw [HXY.out.2] at hy
            injection hx with hx
            injection hy with hy
            subst hx hy
            exact HT.out
          · exact HX.out.1 m x y (by omega) hx hy, HA.out _ _⟩⟩
        case measure => simp [intOf]; omega
      · have t1 : decide ((d : Int) ≤ (a : Int)) = true := decide_eq_true (by omega)
        have t2 : (d : Int) ≤ (a : Int) := by omega
        have HT := keepH t
        clear t
        have HR : Hid (riseB l = false) := by
          cases hb : riseB l with
          | false => exact keepH rfl
          | true => exact absurd ((riseB_iff l).1 hb j _ _ HXY.out.1 HXY.out.2) HT.out
        go_wp2_with fail
        refine wp_region_quiet_below (by kernel_rfl) (by kernel_rfl) ?_
        repeat (quiet_step (first | exact KA.out _ _ | exact KD.out _ _))
        refine wpQuiet_nil ?_
        intro _ hw'
        obtain ⟨⟨dq, osq⟩, hw''⟩ := hw'
        subst hw''
        go_wp2_with fail
        go_ret
        exact ⟨by rw [HR.out]; rfl, HA.out _ _⟩
    · have q1 : ¬ (i : Int) < (l.length : Int) := by omega
      have HR : Hid (riseB l = true) := keepH ((riseB_iff l).2 (fun j x y hx hy => by
        have := (List.getElem?_eq_some_iff.1 hy).1
        exact HX.out.1 j x y (by omega) hx hy))
      go_wp2_with fail
      go_ret
      exact ⟨by rw [HR.out]; rfl, HX.out.2⟩
theorem right_any {W : World} {p : Option Addr} {l : List (Nat × Nat)} (H : PairsAt W p l) (c : Nat) (hl : l.length ≤ 1000000000000) :
    Calls Try.prog 14 #[.slice p l.length c] W fun e W' => e = .returned (.bool (riseB l)) ∧ Below W.heap.size W W' := by
  have HC := keepH (rise_any H c hl)
  go_enter Try.func14, Try.ntmps14
  go_wp2_with (first | (go_at_call 44; refine HC.out.mono ?_; rintro e W1 ⟨rfl, hB⟩; have HB := keepH hB; clear hB))
  go_ret
  exact ⟨rfl, HB.out⟩
end Go.Proofs.Ytbmfjcdafjknaab
