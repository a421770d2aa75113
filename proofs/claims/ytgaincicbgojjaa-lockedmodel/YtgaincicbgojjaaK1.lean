/- Handles; the lock; the slots of a store under a lock. -/
import Derived.Laws.BitsAllLaws
import Derived.OpenShut
import Derived.BigQuiet
import Derived.Conc.RwLib
import Derived.Conc.MuLone
import Derived.Test.YtgaincicbgojjaaFr
namespace Go.Proofs.Ytgaincicbgojjaa
open Go.RowKit
set_option linter.unusedVariables false

def handleW (s g : Int) : Int := if s < 0 then 0 else if 256 ≤ s then 0 else if 1048576 ≤ g then 0 else s + 1 + g * 65536
def handleE (s g : Int) : Int := if s < 0 then 2 else if 256 ≤ s then 2 else if 1048576 ≤ g then 2 else 0
def unS (h : Int) : Int := if h % 65536 = 0 then 0 else if 256 < h % 65536 then 0 else if 1048576 ≤ h / 65536 then 0 else h % 65536 - 1
def unG (h : Int) : Int := if h % 65536 = 0 then 0 else if 256 < h % 65536 then 0 else if 1048576 ≤ h / 65536 then 0 else h / 65536
def unE (h : Int) : Int := if h % 65536 = 0 then 33 else if 256 < h % 65536 then 33 else if 1048576 ≤ h / 65536 then 33 else 0
theorem or_handle (s g : Int) (h1 : 0 ≤ s) (h2 : s < 256) (h3 : 0 ≤ g) (h4 : g < 1048576) : bits .or .u64 (s + 1) (g * 65536) = s + 1 + g * 65536 := by
  rw [u64_or _ _ (by omega) (by omega) (by omega) (by omega), Nat.or_comm, nat_join 16 (g * 65536).toNat (s + 1).toNat (by omega) (by omega)]
  omega
theorem and_handle (h : Int) (h1 : 0 ≤ h) (h2 : h < 18446744073709551616) : bits .and .u64 h 65535 = h % 65536 := by
  rw [u64_and _ _ h1 h2 (by omega) (by omega), show (65535 : Int).toNat = 65535 from rfl, nat_mask16]
  omega
theorem oneInt {p : IntKind} {a b : Int} (h : a = b) : Ending.returned (.int p a) = .returned (.int p b) := by rw [h]
theorem twoInts {p q : IntKind} {a b c d : Int} (h : a = c) (g : b = d) : Ending.returned (.tuple #[.int p a, .int q b]) = .returned (.tuple #[.int p c, .int q d]) := by rw [h, g]
theorem threeInts {p q r : IntKind} {a b c d x y : Int} (h : a = c) (g : b = d) (k : x = y) : Ending.returned (.tuple #[.int p a, .int q b, .int r x]) = .returned (.tuple #[.int p c, .int q d, .int r y]) := by rw [h, g, k]
set_option maxHeartbeats 400000 in
theorem handle_any (s g : Int) (w : World) (h0 : -9223372036854775808 ≤ s) (h1 : s < 9223372036854775808) (h3 : 0 ≤ g) (h4 : g < 18446744073709551616) :
    Calls Try.prog 83 #[.int .i64 s, .int .u64 g] w fun e w' => e = .returned (.tuple #[.int .u64 (handleW s g), .int .i64 (handleE s g)]) ∧ w' = w := by
  by_cases c1 : s < 0
  · go_enter Try.func83, Try.ntmps83
    go_wp2_with fail
    go_ret2
    exact ⟨twoInts (by unfold handleW; (repeat' split) <;> omega) (by unfold handleE; (repeat' split) <;> omega), rfl⟩
  · by_cases c2 : 256 ≤ s
    · go_enter Try.func83, Try.ntmps83
      go_wp2_with fail
      go_ret2
      exact ⟨twoInts (by unfold handleW; (repeat' split) <;> omega) (by unfold handleE; (repeat' split) <;> omega), rfl⟩
    · by_cases c3 : 1048576 ≤ g
      · go_enter Try.func83, Try.ntmps83
        go_wp2_with fail
        go_ret2
        exact ⟨twoInts (by unfold handleW; (repeat' split) <;> omega) (by unfold handleE; (repeat' split) <;> omega), rfl⟩
      · have ho := or_handle s g (by omega) (by omega) h3 (by omega)
        go_enter Try.func83, Try.ntmps83
        go_wp2_with fail
        go_ret2
        exact ⟨twoInts (by unfold handleW; (repeat' split) <;> omega) (by unfold handleE; (repeat' split) <;> omega), rfl⟩
set_option maxHeartbeats 400000 in
theorem unhandle_any (h : Int) (w : World) (h1 : 0 ≤ h) (h2 : h < 18446744073709551616) :
    Calls Try.prog 84 #[.int .u64 h] w fun e w' => e = .returned (.tuple #[.int .i64 (unS h), .int .u64 (unG h), .int .i64 (unE h)]) ∧ w' = w := by
  have ha := and_handle h h1 h2
  by_cases c1 : h % 65536 = 0
  · have g1 : (h % 65536 == 0) = true := by simp [c1]
    have H : Hid (h % 65536 = 0) := c1
    clear c1
    go_enter Try.func84, Try.ntmps84
    go_wp2_with fail
    go_ret3
    exact ⟨threeInts (by have := H.out; unfold unS; (repeat' split) <;> omega) (by have := H.out; unfold unG; (repeat' split) <;> omega) (by have := H.out; unfold unE; (repeat' split) <;> omega), rfl⟩
  · have g1 : (h % 65536 == 0) = false := by simp [c1]
    by_cases c2 : 256 < h % 65536
    · go_enter Try.func84, Try.ntmps84
      go_wp2_with fail
      go_ret3
      exact ⟨threeInts (by unfold unS; (repeat' split) <;> omega) (by unfold unG; (repeat' split) <;> omega) (by unfold unE; (repeat' split) <;> omega), rfl⟩
    · by_cases c3 : 1048576 ≤ h / 65536
      · go_enter Try.func84, Try.ntmps84
        go_wp2_with fail
        go_ret3
        exact ⟨threeInts (by unfold unS; (repeat' split) <;> omega) (by unfold unG; (repeat' split) <;> omega) (by unfold unE; (repeat' split) <;> omega), rfl⟩
      · go_enter Try.func84, Try.ntmps84
        go_wp2_with fail
        go_ret3
        exact ⟨threeInts (by unfold unS; (repeat' split) <;> omega) (by unfold unG; (repeat' split) <;> omega) (by unfold unE; (repeat' split) <;> omega), rfl⟩
abbrev muL : Go.Conc.Locks.MuLink := { lock := 19, unlock := 20, ilock := 35, iunlock := 36, lockSlow := 59, unlockSlow := 62, disable := 55, enable := 57, acquire := 58, relMerge := 60, cas32 := 56, add32 := 61, tMutex := 64, tIMutex := 62, tPMutex := 92, tPIMutex := 107, tPI32 := 109, tUP := 111, tNoCopy := 59, tU32 := 60 }
theorem muLib : Go.Conc.Locks.MuLib Try.prog muL :=
  ⟨Try.func19, Try.func20, Try.func35, Try.func36, Try.func55, Try.func57, Try.func58, Try.func60, Try.func56, Try.func61, Try.underlying62, Try.runUnderlying62, Try.sizeOf62, Try.isAgg62, Try.zeroValue62, Try.underlying64, Try.runUnderlying64, Try.sizeOf64, Try.isAgg64, Try.zeroValue64, Try.underlying92, Try.runUnderlying92, Try.sizeOf92, Try.isAgg92, Try.zeroValue92, Try.underlying107, Try.runUnderlying107, Try.sizeOf107, Try.isAgg107, Try.zeroValue107, Try.underlying109, Try.runUnderlying109, Try.sizeOf109, Try.isAgg109, Try.zeroValue109, Try.underlying111, Try.runUnderlying111, Try.sizeOf111, Try.isAgg111, Try.zeroValue111, Try.underlying59, Try.runUnderlying59, Try.sizeOf59, Try.isAgg59, Try.zeroValue59, Try.underlying21, Try.runUnderlying21, Try.sizeOf21, Try.isAgg21, Try.zeroValue21, (by kernel_rfl)⟩
def slC (l : List (Bool × Nat)) : List Value := l.flatMap (fun x => [.bool x.1, .int .u64 (x.2 : Int)])
theorem slC_cons (x : Bool × Nat) (l : List (Bool × Nat)) : slC (x :: l) = .bool x.1 :: .int .u64 (x.2 : Int) :: slC l := rfl
theorem slC_len (l : List (Bool × Nat)) : (slC l).length = l.length * 2 := by
  induction l with
  | nil => rfl
  | cons x l ih => rw [slC_cons]; simp [ih]; omega
theorem slC_get : ∀ (l : List (Bool × Nat)) (i : Nat) (x : Bool × Nat), l[i]? = some x → (slC l)[i * 2]? = some (.bool x.1) ∧ (slC l)[i * 2 + 1]? = some (.int .u64 (x.2 : Int))
  | [], i, x, h => by simp at h
  | y :: l, 0, x, h => by simp at h; subst h; exact ⟨rfl, rfl⟩
  | y :: l, i + 1, x, h => by
    have := slC_get l i x (by simpa using h)
    rw [slC_cons, show (i + 1) * 2 = i * 2 + 1 + 1 by omega]
    exact this
theorem slC_set : ∀ (l : List (Bool × Nat)) (i : Nat) (b : Bool) (g : Nat), l[i]? = some (b, g) → ∀ b' g', (slC l).set (i * 2) (.bool b') = slC (l.set i (b', g)) ∧ (slC l).set (i * 2 + 1) (.int .u64 ((g' : Nat) : Int)) = slC (l.set i (b, g'))
  | [], i, b, g, h => by simp at h
  | y :: l, 0, b, g, h => by simp at h; subst h; intro b' g'; exact ⟨rfl, rfl⟩
  | y :: l, i + 1, b, g, h => by
    intro b' g'
    have := slC_set l i b g (by simpa using h) b' g'
    rw [slC_cons, show (i + 1) * 2 = i * 2 + 1 + 1 by omega]
    simp only [List.set_cons_succ, slC_cons, this.1, this.2, and_self]
def mayS (x : Bool × Nat) : Bool := !x.1 && decide (x.2 < 1048575)
set_option maxRecDepth 100000 in
theorem k_may (b : Bool) (g : Nat) (W : World) : Calls Try.prog 82 #[.agg #[.bool b, .int .u64 (g : Int)]] W fun e W' => e = .returned (.bool (mayS (b, g))) ∧ Chg (fun _ => False) W W' := by
  cases b
  · by_cases c : g < 1048575
    · have q : (g : Int) < 1048575 := by omega
      have HM : Hid (mayS (false, g) = true) := by show _ = _; simp [mayS, c]
      go_enter Try.func82, Try.ntmps82
      go_wp2_with fail
      go_ret
      exact ⟨by rw [HM.out]; rfl, (Chg.refl _ _).alloc _⟩
    · have q : ¬ (g : Int) < 1048575 := by omega
      have HM : Hid (mayS (false, g) = false) := by show _ = _; simp [mayS]; omega
      go_enter Try.func82, Try.ntmps82
      go_wp2_with fail
      go_ret
      exact ⟨by rw [HM.out]; rfl, (Chg.refl _ _).alloc _⟩
  · have HM : Hid (mayS (true, g) = false) := by show _ = _; simp [mayS]
    go_enter Try.func82, Try.ntmps82
    go_wp2_with fail
    go_ret
    exact ⟨by rw [HM.out]; rfl, (Chg.refl _ _).alloc _⟩
/-- The first slot that may be had. -/
def idxS (l : List (Bool × Nat)) : Option Nat := l.findIdx? mayS
def idxI (l : List (Bool × Nat)) : Int := match idxS l with | some i => (i : Int) | none => -1
theorem idxS_some {l : List (Bool × Nat)} {i : Nat} {x : Bool × Nat} (hx : l[i]? = some x) (hm : mayS x = true) (hl : ∀ j y, j < i → l[j]? = some y → mayS y = false) : idxS l = some i := by
  unfold idxS
  rw [List.findIdx?_eq_some_iff_getElem]
  obtain ⟨h, e⟩ := List.getElem?_eq_some_iff.1 hx
  refine ⟨h, by rw [e]; exact hm, fun j hj => ?_⟩
  have := hl j _ hj (List.getElem?_eq_getElem (by omega))
  simp [this]
theorem idxS_none {l : List (Bool × Nat)} (hl : ∀ (j : Nat) y, l[j]? = some y → mayS y = false) : idxS l = none := by
  unfold idxS
  rw [List.findIdx?_eq_none_iff]
  intro x hx
  obtain ⟨j, hj⟩ := List.mem_iff_getElem?.1 hx
  exact hl j x hj
theorem idxS_spec {l : List (Bool × Nat)} {i : Nat} (h : idxS l = some i) : ∃ g, l[i]? = some (false, g) ∧ g < 1048575 := by
  unfold idxS at h
  rw [List.findIdx?_eq_some_iff_getElem] at h
  obtain ⟨h1, h2, _⟩ := h
  have e := List.getElem?_eq_getElem h1
  generalize l[i] = x at e h2
  obtain ⟨b, g⟩ := x
  simp [mayS] at h2
  obtain ⟨rfl, h2⟩ := h2
  exact ⟨g, e, h2⟩
end Go.Proofs.Ytgaincicbgojjaa
