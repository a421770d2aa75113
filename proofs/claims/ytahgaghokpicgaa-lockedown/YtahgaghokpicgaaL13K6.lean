/- The document's answer for the store behind a lock: Content. -/
import Derived.Test.YtahgaghokpicgaaL10D6v
import Derived.Laws.BitsAllLaws
import Derived.OpenShut
import Derived.BigQuiet
import Derived.Conc.RwLib
import Derived.Conc.MuLone
import Derived.Test.YtahgaghokpicgaaL1Nd0
import Derived.Deep.RegionHeld3
import Derived.Deep.MidRow
import Derived.Deep.CutRange
import Derived.Laws.MakeOwn
namespace Go.Proofs.Ytahgaghokpicgaa
open Go.RowKit Go.Maps
set_option linter.unusedVariables false

/-- The document's store: its block over the model m. -/
def R25c (W : World) (s m : Nat) (c0 c1 c2 c3 : Int) (gv hv : Value) (tk n : Int) : Prop := W.heap[s]? = some (.cells #[.int .i64 c0, .int .i64 c1, .int .u64 c2, .int .i64 c3, .pointer (some ⟨m, 0, none⟩), gv, hv, .int .u64 tk, .int .i64 n] 95 (0, 0))
set_option maxRecDepth 100000 in
set_option maxHeartbeats 4000000 in
theorem r25_content {W : World} {s m : Nat} {c0 c1 c2 c3 : Int} {gv hv2 : Value} {tk n : Int} (hs0 : R25c W s m c0 c1 c2 c3 gv hv2 tk n) {mu : Int} {mv hv : Value} {hs : List (Nat × Value)} (H : RMod W m mu mv hv hs) {g : Nat → Option Nat} {l : List (Nat × Nat)} (hg : RL W mv g l) :
    Calls Try.prog 17 #[.pointer (some ⟨s, 0, none⟩)] W fun e W' => e = .returned mv ∧ Chg (fun _ => False) W W' := by
  have m4 : W.cell? ⟨s, 4, none⟩ = some (.pointer (some ⟨m, 0, none⟩)) := cell_of hs0 4
  have HC := keepH (r_content6 H hg)
  clear H hg hs0
  go_enter Try.func17, Try.ntmps17
  go_wp2_with fail
  refine HC.out.mono ?_
  rintro e w5 ⟨rfl, hc⟩
  have HC5 := keepH hc
  clear hc
  go_wp2_with fail
  exact bodyPost_ret (v := mv) (by simp [results, Try.results17, go_sem]) rfl ⟨rfl, HC5.out⟩
end Go.Proofs.Ytahgaghokpicgaa
/- Handles; the lock; the slots of a store under a lock. -/
namespace Go.Proofs.Ytahgaghokpicgaa
open Go.RowKit
set_option linter.unusedVariables false

def handleW (s g : Int) : Int := if s < 0 then 0 else if 256 ≤ s then 0 else if 1048576 ≤ g then 0 else s + 1 + g * 65536
def handleE (s g : Int) : Int := if s < 0 then 2 else if 256 ≤ s then 2 else if 1048576 ≤ g then 2 else 0
def unS (h : Int) : Int := if h % 65536 = 0 then 0 else if 256 < h % 65536 then 0 else if 1048576 ≤ h / 65536 then 0 else h % 65536 - 1
def unG (h : Int) : Int := if h % 65536 = 0 then 0 else if 256 < h % 65536 then 0 else if 1048576 ≤ h / 65536 then 0 else h / 65536
def unE (h : Int) : Int := if h % 65536 = 0 then 33 else if 256 < h % 65536 then 33 else if 1048576 ≤ h / 65536 then 33 else 0
theorem or_handle (s g : Int) (h1 : 0 ≤ s) (h2 : s < 256) (h3 : 0 ≤ g) (h4 : g < 1048576) : bits .or .u64 (s + 1) (g * 65536) = s + 1 + g * 65536 := by
  rw [u64_or _ _ (by omega) (by omega) (by omega) (by omega), Nat.or_comm, nat_join 16 (g * 65536).toNat (s + 1).toNat (by omega) (by omega)]
  omega
theorem and_handle (h : Int) (h1 : 0 ≤ h) (h2 : h < 18446744073709551616) : bits .and .u64 h 65535 = h % 65536 := by
  rw [u64_and _ _ h1 h2 (by omega) (by omega), show (65535 : Int).toNat = 65535 from rfl, nat_mask16]
  omega
theorem twoInts {p q : IntKind} {a b c d : Int} (h : a = c) (g : b = d) : Ending.returned (.tuple #[.int p a, .int q b]) = .returned (.tuple #[.int p c, .int q d]) := by rw [h, g]
theorem threeInts {p q r : IntKind} {a b c d x y : Int} (h : a = c) (g : b = d) (k : x = y) : Ending.returned (.tuple #[.int p a, .int q b, .int r x]) = .returned (.tuple #[.int p c, .int q d, .int r y]) := by rw [h, g, k]
set_option maxHeartbeats 400000 in
theorem handle_any (s g : Int) (w : World) (h0 : -9223372036854775808 ≤ s) (h1 : s < 9223372036854775808) (h3 : 0 ≤ g) (h4 : g < 18446744073709551616) :
    Calls Try.prog 108 #[.int .i64 s, .int .u64 g] w fun e w' => e = .returned (.tuple #[.int .u64 (handleW s g), .int .i64 (handleE s g)]) ∧ w' = w := by
  by_cases c1 : s < 0
  · go_enter Try.func108, Try.ntmps108
    go_wp2_with fail
    go_ret2
    exact ⟨twoInts (by unfold handleW; (repeat' split) <;> omega) (by unfold handleE; (repeat' split) <;> omega), rfl⟩
  · by_cases c2 : 256 ≤ s
    · go_enter Try.func108, Try.ntmps108
      go_wp2_with fail
      go_ret2
      exact ⟨twoInts (by unfold handleW; (repeat' split) <;> omega) (by unfold handleE; (repeat' split) <;> omega), rfl⟩
    · by_cases c3 : 1048576 ≤ g
      · go_enter Try.func108, Try.ntmps108
        go_wp2_with fail
        go_ret2
        exact ⟨twoInts (by unfold handleW; (repeat' split) <;> omega) (by unfold handleE; (repeat' split) <;> omega), rfl⟩
      · have ho := or_handle s g (by omega) (by omega) h3 (by omega)
        go_enter Try.func108, Try.ntmps108
        go_wp2_with fail
        go_ret2
        exact ⟨twoInts (by unfold handleW; (repeat' split) <;> omega) (by unfold handleE; (repeat' split) <;> omega), rfl⟩
set_option maxHeartbeats 400000 in
theorem unhandle_any (h : Int) (w : World) (h1 : 0 ≤ h) (h2 : h < 18446744073709551616) :
    Calls Try.prog 109 #[.int .u64 h] w fun e w' => e = .returned (.tuple #[.int .i64 (unS h), .int .u64 (unG h), .int .i64 (unE h)]) ∧ w' = w := by
  have ha := and_handle h h1 h2
  by_cases c1 : h % 65536 = 0
  · have g1 : (h % 65536 == 0) = true := by simp [c1]
    have H : Hid (h % 65536 = 0) := c1
    clear c1
    go_enter Try.func109, Try.ntmps109
    go_wp2_with fail
    go_ret3
    exact ⟨threeInts (by have := H.out; unfold unS; (repeat' split) <;> omega) (by have := H.out; unfold unG; (repeat' split) <;> omega) (by have := H.out; unfold unE; (repeat' split) <;> omega), rfl⟩
  · have g1 : (h % 65536 == 0) = false := by simp [c1]
    by_cases c2 : 256 < h % 65536
    · go_enter Try.func109, Try.ntmps109
      go_wp2_with fail
      go_ret3
      exact ⟨threeInts (by unfold unS; (repeat' split) <;> omega) (by unfold unG; (repeat' split) <;> omega) (by unfold unE; (repeat' split) <;> omega), rfl⟩
    · by_cases c3 : 1048576 ≤ h / 65536
      · go_enter Try.func109, Try.ntmps109
        go_wp2_with fail
        go_ret3
        exact ⟨threeInts (by unfold unS; (repeat' split) <;> omega) (by unfold unG; (repeat' split) <;> omega) (by unfold unE; (repeat' split) <;> omega), rfl⟩
      · go_enter Try.func109, Try.ntmps109
        go_wp2_with fail
        go_ret3
        exact ⟨threeInts (by unfold unS; (repeat' split) <;> omega) (by unfold unG; (repeat' split) <;> omega) (by unfold unE; (repeat' split) <;> omega), rfl⟩
abbrev muL : Go.Conc.Locks.MuLink := { lock := 39, unlock := 40, ilock := 67, iunlock := 68, lockSlow := 86, unlockSlow := 89, disable := 82, enable := 84, acquire := 85, relMerge := 87, cas32 := 83, add32 := 88, tMutex := 90, tIMutex := 88, tPMutex := 125, tPIMutex := 132, tPI32 := 134, tUP := 136, tNoCopy := 85, tU32 := 86 }
theorem muLib : Go.Conc.Locks.MuLib Try.prog muL :=
  ⟨Try.func39, Try.func40, Try.func67, Try.func68, Try.func82, Try.func84, Try.func85, Try.func87, Try.func83, Try.func88, Try.underlying88, Try.runUnderlying88, Try.sizeOf88, Try.isAgg88, Try.zeroValue88, Try.underlying90, Try.runUnderlying90, Try.sizeOf90, Try.isAgg90, Try.zeroValue90, Try.underlying125, Try.runUnderlying125, Try.sizeOf125, Try.isAgg125, Try.zeroValue125, Try.underlying132, Try.runUnderlying132, Try.sizeOf132, Try.isAgg132, Try.zeroValue132, Try.underlying134, Try.runUnderlying134, Try.sizeOf134, Try.isAgg134, Try.zeroValue134, Try.underlying136, Try.runUnderlying136, Try.sizeOf136, Try.isAgg136, Try.zeroValue136, Try.underlying85, Try.runUnderlying85, Try.sizeOf85, Try.isAgg85, Try.zeroValue85, Try.underlying21, Try.runUnderlying21, Try.sizeOf21, Try.isAgg21, Try.zeroValue21, (by kernel_rfl)⟩
def slC (l : List (Bool × Nat)) : List Value := l.flatMap (fun x => [.bool x.1, .int .u64 (x.2 : Int)])
theorem slC_cons (x : Bool × Nat) (l : List (Bool × Nat)) : slC (x :: l) = .bool x.1 :: .int .u64 (x.2 : Int) :: slC l := rfl
theorem slC_len (l : List (Bool × Nat)) : (slC l).length = l.length * 2 := by
  induction l with
  | nil => rfl
  | cons x l ih => rw [slC_cons]; simp [ih]; omega
theorem slC_get : ∀ (l : List (Bool × Nat)) (i : Nat) (x : Bool × Nat), l[i]? = some x → (slC l)[i * 2]? = some (.bool x.1) ∧ (slC l)[i * 2 + 1]? = some (.int .u64 (x.2 : Int))
  | [], i, x, h => by simp at h
  | y :: l, 0, x, h => by simp at h; subst h; exact ⟨rfl, rfl⟩
  | y :: l, i + 1, x, h => by
    have := slC_get l i x (by simpa using h)
    rw [slC_cons, show (i + 1) * 2 = i * 2 + 1 + 1 by omega]
    exact this
theorem slC_set : ∀ (l : List (Bool × Nat)) (i : Nat) (b : Bool) (g : Nat), l[i]? = some (b, g) → ∀ b' g', (slC l).set (i * 2) (.bool b') = slC (l.set i (b', g)) ∧ (slC l).set (i * 2 + 1) (.int .u64 ((g' : Nat) : Int)) = slC (l.set i (b, g'))
  | [], i, b, g, h => by simp at h
  | y :: l, 0, b, g, h => by simp at h; subst h; intro b' g'; exact ⟨rfl, rfl⟩
  | y :: l, i + 1, b, g, h => by
    intro b' g'
    have := slC_set l i b g (by simpa using h) b' g'
    rw [slC_cons, show (i + 1) * 2 = i * 2 + 1 + 1 by omega]
    simp only [List.set_cons_succ, slC_cons, this.1, this.2, and_self]
def mayS (x : Bool × Nat) : Bool := !x.1 && decide (x.2 < 1048575)
set_option maxRecDepth 100000 in
theorem k_may (b : Bool) (g : Nat) (W : World) : Calls Try.prog 107 #[.agg #[.bool b, .int .u64 (g : Int)]] W fun e W' => e = .returned (.bool (mayS (b, g))) ∧ Chg (fun _ => False) W W' := by
  cases b
  · by_cases c : g < 1048575
    · have q : (g : Int) < 1048575 := by omega
      have HM : Hid (mayS (false, g) = true) := by show _ = _; simp [mayS, c]
      go_enter Try.func107, Try.ntmps107
      go_wp2_with fail
      go_ret
      exact ⟨by rw [HM.out]; rfl, (Chg.refl _ _).alloc _⟩
    · have q : ¬ (g : Int) < 1048575 := by omega
      have HM : Hid (mayS (false, g) = false) := by show _ = _; simp [mayS]; omega
      go_enter Try.func107, Try.ntmps107
      go_wp2_with fail
      go_ret
      exact ⟨by rw [HM.out]; rfl, (Chg.refl _ _).alloc _⟩
  · have HM : Hid (mayS (true, g) = false) := by show _ = _; simp [mayS]
    go_enter Try.func107, Try.ntmps107
    go_wp2_with fail
    go_ret
    exact ⟨by rw [HM.out]; rfl, (Chg.refl _ _).alloc _⟩
/-- The first slot that may be had. -/
def idxS (l : List (Bool × Nat)) : Option Nat := l.findIdx? mayS
def idxI (l : List (Bool × Nat)) : Int := match idxS l with | some i => (i : Int) | none => -1
theorem idxS_some {l : List (Bool × Nat)} {i : Nat} {x : Bool × Nat} (hx : l[i]? = some x) (hm : mayS x = true) (hl : ∀ j y, j < i → l[j]? = some y → mayS y = false) : idxS l = some i := by
  unfold idxS
  rw [List.findIdx?_eq_some_iff_getElem]
  obtain ⟨h, e⟩ := List.getElem?_eq_some_iff.1 hx
  refine ⟨h, by rw [e]; exact hm, fun j hj => ?_⟩
  have := hl j _ hj (List.getElem?_eq_getElem (by omega))
  simp [this]
theorem idxS_none {l : List (Bool × Nat)} (hl : ∀ (j : Nat) y, l[j]? = some y → mayS y = false) : idxS l = none := by
  unfold idxS
  rw [List.findIdx?_eq_none_iff]
  intro x hx
  obtain ⟨j, hj⟩ := List.mem_iff_getElem?.1 hx
  exact hl j x hj
theorem idxS_spec {l : List (Bool × Nat)} {i : Nat} (h : idxS l = some i) : ∃ g, l[i]? = some (false, g) ∧ g < 1048575 := by
  unfold idxS at h
  rw [List.findIdx?_eq_some_iff_getElem] at h
  obtain ⟨h1, h2, _⟩ := h
  have e := List.getElem?_eq_getElem h1
  generalize l[i] = x at e h2
  obtain ⟨b, g⟩ := x
  simp [mayS] at h2
  obtain ⟨rfl, h2⟩ := h2
  exact ⟨g, e, h2⟩
end Go.Proofs.Ytahgaghokpicgaa
/- Slots taken and let go. -/
namespace Go.Proofs.Ytahgaghokpicgaa
open Go.RowKit
set_option linter.unusedVariables false

def nOf (v : Value) : Nat := match v with | .int _ i => i.toNat | _ => 0
set_option maxRecDepth 100000 in
set_option maxHeartbeats 2000000 in
theorem k_idx {W : World} {sb c : Nat} {sl : List (Bool × Nat)} (row : W.heap[sb]? = some (.cells (slC sl).toArray 157 (0, 0))) (hl : sl.length ≤ 256) :
    Calls Try.prog 106 #[.slice (some ⟨sb, 0, none⟩) sl.length c, .func (.func 107) #[] #[]] W fun e W' => e = .returned (.int .i64 (idxI sl)) ∧ Chg (fun _ => False) W W' := by
  have HRow := keepH row
  clear row
  go_enter Try.func106, Try.ntmps106
  go_wp2_with fail
  go_loopw [8] (fun s wr => ∃ i : Nat, i ≤ sl.length ∧ s = .int .i64 (i : Int) ∧ Hid ((∀ j y, j < i → sl[j]? = some y → mayS y = false) ∧ Chg (fun _ => False) W wr)) (fun s _ => sl.length - nOf s)
  case atStart => exact ⟨0, Nat.zero_le _, rfl, fun j y h => absurd h (by omega), Chg.refl _ _⟩
  case round =>
    obtain ⟨i, hi, rfl, HK⟩ := hrel
    by_cases c1 : i < sl.length
    · obtain ⟨⟨b, g⟩, hx⟩ : ∃ x, sl[i]? = some x := ⟨_, List.getElem?_eq_getElem c1⟩
      have q1 : (i : Int) < (sl.length : Int) := by omega
      have hr : wr.heap[sb]? = some (.cells (slC sl).toArray 157 (0, 0)) := (HK.out.2.block sb (lt_of HRow.out) (fun x => x)).trans HRow.out
      have g1 : wr.cell? ⟨sb, i * 2, none⟩ = some (.bool b) := by rw [cell_of hr]; simpa using (slC_get sl i _ hx).1
      have g2 : wr.cell? ⟨sb, i * 2 + 1, none⟩ = some (.int .u64 (g : Int)) := by rw [cell_of hr]; simpa using (slC_get sl i _ hx).2
      have HX : Hid (sl[i]? = some (b, g)) := hx
      clear hr hx
      go_wp2_with fail
      refine (k_may b g _).mono ?_
      rintro e w1 ⟨rfl, C1⟩
      have HC : Hid (Chg (fun _ => False) W w1) := HK.out.2.trans C1 (fun _ _ x => x) (fun _ _ x => x)
      clear C1 g1 g2
      obtain ⟨t, ht⟩ : ∃ t, t = mayS (b, g) := ⟨_, rfl⟩
      have HT := keepH ht
      rw [← ht]
      clear ht
      cases t
      · go_wp2_with fail
        go_roundw
        case rel => exact ⟨i + 1, by omega, by first | rfl | go_num | simp, fun j y hj hy => by
          by_cases e : j = i
          · subst e; rw [HX.out] at hy; injection hy with hy; subst hy; exact HT.out.symm
          · exact HK.out.1 j y (by omega) hy, HC.out⟩
        case measure => simp [nOf]; omega
      · go_wp2_with fail
        (try simp only [Exit.inBlock, Exit.then])
        go_ret
        refine ⟨?_, HC.out⟩
        have e := idxS_some HX.out HT.out.symm HK.out.1
        unfold idxI
        rw [e]
        rfl
    · have q1 : ¬ (i : Int) < (sl.length : Int) := by omega
      go_wp2_with fail
      go_ret
      refine ⟨?_, HK.out.2⟩
      have e := idxS_none (l := sl) (fun j y hy => HK.out.1 j y (by have := (List.getElem?_eq_some_iff.1 hy).1; omega) hy)
      unfold idxI
      rw [e]
      rfl
end Go.Proofs.Ytahgaghokpicgaa
/- A handle taken, a handle let go. -/
namespace Go.Proofs.Ytahgaghokpicgaa
open Go.RowKit
set_option linter.unusedVariables false

def stC (lk : Int) (m sb N hc lf dn : Nat) : Array Value := #[.int .i32 lk, .int .u32 0, .pointer (some ⟨m, 0, none⟩), .slice (some ⟨sb, 0, none⟩) N N, .int .i64 (hc : Int), .int .u64 (lf : Int), .int .i64 (dn : Int)]
/-- A store's cells, the slots' row. -/
structure SlAt (W : World) (s sb m lk hc lf dn : Nat) (sl : List (Bool × Nat)) : Prop where
  st : W.heap[s]? = some (.cells (stC lk m sb sl.length hc lf dn) 92 (0, 0))
  row : W.heap[sb]? = some (.cells (slC sl).toArray 157 (0, 0))
  len : sl.length ≤ 256
theorem SlAt.chg {F : Nat → Prop} {W W' : World} {s sb m lk hc lf dn : Nat} {sl : List (Bool × Nat)} (h : SlAt W s sb m lk hc lf dn sl) (c : Chg F W W') (h1 : ¬ F s) (h2 : ¬ F sb) : SlAt W' s sb m lk hc lf dn sl :=
  ⟨(c.block s (lt_of h.st) h1).trans h.st, (c.block sb (lt_of h.row) h2).trans h.row, h.len⟩
theorem SlAt.ne {W : World} {s sb m lk hc lf dn : Nat} {sl : List (Bool × Nat)} (h : SlAt W s sb m lk hc lf dn sl) : s ≠ sb := by
  rintro rfl
  have := h.st.symm.trans h.row
  simp at this
theorem heap_drewN (w : World) (n : Nat) : (w.drewN n).heap = w.heap := rfl
theorem Chg.drewN {F : Nat → Prop} {a b : World} (h : Chg F a b) (n : Nat) : Chg F a (b.drewN n) := h.trans ⟨rfl, rfl, rfl, Nat.le_refl _, fun _ _ _ => rfl⟩ (fun _ _ x => x) (fun _ _ x => x)
set_option maxRecDepth 100000 in
theorem take_full {W : World} {s sb m lk hc lf dn : Nat} {sl : List (Bool × Nat)} (h : SlAt W s sb m lk hc lf dn sl) (hc64 : hc = sl.length) :
    Calls Try.prog 90 #[.pointer (some ⟨s, 3, none⟩)] W fun e W' => e = .returned (.tuple #[.int .u64 0, .int .i64 32]) ∧ Chg (fun _ => False) W W' := by
  obtain ⟨N, hN⟩ : ∃ N, N = sl.length := ⟨_, rfl⟩
  have c3 : W.cell? ⟨s, 3, none⟩ = some (.slice (some ⟨sb, 0, none⟩) N N) := by rw [cell_of h.st, hN]; rfl
  have c4 : W.cell? ⟨s, 4, none⟩ = some (.int .i64 (N : Int)) := by rw [cell_of h.st, hN, ← hc64]; rfl
  clear h hc64 hN
  go_enter Try.func90, Try.ntmps90
  go_wp2_with fail
  go_quiet (fail)
  go_wp2_with fail
  (try simp only [Exit.inBlock, Exit.then])
  go_ret2
  exact ⟨rfl, (Chg.refl _ _).drewN _⟩
set_option maxRecDepth 100000 in
theorem take_out {W : World} {s sb m lk hc lf dn : Nat} {sl : List (Bool × Nat)} (h : SlAt W s sb m lk hc lf dn sl) (hc64 : hc ≠ sl.length) (hlf : lf = 0) :
    Calls Try.prog 90 #[.pointer (some ⟨s, 3, none⟩)] W fun e W' => e = .returned (.tuple #[.int .u64 0, .int .i64 31]) ∧ Chg (fun _ => False) W W' := by
  obtain ⟨N, hN⟩ : ∃ N, N = sl.length := ⟨_, rfl⟩
  have c3 : W.cell? ⟨s, 3, none⟩ = some (.slice (some ⟨sb, 0, none⟩) N N) := by rw [cell_of h.st, hN]; rfl
  have c4 : W.cell? ⟨s, 4, none⟩ = some (.int .i64 (hc : Int)) := by rw [cell_of h.st]; rfl
  have c5 : W.cell? ⟨s, 5, none⟩ = some (.int .u64 0) := by rw [cell_of h.st, hlf]; rfl
  have q : ((hc : Int) == (N : Int)) = false := by simp; omega
  have q' : ¬ (hc : Int) = (N : Int) := by omega
  have q2 : (hc == N) = false := by simp; omega
  have q3 : ¬ hc = N := by omega
  clear h hc64 hN hlf
  go_enter Try.func90, Try.ntmps90
  go_wp2_with fail
  go_quiet (fail)
  go_wp2_with fail
  (try simp only [Exit.inBlock, Exit.then])
  go_ret2
  exact ⟨rfl, (Chg.refl _ _).drewN _⟩
set_option maxRecDepth 100000 in
theorem take_worn {W : World} {s sb m lk hc lf dn : Nat} {sl : List (Bool × Nat)} (h : SlAt W s sb m lk hc lf dn sl) (hc64 : hc ≠ sl.length) (hlf : lf ≠ 0) (hi : idxS sl = none) :
    Calls Try.prog 90 #[.pointer (some ⟨s, 3, none⟩)] W fun e W' => e = .returned (.tuple #[.int .u64 0, .int .i64 32]) ∧ Chg (fun _ => False) W W' := by
  have HI : ∀ n, Hid (Calls Try.prog 106 #[.slice (some ⟨sb, 0, none⟩) sl.length sl.length, .func (.func 107) #[] #[]] (W.drewN n) fun e W' => e = .returned (.int .i64 (-1)) ∧ Chg (fun _ => False) W W') := fun n => by
    refine (k_idx (c := sl.length) (W := W.drewN n) (by rw [heap_drewN]; exact h.row) h.len).mono ?_
    rintro e w ⟨rfl, c⟩
    exact ⟨by unfold idxI; rw [hi], ((Chg.refl (fun _ => False) W).drewN n).trans c (fun _ _ x => x) (fun _ _ x => x)⟩
  obtain ⟨N, hN⟩ : ∃ N, N = sl.length := ⟨_, rfl⟩
  have c3 : W.cell? ⟨s, 3, none⟩ = some (.slice (some ⟨sb, 0, none⟩) N N) := by rw [cell_of h.st, hN]; rfl
  have c4 : W.cell? ⟨s, 4, none⟩ = some (.int .i64 (hc : Int)) := by rw [cell_of h.st]; rfl
  have c5 : W.cell? ⟨s, 5, none⟩ = some (.int .u64 (lf : Int)) := by rw [cell_of h.st]; rfl
  have q : ((hc : Int) == (N : Int)) = false := by simp; omega
  have q' : ¬ (hc : Int) = (N : Int) := by omega
  have q2 : (hc == N) = false := by simp; omega
  have q3 : ¬ hc = N := by omega
  have p1 : ((lf : Int) == 0) = false := by simp; omega
  have p2 : ¬ (lf : Int) = 0 := by omega
  rw [← hN] at HI
  clear h hc64 hN hlf hi
  go_enter Try.func90, Try.ntmps90
  go_wp2_with fail
  go_quiet (fail)
  go_wp2_with fail
  refine (HI _).out.mono ?_
  rintro e w1 ⟨rfl, C1⟩
  clear HI c3 c4 c5
  go_wp2_with fail
  (try simp only [Exit.inBlock, Exit.then])
  go_ret2
  exact ⟨rfl, C1⟩
/-- What taking leaves. -/
theorem take_row {l : List (Bool × Nat)} {i g : Nat} (h : l[i]? = some (false, g)) : ((slC l).toArray.setIfInBounds (i * 2) (.bool true)) = (slC (l.set i (true, g))).toArray := by
  rw [← (slC_set l i false g h true 0).1]
  simp
end Go.Proofs.Ytahgaghokpicgaa
/- A handle taken; a handle let go. -/
namespace Go.Proofs.Ytahgaghokpicgaa
open Go.RowKit
set_option linter.unusedVariables false

def hdl (i g : Nat) : Nat := i + 1 + g * 65536
set_option maxRecDepth 100000 in
set_option maxHeartbeats 1000000 in
theorem take_ok {W : World} {s sb m lk hc lf dn : Nat} {sl : List (Bool × Nat)} (h : SlAt W s sb m lk hc lf dn sl) (hc64 : hc ≠ sl.length) (hcl : hc ≤ sl.length) (hlf : lf ≠ 0) (hlf64 : lf < 18446744073709551616) {i g : Nat} (hi : idxS sl = some i) (hx : sl[i]? = some (false, g)) (hg : g < 1048575) :
    Calls Try.prog 90 #[.pointer (some ⟨s, 3, none⟩)] W fun e W' => e = .returned (.tuple #[.int .u64 (hdl i g : Int), .int .i64 0]) ∧ SlAt W' s sb m lk (hc + 1) (lf - 1) dn (sl.set i (true, g)) ∧ Chg (fun k => k = s ∨ k = sb) W W' := by
  obtain ⟨hv, hhv⟩ : ∃ hv, hv = hdl i g := ⟨_, rfl⟩
  rw [← hhv]
  have HHV := keepH hhv
  clear hhv
  have hil := (List.getElem?_eq_some_iff.1 hx).1
  have HI : ∀ n, Hid (Calls Try.prog 106 #[.slice (some ⟨sb, 0, none⟩) sl.length sl.length, .func (.func 107) #[] #[]] (W.drewN n) fun e W' => e = .returned (.int .i64 (i : Int)) ∧ Chg (fun _ => False) W W') := fun n => by
    refine (k_idx (c := sl.length) (W := W.drewN n) (by rw [heap_drewN]; exact h.row) h.len).mono ?_
    rintro e w ⟨rfl, c⟩
    exact ⟨by unfold idxI; rw [hi], ((Chg.refl (fun _ => False) W).drewN n).trans c (fun _ _ x => x) (fun _ _ x => x)⟩
  have HS := keepH h
  have HX := keepH hx
  have hlen := h.len
  obtain ⟨N, hN⟩ : ∃ N, N = sl.length := ⟨_, rfl⟩
  have c3 : W.cell? ⟨s, 3, none⟩ = some (.slice (some ⟨sb, 0, none⟩) N N) := by rw [cell_of h.st, hN]; rfl
  have c4 : W.cell? ⟨s, 4, none⟩ = some (.int .i64 (hc : Int)) := by rw [cell_of h.st]; rfl
  have c5 : W.cell? ⟨s, 5, none⟩ = some (.int .u64 (lf : Int)) := by rw [cell_of h.st]; rfl
  have q : ((hc : Int) == (N : Int)) = false := by simp; omega
  have q' : ¬ (hc : Int) = (N : Int) := by omega
  have q2 : (hc == N) = false := by simp; omega
  have q3 : ¬ hc = N := by omega
  have p1 : ((lf : Int) == 0) = false := by simp; omega
  have p2 : ¬ (lf : Int) = 0 := by omega
  have i1 : ¬ (i : Int) < 0 := by omega
  have i2 : (i : Int) < (N : Int) := by omega
  have i3 : i < N := by omega
  have HB : Hid (lf ≠ 0 ∧ lf < 18446744073709551616 ∧ hc ≤ 256 ∧ i < 256 ∧ g < 1048575) := ⟨hlf, hlf64, by omega, by omega, hg⟩
  have b1 : (hc : Int) ≤ 256 := by omega
  rw [← hN] at HI
  have HN := keepH hN
  clear h hc64 hN hlf hi hx hil hlen hcl hg hlf64
  go_enter Try.func90, Try.ntmps90
  go_wp2_with fail
  go_quiet (fail)
  go_wp2_with fail
  refine (HI _).out.mono ?_
  rintro e w1 ⟨rfl, C1⟩
  clear HI c3 c4 c5
  have S1 := HS.out.chg C1 (fun x => x) (fun x => x)
  obtain ⟨w2, hw2⟩ : ∃ w2, w2 = w1.setCell ⟨sb, i * 2, none⟩ (.bool true) := ⟨_, rfl⟩
  have S2 : SlAt w2 s sb m lk hc lf dn (sl.set i (true, g)) := by
    rw [hw2]
    exact ⟨by rw [List.length_set]; exact other_of S1.st S1.ne _, by rw [← take_row HX.out]; exact set_of S1.row _ _, by rw [List.length_set]; exact S1.len⟩
  obtain ⟨w3, hw3⟩ : ∃ w3, w3 = w2.setCell ⟨s, 4, none⟩ (.int .i64 ((hc : Int) + 1)) := ⟨_, rfl⟩
  have S3 : SlAt w3 s sb m lk (hc + 1) lf dn (sl.set i (true, g)) := by
    rw [hw3]
    exact ⟨set_of S2.st 4 _, other_of S2.row (Ne.symm S2.ne) _, S2.len⟩
  obtain ⟨w4, hw4⟩ : ∃ w4, w4 = w3.setCell ⟨s, 5, none⟩ (.int .u64 ((lf : Int) - 1)) := ⟨_, rfl⟩
  have S4 : SlAt w4 s sb m lk (hc + 1) (lf - 1) dn (sl.set i (true, g)) := by
    rw [hw4]
    refine ⟨?_, other_of S3.row (Ne.symm S3.ne) _, S3.len⟩
    have := set_of S3.st 5 (.int .u64 ((lf : Int) - 1))
    have e : ((lf - 1 : Nat) : Int) = (lf : Int) - 1 := by have := HB.out; omega
    unfold stC at this ⊢
    rw [e]
    exact this
  have HE : Hid (SlAt w4 s sb m lk (hc + 1) (lf - 1) dn (sl.set i (true, g)) ∧ Chg (fun k => k = s ∨ k = sb) W w4) := by
    refine ⟨S4, ?_⟩
    rw [hw4, hw3, hw2]
    exact (((C1.mono (fun _ _ x => x.elim)).setCell (fun _ => .inr rfl) _).setCell (fun _ => .inl rfl) _).setCell (fun _ => .inl rfl) _
  have d3 : w1.cell? ⟨s, 3, none⟩ = some (.slice (some ⟨sb, 0, none⟩) N N) := by rw [cell_of S1.st, HN.out]; rfl
  have d4 : w2.cell? ⟨s, 4, none⟩ = some (.int .i64 (hc : Int)) := by rw [cell_of S2.st]; rfl
  have d5 : w3.cell? ⟨s, 5, none⟩ = some (.int .u64 (lf : Int)) := by rw [cell_of S3.st]; rfl
  have e3 : w4.cell? ⟨s, 3, none⟩ = some (.slice (some ⟨sb, 0, none⟩) N N) := by rw [cell_of S4.st, List.length_set, HN.out]; rfl
  have e1 : w4.cell? ⟨sb, i * 2 + 1, none⟩ = some (.int .u64 (g : Int)) := by
    rw [cell_of S4.row]
    have := (slC_get (sl.set i (true, g)) i (true, g) (by rw [List.getElem?_set_self (List.getElem?_eq_some_iff.1 HX.out).1])).2
    simpa using this
  have r0 : w1.cell? ⟨sb, i * 2, none⟩ = some (.bool false) := by
    rw [cell_of S1.row]
    simpa using (slC_get sl i (false, g) HX.out).1
  have f0 := free_of S1.row (i * 2)
  have f4 := free_of S2.st 4
  have f5 := free_of S3.st 5
  have HH := keepH (handle_any (i : Int) (g : Int) w4 (by omega) (by have := HB.out; omega) (by omega) (by have := HB.out; omega))
  have HW : Hid (handleW (i : Int) (g : Int) = (hdl i g : Int) ∧ handleE (i : Int) (g : Int) = 0) := by
    have := HB.out
    refine ⟨?_, ?_⟩
    · unfold handleW hdl
      rw [if_neg (by omega), if_neg (by omega), if_neg (by omega)]
      omega
    · unfold handleE
      rw [if_neg (by omega), if_neg (by omega), if_neg (by omega)]
  rw [HW.out.1, HW.out.2] at HH
  rw [← HHV.out] at HH
  have HW2 := keepH hw2
  have HW3 := keepH hw3
  have HW4 := keepH hw4
  clear S1 S2 S3 S4 C1 HS HX HW HHV hw2 hw3 hw4 q q' q2 q3 p1 p2
  go_upto_region 9 with fail
  rw [← HW2.out]
  have l1 : (1 : Int) ≤ (lf : Int) := by have := HB.out; omega
  have l2 : (lf : Int) < 18446744073709551616 := by have := HB.out; omega
  go_upto_region 10 with fail
  rw [← HW3.out]
  go_upto_region 11 with fail
  rw [← HW4.out]
  go_wp2_with fail
  refine HH.out.mono ?_
  rintro e w5 ⟨rfl, rfl⟩
  go_wp2_with fail
  (try simp only [Exit.inBlock, Exit.then])
  go_ret2
  exact ⟨rfl, HE.out.1, HE.out.2⟩
end Go.Proofs.Ytahgaghokpicgaa
/- A handle let go. -/
namespace Go.Proofs.Ytahgaghokpicgaa
open Go.RowKit
set_option linter.unusedVariables false

theorem go_row {l : List (Bool × Nat)} {i g : Nat} (h : l[i]? = some (true, g)) : ((slC l).toArray.setIfInBounds (i * 2) (.bool false)) = (slC (l.set i (false, g))).toArray := by
  rw [← (slC_set l i true g h false 0).1]
  simp
theorem go_row1 {l : List (Bool × Nat)} {i g : Nat} (h : l[i]? = some (false, g)) : ((slC l).toArray.setIfInBounds (i * 2 + 1) (.int .u64 ((g : Int) + 1))) = (slC (l.set i (false, g + 1))).toArray := by
  rw [← (slC_set l i false g h false (g + 1)).2]
  simp
set_option maxRecDepth 100000 in
set_option maxHeartbeats 1000000 in
theorem let_go {W : World} {s sb m lk hc lf dn : Nat} {sl : List (Bool × Nat)} (h : SlAt W s sb m lk hc lf dn sl) {i g : Nat} (hx : sl[i]? = some (true, g)) (hg : g < 1048575) (hc1 : 1 ≤ hc) (hcl : hc ≤ 256) :
    Calls Try.prog 91 #[.pointer (some ⟨s, 3, none⟩), .int .u64 (hdl i g : Int)] W fun e W' => e = .returned (.tuple #[]) ∧ SlAt W' s sb m lk (hc - 1) lf dn (sl.set i (false, g + 1)) ∧ Chg (fun k => k = s ∨ k = sb) W W' := by
  have hil := (List.getElem?_eq_some_iff.1 hx).1
  have hlen := h.len
  have HU := keepH (unhandle_any (hdl i g : Int) W (by unfold hdl; omega) (by unfold hdl; omega))
  have e0 : unS (hdl i g : Int) = (i : Int) ∧ unE (hdl i g : Int) = 0 := by
    have z1 : (hdl i g : Int) % 65536 = (i : Int) + 1 := by unfold hdl; omega
    have z2 : (hdl i g : Int) / 65536 = (g : Int) := by unfold hdl; omega
    refine ⟨?_, ?_⟩
    · unfold unS
      rw [z1, z2, if_neg (by omega), if_neg (by omega), if_neg (by omega)]
      omega
    · unfold unE
      rw [z1, z2, if_neg (by omega), if_neg (by omega), if_neg (by omega)]
  rw [e0.1, e0.2] at HU
  obtain ⟨ug, hug⟩ : ∃ ug, ug = unG (hdl i g : Int) := ⟨_, rfl⟩
  rw [← hug] at HU
  obtain ⟨hv, hhv⟩ : ∃ hv, hv = hdl i g := ⟨_, rfl⟩
  rw [← hhv] at HU ⊢
  clear hug hhv e0
  obtain ⟨N, hN⟩ : ∃ N, N = sl.length := ⟨_, rfl⟩
  obtain ⟨w2, hw2⟩ : ∃ w2, w2 = W.setCell ⟨sb, i * 2, none⟩ (.bool false) := ⟨_, rfl⟩
  have S2 : SlAt w2 s sb m lk hc lf dn (sl.set i (false, g)) := by
    rw [hw2]
    exact ⟨by rw [List.length_set]; exact other_of h.st h.ne _, by rw [← go_row hx]; exact set_of h.row _ _, by rw [List.length_set]; exact h.len⟩
  have hx2 : (sl.set i (false, g))[i]? = some (false, g) := by rw [List.getElem?_set_self hil]
  obtain ⟨w3, hw3⟩ : ∃ w3, w3 = w2.setCell ⟨sb, i * 2 + 1, none⟩ (.int .u64 ((g : Int) + 1)) := ⟨_, rfl⟩
  have S3 : SlAt w3 s sb m lk hc lf dn (sl.set i (false, g + 1)) := by
    rw [hw3]
    refine ⟨?_, ?_, by rw [List.length_set]; exact h.len⟩
    · have := other_of (k := i * 2 + 1) S2.st S2.ne (.int .u64 ((g : Int) + 1))
      rw [List.length_set] at this ⊢
      exact this
    · have := set_of S2.row (i * 2 + 1) (.int .u64 ((g : Int) + 1))
      rw [go_row1 hx2] at this
      rw [List.set_set] at this
      exact this
  obtain ⟨w4, hw4⟩ : ∃ w4, w4 = w3.setCell ⟨s, 4, none⟩ (.int .i64 ((hc : Int) - 1)) := ⟨_, rfl⟩
  have S4 : SlAt w4 s sb m lk (hc - 1) lf dn (sl.set i (false, g + 1)) := by
    rw [hw4]
    refine ⟨?_, other_of S3.row (Ne.symm S3.ne) _, S3.len⟩
    have := set_of S3.st 4 (.int .i64 ((hc : Int) - 1))
    have e : ((hc - 1 : Nat) : Int) = (hc : Int) - 1 := by omega
    unfold stC at this ⊢
    rw [e]
    exact this
  have HE : Hid (SlAt w4 s sb m lk (hc - 1) lf dn (sl.set i (false, g + 1)) ∧ Chg (fun k => k = s ∨ k = sb) W w4) := by
    refine ⟨S4, ?_⟩
    rw [hw4, hw3, hw2]
    exact (((Chg.refl (fun k => k = s ∨ k = sb) W).setCell (fun _ => .inr rfl) _).setCell (fun _ => .inr rfl) _).setCell (fun _ => .inl rfl) _
  have d3 : W.cell? ⟨s, 3, none⟩ = some (.slice (some ⟨sb, 0, none⟩) N N) := by rw [cell_of h.st, hN]; rfl
  have d0 : W.cell? ⟨sb, i * 2, none⟩ = some (.bool true) := by
    rw [cell_of h.row]
    simpa using (slC_get sl i (true, g) hx).1
  have e3 : w2.cell? ⟨s, 3, none⟩ = some (.slice (some ⟨sb, 0, none⟩) N N) := by rw [cell_of S2.st, List.length_set, hN]; rfl
  have e1 : w2.cell? ⟨sb, i * 2 + 1, none⟩ = some (.int .u64 (g : Int)) := by
    rw [cell_of S2.row]
    simpa using (slC_get _ i (false, g) hx2).2
  have d4 : w3.cell? ⟨s, 4, none⟩ = some (.int .i64 (hc : Int)) := by rw [cell_of S3.st]; rfl
  have f0 := free_of h.row (i * 2)
  have f1 := free_of S2.row (i * 2 + 1)
  have f4 := free_of S3.st 4
  have i1 : ¬ (i : Int) < 0 := by omega
  have i2 : (i : Int) < (N : Int) := by omega
  have i3 : i < N := by omega
  have b1 : (hc : Int) ≤ 256 := by omega
  have b2 : (1 : Int) ≤ (hc : Int) := by omega
  have b3 : (g : Int) < 1048575 := by omega
  have HW2 := keepH hw2
  have HW3 := keepH hw3
  have HW4 := keepH hw4
  clear S2 S3 S4 h hx hx2 hg hc1 hcl hlen hil hw2 hw3 hw4 hN
  go_enter Try.func91, Try.ntmps91
  go_wp2_with fail
  refine HU.out.mono ?_
  rintro e w9 ⟨rfl, rfl⟩
  go_upto_region 3 with fail
  rw [← HW2.out]
  go_upto_region 4 with fail
  rw [← HW3.out]
  go_wp2_with fail
  rw [← HW4.out]
  go_end0
  exact ⟨rfl, HE.out.1, HE.out.2⟩
end Go.Proofs.Ytahgaghokpicgaa
/- A store under a lock is made: its numbers, its slots. -/
namespace Go.Proofs.Ytahgaghokpicgaa
open Go.RowKit
set_option linter.unusedVariables false

def takesP (a b c : Int) : Bool := decide (128 ≤ a ∧ a ≤ 4194304 ∧ 1 ≤ b ∧ b ≤ 256 ∧ 1 ≤ c ∧ c ≤ 1099511627776)
set_option maxRecDepth 100000 in
theorem k_takes (a b c d : Int) (W : World) : Calls Try.prog 37 #[.agg #[.int .i64 a, .int .i64 b, .int .u64 c, .int .i64 d]] W fun e W' => e = .returned (.bool (takesP a b c)) ∧ Chg (fun _ => False) W W' := by
  by_cases h0 : 128 ≤ a
  rotate_left
  · have HT : Hid (takesP a b c = false) := by show _ = _; unfold takesP; simp; omega
    go_enter Try.func37, Try.ntmps37
    go_wp2_with fail
    go_ret
    exact ⟨by rw [HT.out]; rfl, (Chg.refl _ _).alloc _⟩
  by_cases h1 : a ≤ 4194304
  rotate_left
  · have HT : Hid (takesP a b c = false) := by show _ = _; unfold takesP; simp; omega
    go_enter Try.func37, Try.ntmps37
    go_wp2_with fail
    go_ret
    exact ⟨by rw [HT.out]; rfl, (Chg.refl _ _).alloc _⟩
  by_cases h2 : 1 ≤ b
  rotate_left
  · have HT : Hid (takesP a b c = false) := by show _ = _; unfold takesP; simp; omega
    go_enter Try.func37, Try.ntmps37
    go_wp2_with fail
    go_ret
    exact ⟨by rw [HT.out]; rfl, (Chg.refl _ _).alloc _⟩
  by_cases h3 : b ≤ 256
  rotate_left
  · have HT : Hid (takesP a b c = false) := by show _ = _; unfold takesP; simp; omega
    go_enter Try.func37, Try.ntmps37
    go_wp2_with fail
    go_ret
    exact ⟨by rw [HT.out]; rfl, (Chg.refl _ _).alloc _⟩
  by_cases h4 : 1 ≤ c
  rotate_left
  · have HT : Hid (takesP a b c = false) := by show _ = _; unfold takesP; simp; omega
    go_enter Try.func37, Try.ntmps37
    go_wp2_with fail
    go_ret
    exact ⟨by rw [HT.out]; rfl, (Chg.refl _ _).alloc _⟩
  by_cases h5 : c ≤ 1099511627776
  rotate_left
  · have HT : Hid (takesP a b c = false) := by show _ = _; unfold takesP; simp; omega
    go_enter Try.func37, Try.ntmps37
    go_wp2_with fail
    go_ret
    exact ⟨by rw [HT.out]; rfl, (Chg.refl _ _).alloc _⟩
  have HT : Hid (takesP a b c = true) := by show _ = _; unfold takesP; simp; omega
  go_enter Try.func37, Try.ntmps37
  go_wp2_with fail
  go_ret
  exact ⟨by rw [HT.out]; rfl, (Chg.refl _ _).alloc _⟩
theorem infoSlot : (Try.prog.info? 157).map (fun i => (i.zero, i.size, i.bytes)) = some (some (.agg #[.bool false, .int .u64 0]), 2, 16) := by kernel_rfl
theorem made_slots (N : Nat) : madeCells #[.bool false, .int .u64 0] (N * 2) = (slC (List.replicate N (false, 0))).toArray := by
  apply Array.ext_getElem?
  intro j
  by_cases hj : j < N * 2
  · have hr : (List.replicate N (false, 0))[j / 2]? = some (false, 0) := by
      rw [List.getElem?_replicate, if_pos (by omega)]
    have hg := slC_get _ (j / 2) _ hr
    unfold madeCells
    rw [Array.getElem?_map, Array.getElem?_range, if_pos hj]
    rcases Nat.mod_two_eq_zero_or_one j with h | h
    · have e : j = j / 2 * 2 := by omega
      rw [List.getElem?_toArray]
      conv => rhs; rw [e]
      rw [hg.1]
      simp [h]
    · have e : j = j / 2 * 2 + 1 := by omega
      rw [List.getElem?_toArray]
      conv => rhs; rw [e]
      rw [hg.2]
      simp [h]
  · rw [Array.getElem?_eq_none (by rw [size_madeCells]; omega), List.getElem?_toArray, List.getElem?_eq_none (by rw [slC_len, List.length_replicate]; omega)]
theorem make_slots (N : Nat) (hN : N ≤ 256) (u : World) : (Instr.makeSlice 80 (.int .i64 (N : Int)) (.int .i64 (N : Int))).run Try.prog u = .ok (.slice (some ⟨u.heap.size, 0, none⟩) N N) (u.alloc (.cells (slC (List.replicate N (false, 0))).toArray 157)) := by
  obtain ⟨i0, hi, hz0, hz1, hz2⟩ := info_parts infoSlot
  have h := run_make (P := Try.prog) u 80 157 i0 (.agg #[.bool false, .int .u64 0]) Try.underlying80 hi hz0 .i64 .i64 (N : Int) (N : Int) (by omega) (Int.le_refl _) (by rw [hz2]; omega) (by omega)
  rw [hz1] at h
  rw [← made_slots]
  simpa [Value.cells] using h
set_option maxRecDepth 100000 in
set_option maxHeartbeats 1000000 in
theorem k_slots {a d : Int} {N st : Nat} (h2 : N ≤ 256) (h3 : 1 ≤ st) (h4 : st ≤ 1099511627776) (W : World) :
    Calls Try.prog 38 #[.agg #[.int .i64 a, .int .i64 (N : Int), .int .u64 (st : Int), .int .i64 d]] W fun e W' => ∃ sb, e = .returned (.agg #[.slice (some ⟨sb, 0, none⟩) N N, .int .i64 0, .int .u64 ((st - 1 : Nat) : Int)]) ∧ W.heap.size ≤ sb ∧ W'.heap[sb]? = some (.cells (slC (List.replicate N (false, 0))).toArray 157 (0, 0)) ∧ Chg (fun _ => False) W W' := by
  have hmk := make_slots N h2
  have HS : Hid (((st - 1 : Nat) : Int) = (st : Int) - 1) := by show _ = _; omega
  have l1 : (1 : Int) ≤ (st : Int) := by omega
  have l2 : (st : Int) ≤ 1099511627776 := by omega
  clear h2 h3 h4
  rw [HS.out]
  obtain ⟨w0, hw0⟩ : ∃ w0, w0 = (W.alloc (.cells #[.int .i64 a, .int .i64 (N : Int), .int .u64 (st : Int), .int .i64 d] 47)).alloc (.cells #[.slice none 0 0, .int .i64 0, .int .u64 0] 82) := ⟨_, rfl⟩
  have C0 : Chg (fun _ => False) W w0 := by rw [hw0]; exact ((Chg.refl _ _).alloc _).alloc _
  have o0 : w0.heap[W.heap.size]? = some (.cells #[.int .i64 a, .int .i64 (N : Int), .int .u64 (st : Int), .int .i64 d] 47 (0, 0)) := by rw [hw0]; exact alloc_of (heap_alloc_new _ _) _
  have a0 : w0.heap[W.heap.size + 1]? = some (.cells #[.slice none 0 0, .int .i64 0, .int .u64 0] 82 (0, 0)) := by
    have e := heap_alloc_new (W.alloc (.cells #[.int .i64 a, .int .i64 (N : Int), .int .u64 (st : Int), .int .i64 d] 47)) (.cells #[.slice none 0 0, .int .i64 0, .int .u64 0] 82)
    rw [World.size_alloc] at e
    rw [hw0]
    exact e
  obtain ⟨w1, hw1⟩ : ∃ w1, w1 = w0.drew.alloc (.cells (slC (List.replicate N (false, 0))).toArray 157) := ⟨_, rfl⟩
  have C1 : Chg (fun _ => False) w0 w1 := by rw [hw1]; exact (Chg.refl (fun _ => False) w0).drew.alloc _
  have o1 : w1.heap[W.heap.size]? = some (.cells #[.int .i64 a, .int .i64 (N : Int), .int .u64 (st : Int), .int .i64 d] 47 (0, 0)) := (C1.block _ (lt_of o0) (fun x => x)).trans o0
  have a1 : w1.heap[W.heap.size + 1]? = some (.cells #[.slice none 0 0, .int .i64 0, .int .u64 0] 82 (0, 0)) := (C1.block _ (lt_of a0) (fun x => x)).trans a0
  have r1 : w1.heap[w0.heap.size]? = some (.cells (slC (List.replicate N (false, 0))).toArray 157 (0, 0)) := by rw [hw1]; exact heap_alloc_new w0.drew _
  have HS0 : Hid (w0.cell? ⟨W.heap.size, 1, none⟩ = some (.int .i64 (N : Int)) ∧ w0.cell? ⟨W.heap.size, 2, none⟩ = some (.int .u64 (st : Int))) := ⟨cell_of o0 1, cell_of o0 2⟩
  have hS1 : w1.cell? ⟨W.heap.size, 1, none⟩ = some (.int .i64 (N : Int)) ∧ w1.cell? ⟨W.heap.size, 2, none⟩ = some (.int .u64 (st : Int)) := ⟨cell_of o1 1, cell_of o1 2⟩
  have hmk1 : (Instr.makeSlice 80 (.int .i64 (N : Int)) (.int .i64 (N : Int))).run Try.prog w0.drew = .ok (.slice (some ⟨w0.heap.size, 0, none⟩) N N) w1 := by rw [hw1]; exact hmk _
  have hwr : IntKind.u64.wrap ((st : Int) - 1) = (st : Int) - 1 := by rw [IntKind.wrap_u64]; omega
  have HZ : Hid (W.heap.size ≤ w0.heap.size ∧ W.heap.size + 1 < w0.heap.size) := ⟨C0.size, lt_of a0⟩
  obtain ⟨w2, hw2⟩ : ∃ w2, w2 = ((w1.setCell ⟨W.heap.size + 1, 0, none⟩ (.slice (some ⟨w0.heap.size, 0, none⟩) N N)).setCell ⟨W.heap.size + 1, 1, none⟩ (.int .i64 0)).setCell ⟨W.heap.size + 1, 2, none⟩ (.int .u64 ((st : Int) - 1)) := ⟨_, rfl⟩
  have a2 : w2.heap[W.heap.size + 1]? = some (.cells #[.slice (some ⟨w0.heap.size, 0, none⟩) N N, .int .i64 0, .int .u64 ((st : Int) - 1)] 82 (0, 0)) := by
    rw [hw2]
    exact set_of (set_of (set_of a1 0 _) 1 _) 2 _
  have hS2 : w2.cell? ⟨W.heap.size, 1, none⟩ = some (.int .i64 (N : Int)) ∧ w2.cell? ⟨W.heap.size, 2, none⟩ = some (.int .u64 (st : Int)) := by
    have q : w2.heap[W.heap.size]? = some (.cells #[.int .i64 a, .int .i64 (N : Int), .int .u64 (st : Int), .int .i64 d] 47 (0, 0)) := by
      rw [hw2]
      exact other_of (other_of (other_of o1 (by omega) _) (by omega) _) (by omega) _
    exact ⟨cell_of q 1, cell_of q 2⟩
  have HE : Hid (w2.heap[w0.heap.size]? = some (.cells (slC (List.replicate N (false, 0))).toArray 157 (0, 0)) ∧ Chg (fun _ => False) W w2) := by
    refine ⟨?_, ?_⟩
    · rw [hw2]
      have := HZ.out
      exact other_of (other_of (other_of r1 (by omega) _) (by omega) _) (by omega) _
    · have c : Chg (fun k => k = W.heap.size + 1) W w2 := by
        rw [hw2]
        exact ((((C0.trans C1 (H := fun k => k = W.heap.size + 1) (fun _ _ x => x.elim) (fun _ _ x => x.elim)).setCell (fun _ => rfl) _).setCell (fun _ => rfl) _).setCell (fun _ => rfl) _)
      exact c.mono (fun i hi e => by omega)
  have e0 := cell_of a2 0
  have e1 := cell_of a2 1
  have e2 := cell_of a2 2
  have f0 := free_of a1 0
  have f1 := free_of a1 1
  have f2 := free_of a1 2
  have g0 := cell_of a1 0
  have g1 := cell_of a1 1
  have g2 := cell_of a1 2
  have HW0 := keepH hw0
  have HW2 := keepH hw2
  clear hmk o0 a0 o1 a1 r1 hw0 hw1 hw2 C0 C1 a2
  go_enter Try.func38, Try.ntmps38
  go_upto_region 1 with fail
  rw [← HW0.out]
  go_region_held3 (fun w' => w'.cell? ⟨W.heap.size, 1, none⟩ = some (.int .i64 (N : Int)) ∧ w'.cell? ⟨W.heap.size, 2, none⟩ = some (.int .u64 (st : Int))) (first | exact HS0.out | exact hS1 | (rw [← HW2.out]; exact hS2)) (fail)
  rw [← HW2.out]
  go_wp2_with fail
  refine bodyPost_ret (v := .agg #[.slice (some ⟨w0.heap.size, 0, none⟩) N N, .int .i64 0, .int .u64 ((st : Int) - 1)]) (by simp [results, Try.results38, go_sem, e0, e1, e2]) rfl ?_
  exact ⟨w0.heap.size, rfl, HZ.out.1, HE.out.1, HE.out.2⟩
end Go.Proofs.Ytahgaghokpicgaa
