/- A handle taken, a handle let go. -/
import Derived.Test.YtgaincicbgojjaaK2
namespace Go.Proofs.Ytgaincicbgojjaa
open Go.RowKit
set_option linter.unusedVariables false

def stC (lk : Int) (m sb N hc lf dn : Nat) : Array Value := #[.int .i32 lk, .int .u32 0, .pointer (some ⟨m, 0, none⟩), .slice (some ⟨sb, 0, none⟩) N N, .int .i64 (hc : Int), .int .u64 (lf : Int), .int .i64 (dn : Int)]
/-- A store's cells, the slots' row. -/
structure SlAt (W : World) (s sb m lk hc lf dn : Nat) (sl : List (Bool × Nat)) : Prop where
  st : W.heap[s]? = some (.cells (stC lk m sb sl.length hc lf dn) 69 (0, 0))
  row : W.heap[sb]? = some (.cells (slC sl).toArray 136 (0, 0))
  len : sl.length ≤ 256
theorem SlAt.chg {F : Nat → Prop} {W W' : World} {s sb m lk hc lf dn : Nat} {sl : List (Bool × Nat)} (h : SlAt W s sb m lk hc lf dn sl) (c : Chg F W W') (h1 : ¬ F s) (h2 : ¬ F sb) : SlAt W' s sb m lk hc lf dn sl :=
  ⟨(c.block s (lt_of h.st) h1).trans h.st, (c.block sb (lt_of h.row) h2).trans h.row, h.len⟩
theorem SlAt.ne {W : World} {s sb m lk hc lf dn : Nat} {sl : List (Bool × Nat)} (h : SlAt W s sb m lk hc lf dn sl) : s ≠ sb := by
  rintro rfl
  have := h.st.symm.trans h.row
  simp at this
theorem heap_drewN (w : World) (n : Nat) : (w.drewN n).heap = w.heap := rfl
theorem Chg.drewN {F : Nat → Prop} {a b : World} (h : Chg F a b) (n : Nat) : Chg F a (b.drewN n) := h.trans ⟨rfl, rfl, rfl, Nat.le_refl _, fun _ _ _ => rfl⟩ (fun _ _ x => x) (fun _ _ x => x)
set_option maxRecDepth 100000 in
theorem take_full {W : World} {s sb m lk hc lf dn : Nat} {sl : List (Bool × Nat)} (h : SlAt W s sb m lk hc lf dn sl) (hc64 : hc = sl.length) :
    Calls Try.prog 63 #[.pointer (some ⟨s, 3, none⟩)] W fun e W' => e = .returned (.tuple #[.int .u64 0, .int .i64 32]) ∧ Chg (fun _ => False) W W' := by
  obtain ⟨N, hN⟩ : ∃ N, N = sl.length := ⟨_, rfl⟩
  have c3 : W.cell? ⟨s, 3, none⟩ = some (.slice (some ⟨sb, 0, none⟩) N N) := by rw [cell_of h.st, hN]; rfl
  have c4 : W.cell? ⟨s, 4, none⟩ = some (.int .i64 (N : Int)) := by rw [cell_of h.st, hN, ← hc64]; rfl
  clear h hc64 hN
  go_enter Try.func63, Try.ntmps63
  go_wp2_with fail
  go_quiet (fail)
  go_wp2_with fail
  (try simp only [Exit.inBlock, Exit.then])
  go_ret2
  exact ⟨rfl, (Chg.refl _ _).drewN _⟩
set_option maxRecDepth 100000 in
theorem take_out {W : World} {s sb m lk hc lf dn : Nat} {sl : List (Bool × Nat)} (h : SlAt W s sb m lk hc lf dn sl) (hc64 : hc ≠ sl.length) (hlf : lf = 0) :
    Calls Try.prog 63 #[.pointer (some ⟨s, 3, none⟩)] W fun e W' => e = .returned (.tuple #[.int .u64 0, .int .i64 31]) ∧ Chg (fun _ => False) W W' := by
  obtain ⟨N, hN⟩ : ∃ N, N = sl.length := ⟨_, rfl⟩
  have c3 : W.cell? ⟨s, 3, none⟩ = some (.slice (some ⟨sb, 0, none⟩) N N) := by rw [cell_of h.st, hN]; rfl
  have c4 : W.cell? ⟨s, 4, none⟩ = some (.int .i64 (hc : Int)) := by rw [cell_of h.st]; rfl
  have c5 : W.cell? ⟨s, 5, none⟩ = some (.int .u64 0) := by rw [cell_of h.st, hlf]; rfl
  have q : ((hc : Int) == (N : Int)) = false := by simp; omega
  have q' : ¬ (hc : Int) = (N : Int) := by omega
  have q2 : (hc == N) = false := by simp; omega
  have q3 : ¬ hc = N := by omega
  clear h hc64 hN hlf
  go_enter Try.func63, Try.ntmps63
  go_wp2_with fail
  go_quiet (fail)
  go_wp2_with fail
  (try simp only [Exit.inBlock, Exit.then])
  go_ret2
  exact ⟨rfl, (Chg.refl _ _).drewN _⟩
set_option maxRecDepth 100000 in
theorem take_worn {W : World} {s sb m lk hc lf dn : Nat} {sl : List (Bool × Nat)} (h : SlAt W s sb m lk hc lf dn sl) (hc64 : hc ≠ sl.length) (hlf : lf ≠ 0) (hi : idxS sl = none) :
    Calls Try.prog 63 #[.pointer (some ⟨s, 3, none⟩)] W fun e W' => e = .returned (.tuple #[.int .u64 0, .int .i64 32]) ∧ Chg (fun _ => False) W W' := by
  have HI : ∀ n, Hid (Calls Try.prog 81 #[.slice (some ⟨sb, 0, none⟩) sl.length sl.length, .func (.func 82) #[] #[]] (W.drewN n) fun e W' => e = .returned (.int .i64 (-1)) ∧ Chg (fun _ => False) W W') := fun n => by
    refine (k_idx (c := sl.length) (W := W.drewN n) (by rw [heap_drewN]; exact h.row) h.len).mono ?_
    rintro e w ⟨rfl, c⟩
    exact ⟨by unfold idxI; rw [hi], ((Chg.refl (fun _ => False) W).drewN n).trans c (fun _ _ x => x) (fun _ _ x => x)⟩
  obtain ⟨N, hN⟩ : ∃ N, N = sl.length := ⟨_, rfl⟩
  have c3 : W.cell? ⟨s, 3, none⟩ = some (.slice (some ⟨sb, 0, none⟩) N N) := by rw [cell_of h.st, hN]; rfl
  have c4 : W.cell? ⟨s, 4, none⟩ = some (.int .i64 (hc : Int)) := by rw [cell_of h.st]; rfl
  have c5 : W.cell? ⟨s, 5, none⟩ = some (.int .u64 (lf : Int)) := by rw [cell_of h.st]; rfl
  have q : ((hc : Int) == (N : Int)) = false := by simp; omega
  have q' : ¬ (hc : Int) = (N : Int) := by omega
  have q2 : (hc == N) = false := by simp; omega
  have q3 : ¬ hc = N := by omega
  have p1 : ((lf : Int) == 0) = false := by simp; omega
  have p2 : ¬ (lf : Int) = 0 := by omega
  rw [← hN] at HI
  clear h hc64 hN hlf hi
  go_enter Try.func63, Try.ntmps63
  go_wp2_with fail
  go_quiet (fail)
  go_wp2_with fail
  refine (HI _).out.mono ?_
  rintro e w1 ⟨rfl, C1⟩
  clear HI c3 c4 c5
  go_wp2_with fail
  (try simp only [Exit.inBlock, Exit.then])
  go_ret2
  exact ⟨rfl, C1⟩
/-- What taking leaves. -/
theorem take_row {l : List (Bool × Nat)} {i g : Nat} (h : l[i]? = some (false, g)) : ((slC l).toArray.setIfInBounds (i * 2) (.bool true)) = (slC (l.set i (true, g))).toArray := by
  rw [← (slC_set l i false g h true 0).1]
  simp
end Go.Proofs.Ytgaincicbgojjaa
