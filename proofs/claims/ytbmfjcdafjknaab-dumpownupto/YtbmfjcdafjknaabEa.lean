/- Bytes of one's own; a number behind them. -/
import Derived.Test.YtbmfjcdafjknaabPrO
import Derived.WalkLawsBesides
namespace Go.Proofs.Ytbmfjcdafjknaab
open Go.RowKit
set_option linter.unusedVariables false

def numB (n : Nat) : List Nat := if h : n < 128 then [n] else (n % 128 + 128) :: numB (n / 128)
termination_by n
decreasing_by omega
theorem numB_small {n : Nat} (h : n < 128) : numB n = [n] := by rw [numB]; simp [h]
theorem numB_great {n : Nat} (h : ¬ n < 128) : numB n = (n % 128 + 128) :: numB (n / 128) := by rw [numB]; simp [h]
theorem numB_ne (n : Nat) : numB n ≠ [] := by
  by_cases h : n < 128
  · rw [numB_small h]; simp
  · rw [numB_great h]; simp
theorem numB_len (m : Nat) : ∀ n, n < 128 ^ (m + 1) → (numB n).length ≤ m + 1 := by
  induction m with
  | zero => intro n h; rw [numB_small (by simpa using h)]; simp
  | succ m ih =>
    intro n h
    by_cases c : n < 128
    · rw [numB_small c]; simp
    · rw [numB_great c]
      have := ih (n / 128) (by rw [Nat.div_lt_iff_lt_mul (by decide)]; rw [Nat.pow_succ] at h; exact h)
      simp; omega
theorem numB_len10 {n : Nat} (h : n < 18446744073709551616) : (numB n).length ≤ 10 := numB_len 9 n (Nat.lt_of_lt_of_le h (by decide))
theorem numB_byte : ∀ (n : Nat), ∀ x ∈ numB n, x < 256 := by
  intro n
  induction n using Nat.strongRecOn with
  | _ n ih =>
    intro x hx
    by_cases c : n < 128
    · rw [numB_small c] at hx; simp at hx; omega
    · rw [numB_great c] at hx
      rcases List.mem_cons.1 hx with rfl | hx
      · omega
      · exact ih (n / 128) (by omega) x hx

def bRow (l : List Nat) : List Value := l.map (fun n : Nat => .int .u8 (n : Int))
theorem bRow_len (l : List Nat) : (bRow l).length = l.length := by simp [bRow]
theorem bRow_app (l r : List Nat) : bRow (l ++ r) = bRow l ++ bRow r := by simp [bRow]
def small8 (l : List Nat) : Prop := ∀ x ∈ l, x < 256
theorem infoU8 : (Try.prog.info? 5).map (fun i => (i.zero, i.size, i.bytes)) = some (some (.int .u8 0), 1, 1) := by kernel_rfl
/-- A row of bytes of the call's own. -/
def BRow (W : World) (B : Nat) (v : Value) (l : List Nat) : Prop := W.ownsRow B 5 1 v l.length (bRow l) ∧ small8 l
theorem BRow.add {W' : World} {B : Nat} {v' : Value} {l : List Nat} (hs : small8 l) {k : Nat} (hk : k < 256) (h : W'.ownsRow B 5 1 v' (l.length + 1) (bRow l ++ [.int .u8 (k : Int)])) : BRow W' B v' (l ++ [k]) := by
  refine ⟨by simpa [bRow] using h, fun x hx => ?_⟩
  rcases List.mem_append.1 hx with h | h
  · exact hs x h
  · simp at h; subst h; exact hk
theorem BRow.lt {W : World} {B : Nat} {v : Value} {l : List Nat} (h : BRow W B v l) : ∀ b, v.ownBlock = some b → B ≤ b ∧ b < W.heap.size := h.1.lt
theorem grown_chgE {F : Nat → Prop} {W W' : World} {row : Option Nat} (h : W.grownBy W' row) (hr : ∀ k, row = some k → F k) : Chg F W W' := (Chg.refl F W).grown h (fun k e _ => hr k e)

theorem own_new {v' : Value} {o o' : Option Nat} {k n m : Nat} (e : v'.ownBlock = some k) (h : v'.ownBlock = o ∨ v'.ownBlock = some n) (ho : ∀ k, o = some k → o' = some k ∨ m ≤ k) (hn : m ≤ n) : o' = some k ∨ m ≤ k := by
  rcases h with z | z
  · exact ho k (z.symm.trans e)
  · rw [z] at e
    injection e with e
    subst e
    exact .inr hn
theorem cells_newE (w : World) (g : Nat) (hg : w.heap.size = g) (cs : Array Value) (t : TypeId) : ∀ j u, cs.toList[j]? = some u → (w.alloc (.cells cs t)).cell? ((⟨g, 0, none⟩ : Addr).add j) = some u := by
  subst hg
  intro j u h
  have e : (⟨w.heap.size, 0, none⟩ : Addr).add j = ⟨w.heap.size, j, none⟩ := by unfold Addr.add; split <;> simp_all
  rw [e]
  have hh : (w.alloc (.cells cs t)).heap[w.heap.size]? = some (.cells cs t (0, 0)) := heap_alloc_new _ _
  rw [cell_of hh j]
  simpa using h
theorem or_128 (m : Nat) : bits BinOp.or IntKind.u8 ((m : Int) % 128) 128 = ((m % 128 + 128 : Nat) : Int) := by
  have h : ∀ r : Fin 128, bits BinOp.or IntKind.u8 ((r.1 : Nat) : Int) 128 = ((r.1 + 128 : Nat) : Int) := by decide
  have := h ⟨m % 128, Nat.mod_lt _ (by decide)⟩
  simpa using this

set_option maxRecDepth 100000 in
set_option maxHeartbeats 4000000 in
theorem app_num {W : World} {B : Nat} {v : Value} {l : List Nat} (H : BRow W B v l) (n : Nat) (hn : n < 18446744073709551616) (hl : l.length ≤ 1000000000) (hB : B ≤ W.heap.size) :
    Calls Try.prog 15 #[v, .int .u64 (n : Int)] W fun e W' => (∃ v', e = .returned v' ∧ BRow W' B v' (l ++ numB n) ∧ ∀ k, v'.ownBlock = some k → v.ownBlock = some k ∨ W.heap.size ≤ k) ∧ Chg (fun k => v.ownBlock = some k) W W' := by
  obtain ⟨i0, hi, hz0, hz1, hz2⟩ := info_parts infoU8
  have HN : Hid ((numB n).length ≤ 10) := numB_len10 hn
  have HH := keepH H
  clear H
  go_enter Try.func15, Try.ntmps15
  go_wp2_with fail
  go_loopw [0, 1] (fun s q wr => ∃ (l' : List Nat) (m : Nat), m < 18446744073709551616 ∧ q = .int .u64 (m : Int) ∧ Hid (l' ++ numB m = l ++ numB n ∧ BRow wr B s l' ∧ Chg (fun k => v.ownBlock = some k) W wr ∧ ∀ k, s.ownBlock = some k → v.ownBlock = some k ∨ W.heap.size ≤ k)) (fun _ q _ => (intOf q).toNat)
  case atStart => exact ⟨l, n, hn, rfl, keepH ⟨rfl, HH.out, Chg.refl _ _, fun k e => .inl e⟩⟩
  case round =>
    obtain ⟨l', m, hm, rfl, HX⟩ := hrel
    have HB : Hid (l'.length ≤ 1000000010) := by
      have q := congrArg List.length HX.out.1
      have := HN.out
      simp at q
      exact (by omega : l'.length ≤ 1000000010)
    by_cases c : m < 128
    · have t1 : ¬ (128 : Int) ≤ (m : Int) := by omega
      go_wp2_with (first | (at_builtin; go_loud (refine wpList_append_own_at _ rfl _ _ 23 rfl B 5 i0 (.int .u8 0) 1 1 Try.underlying23 hi hz0 hz1 hz2 rfl (by decide) _ _ _ rfl (HX.out.2.1.1.kept (World.grownBy_alloc _ _ none) (by cases Value.ownBlock _ <;> simp)) ⟨_, 0, none⟩ 1 1 [.int .u8 (m : Int)] rfl rfl (cells_newE _ _ rfl _ _) (by intro u hu; simp at hu; subst hu; rfl) (by unfold maxLen; have := HB.out; omega) (by have := HB.out; omega) (Nat.le_trans (Nat.le_trans hB HX.out.2.2.1.size) (by simp)) ?_); intro v' w3 r1 r2 r3 r4; have R1 := keepH r1; have R2 := keepH r2; have R4 := keepH r4; clear r1 r2 r3 r4))
      go_ret
      refine ⟨⟨_, rfl, ?_, ?_⟩, ?_⟩
      · rw [← HX.out.1, numB_small c]
        exact BRow.add HX.out.2.1.2 (by omega) R1.out
      · exact fun k e => own_new (v' := v') e R4.out (fun k e => HX.out.2.2.2 k e) (by have := HX.out.2.2.1.size; simp; omega)
      · exact (HX.out.2.2.1.alloc _).trans (grown_chgE (F := fun k => Value.ownBlock _ = some k) R2.out (fun k e => e)) (fun _ _ x => x) (fun k hk e => (HX.out.2.2.2 k e).resolve_right (by omega))
    · have t1 : (128 : Int) ≤ (m : Int) := by omega
      have HO := keepH (or_128 m)
      go_wp2_with (first | (at_builtin; go_loud (refine wpList_append_own_at _ rfl _ _ 23 rfl B 5 i0 (.int .u8 0) 1 1 Try.underlying23 hi hz0 hz1 hz2 rfl (by decide) _ _ _ rfl (HX.out.2.1.1.kept (World.grownBy_alloc _ _ none) (by cases Value.ownBlock _ <;> simp)) ⟨_, 0, none⟩ 1 1 [.int .u8 (bits BinOp.or IntKind.u8 ((m : Int) % 128) 128)] rfl rfl (cells_newE _ _ rfl _ _) (by intro u hu; simp at hu; subst hu; rfl) (by unfold maxLen; have := HB.out; omega) (by have := HB.out; omega) (Nat.le_trans (Nat.le_trans hB HX.out.2.2.1.size) (by simp)) ?_); intro v' w3 r1 r2 r3 r4; rw [HO.out] at r1; have R1 := keepH r1; have R2 := keepH r2; have R4 := keepH r4; clear r1 r2 r3 r4))
      go_roundw
      case rel =>
        refine ⟨l' ++ [m % 128 + 128], m / 128, by omega, by first | rfl | go_num, keepH ⟨?_, ?_, ?_, ?_⟩⟩
        · rw [← HX.out.1, numB_great c]; simp
        · exact BRow.add HX.out.2.1.2 (by omega) R1.out
        · exact (HX.out.2.2.1.alloc _).trans (grown_chgE (F := fun k => Value.ownBlock _ = some k) R2.out (fun k e => e)) (fun _ _ x => x) (fun k hk e => (HX.out.2.2.2 k e).resolve_right (by omega))
        · exact fun k e => own_new (v' := v') e R4.out (fun k e => HX.out.2.2.2 k e) (by have := HX.out.2.2.1.size; simp; omega)
      case measure => simp [intOf]; omega
end Go.Proofs.Ytbmfjcdafjknaab
