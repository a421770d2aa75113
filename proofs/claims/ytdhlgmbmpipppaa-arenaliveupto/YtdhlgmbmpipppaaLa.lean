/- Atomics of one goroutine, and a live memory's bank: what lies there. -/
import Derived.Test.YtdhlgmbmpipppaaOps
import Derived.Laws.LoneSync
import Derived.Laws.Bits64b
import Derived.Deep.CutRange
namespace Go.Proofs.Ytdhlgmbmpipppaa
open Go.RowKit Go.Shelf
set_option linter.unusedVariables false

def updV {α : Type} (f : Nat → α) (i : Nat) (v : α) : Nat → α := fun j => if j = i then v else f j
theorem updV_same {α : Type} (f : Nat → α) (i : Nat) (v : α) : updV f i v i = v := if_pos rfl
theorem updV_other {α : Type} (f : Nat → α) (i : Nat) (v : α) (j : Nat) (h : j ≠ i) : updV f i v j = f j := if_neg h
/- Rows of anything. -/
def rowV (n : Nat) (f : Nat → Value) : List Value := (List.range n).map f
def IsR (W : World) (g n : Nat) (f : Nat → Value) (t : TypeId) : Prop := W.heap[g]? = some (.cells (rowV n f).toArray t (0, 0))
theorem IsR.cell {W : World} {g n : Nat} {f : Nat → Value} {t : TypeId} (h : IsR W g n f t) (i : Nat) (hi : i < n) : W.cell? ⟨g, i, none⟩ = some (f i) := by
  rw [cell_of h i]; simp [rowV, hi]
theorem IsR.set {W : World} {g n : Nat} {f : Nat → Value} {t : TypeId} (h : IsR W g n f t) (i : Nat) (hi : i < n) (v : Value) : IsR (W.setCell ⟨g, i, none⟩ v) g n (updV f i v) t := by
  unfold IsR
  rw [set_of h i v]
  have e : (rowV n f).toArray.setIfInBounds i v = (rowV n (updV f i v)).toArray := by
    apply Array.ext'
    simp only [List.setIfInBounds_toArray]
    apply List.ext_getElem?
    intro j
    rw [List.getElem?_set]
    by_cases e : i = j
    · subst e
      simp [rowV, hi, updV_same]
    · rw [if_neg e]
      simp only [rowV, List.getElem?_map]
      by_cases hj : j < n
      · rw [List.getElem?_range hj]
        simp [updV_other _ _ _ _ (fun z => e z.symm)]
      · rw [List.getElem?_eq_none (by simpa using hj)]; rfl
  rw [e]
theorem IsR.congr {W : World} {g n : Nat} {f f' : Nat → Value} {t : TypeId} (h : IsR W g n f t) (e : ∀ i, i < n → f i = f' i) : IsR W g n f' t := by
  unfold IsR at h ⊢
  rw [h]
  have : rowV n f = rowV n f' := List.map_congr_left (fun i hi => e i (List.mem_range.1 hi))
  rw [this]
set_option maxRecDepth 100000 in
theorem a_load {W : World} {g i : Nat} {x : Int} (hc : W.cell? ⟨g, i, none⟩ = some (.int .u64 x)) : Calls Try.prog 55 #[.pointer (some ⟨g, i, none⟩)] W fun e w => e = .returned (.int .u64 x) ∧ w = W := by
  have hl := run_call_load (P := Try.prog) (f := 59) Try.func59 (by kernel_rfl) (by kernel_rfl) (by kernel_rfl) .u64 (by kernel_rfl) hc
  go_enter Try.func55, Try.ntmps55
  go_wp2_with fail
  go_ret
  exact ⟨by simp, rfl⟩
set_option maxRecDepth 100000 in
theorem a_store {W : World} {g i : Nat} {u : Value} (y : Int) (hc : W.cell? ⟨g, i, none⟩ = some u) (hz : W.frozen? ⟨g, i, none⟩ = false) : Calls Try.prog 22 #[.pointer (some ⟨g, i, none⟩), .int .u64 y] W fun e w => e = .returned (.tuple #[]) ∧ w = W.setCell ⟨g, i, none⟩ (.int .u64 y) := by
  have hl := run_call_store (P := Try.prog) (f := 24) Try.func24 (by kernel_rfl) (by kernel_rfl) (by kernel_rfl) (by kernel_rfl) (k := .u64) (y := y) hc hz
  go_enter Try.func22, Try.ntmps22
  go_wp2_with fail
  go_end0
  exact ⟨rfl, rfl⟩
set_option maxRecDepth 100000 in
theorem a_cas {W : World} {g i : Nat} {x : Int} (o y : Int) (hc : W.cell? ⟨g, i, none⟩ = some (.int .u64 x)) (hz : W.frozen? ⟨g, i, none⟩ = false) : Calls Try.prog 54 #[.pointer (some ⟨g, i, none⟩), .int .u64 o, .int .u64 y] W fun e w => e = .returned (.bool (decide (x = o))) ∧ w = if x = o then W.setCell ⟨g, i, none⟩ (.int .u64 y) else W := by
  by_cases e : x = o
  · subst e
    have hl := run_call_cas_hit (P := Try.prog) (f := 58) Try.func58 (by kernel_rfl) (by kernel_rfl) (by kernel_rfl) .u64 (by kernel_rfl) (y := y) hc hz
    go_enter Try.func54, Try.ntmps54
    go_wp2_with fail
    go_ret
    exact ⟨by simp, by simp⟩
  · have hl := run_call_cas_miss (P := Try.prog) (f := 58) Try.func58 (by kernel_rfl) (by kernel_rfl) (by kernel_rfl) .u64 (by kernel_rfl) (y := y) hc hz e
    have e1 : decide (x = o) = false := decide_eq_false e
    rw [e1, if_neg e]
    clear e1
    go_enter Try.func54, Try.ntmps54
    go_wp2_with fail
    go_ret
    exact ⟨by simp, rfl⟩
set_option maxRecDepth 100000 in
theorem a_add {W : World} {g i : Nat} {x : Int} (y : Int) (hc : W.cell? ⟨g, i, none⟩ = some (.int .u64 x)) (hz : W.frozen? ⟨g, i, none⟩ = false) : Calls Try.prog 52 #[.pointer (some ⟨g, i, none⟩), .int .u64 y] W fun e w => e = .returned (.int .u64 (IntKind.u64.wrap (x + y))) ∧ w = W.setCell ⟨g, i, none⟩ (.int .u64 (IntKind.u64.wrap (x + y))) := by
  have hl := run_call_add (P := Try.prog) (f := 57) Try.func57 (by kernel_rfl) (by kernel_rfl) (by kernel_rfl) .u64 (by kernel_rfl) (y := y) (s := IntKind.u64.wrap (x + y)) hc hz (by simp [go_sem])
  obtain ⟨s, hs⟩ : ∃ s, s = IntKind.u64.wrap (x + y) := ⟨_, rfl⟩
  rw [← hs] at hl ⊢
  clear hs
  go_enter Try.func52, Try.ntmps52
  go_wp2_with fail
  go_ret
  exact ⟨by simp, rfl⟩
theorem run_call_or {P : Program} {f : FuncId} {fn : Func} (hf : P.funcs[f]? = some fn) (hname : (fn.name == "runtime.NumGoroutine") = false) (hb : fn.body.isNone = true) (hn : Extern.findNext fn = none) (k : IntKind)
    (he : Extern.find fn = some (Extern.Atomic.update (Op.intBits .or) k false)) {a : Addr} {x y s : Int} {w : World} (hc : w.cell? a = some (.int k x)) (hz : w.frozen? a = false)
    (hs : (Op.intBits .or k x y).run P w = .ok (.int k s) w) :
    (callFunc f #[.pointer (some a), .int k y]).run P w = .ok (.value (.int k x)) (w.setCell a (.int k s)) := by
  rw [run_callFunc_extern hf hname hb hn he]
  change (Sem.run P (do
    let a' ← asAddr (.pointer (some a))
    let old ← Extern.Atomic.read (.int k) a'
    let new ← Op.intBits .or k (← asInt old) (← asInt (.int k y))
    store a' new .atomic
    pure (if false = true then new else old)) w).andThen _ = _
  simp [Extern.Atomic.read, asAddr, asInt, asIntOf, hc, hz, hs, run_store P w a (.int k s) .atomic rfl, Result.andThen]
set_option maxRecDepth 100000 in
theorem a_or {W : World} {g i : Nat} {x y s : Nat} (hs : s = x ||| y) (hx : x < 18446744073709551616) (hy : y < 18446744073709551616) (hc : W.cell? ⟨g, i, none⟩ = some (.int .u64 (x : Int))) (hz : W.frozen? ⟨g, i, none⟩ = false) : Calls Try.prog 25 #[.pointer (some ⟨g, i, none⟩), .int .u64 (y : Int)] W fun e w => e = .returned (.int .u64 (x : Int)) ∧ w = W.setCell ⟨g, i, none⟩ (.int .u64 (s : Int)) := by
  have hs2 : (Op.intBits .or .u64 (x : Int) (y : Int)).run Try.prog W = .ok (.int .u64 (s : Int)) W := by
    have e := bits_or_u64_nat x y hx hy
    rw [hs, ← e]
    simp [go_sem]
  have hl := run_call_or (P := Try.prog) (f := 26) Try.func26 (by kernel_rfl) (by kernel_rfl) (by kernel_rfl) .u64 (by kernel_rfl) (y := (y : Int)) (s := (s : Int)) hc hz hs2
  clear hs2 hs
  go_enter Try.func25, Try.ntmps25
  go_wp2_with fail
  go_ret
  exact ⟨by simp, rfl⟩
set_option maxRecDepth 100000 in
theorem t_filled {W : World} {lb gc gf nn addr x : Nat} (j r : Nat) (hj : addr / 64 = j) (hr : addr % 64 = r) (h4 : addr < 256) (hx : x < 18446744073709551616) (hb : W.heap[lb]? = some (.cells #[.slice (some ⟨gc, 0, none⟩) 256 256, .slice (some ⟨gf, 0, none⟩) 4 4, .int .u64 (nn : Int)] 65 (0, 0))) (hc : W.cell? ⟨gf, j, none⟩ = some (.int .u64 (x : Int))) : Calls Try.prog 56 #[.pointer (some ⟨lb, 0, none⟩), .int .u64 (addr : Int)] W fun e w => e = .returned (.bool (x.testBit r)) ∧ w = W := by
  have c1 : W.cell? ⟨lb, 1, none⟩ = some (.slice (some ⟨gf, 0, none⟩) 4 4) := cell_of hb 1
  have e1 : (addr : Int).tdiv 64 = (j : Int) := by rw [Int.tdiv_eq_ediv_of_nonneg (by omega)]; omega
  have e2 : (addr : Int) / 64 = (j : Int) := by omega
  have e3 : (addr : Int).tmod 64 = (r : Int) := by rw [Int.tmod_eq_emod_of_nonneg (by omega)]; omega
  have e4 : (addr : Int) % 64 = (r : Int) := by omega
  have t4 : (j : Int) < 4 := by omega
  have hbit : (bits BinOp.and IntKind.u64 ((x : Int) / 2 ^ r) 1 == 1) = x.testBit r := by
    have e := bits_and_u64_nat (x / 2 ^ r) 1 (Nat.lt_of_le_of_lt (Nat.div_le_self _ _) hx) (by omega)
    have e5 : (x : Int) / 2 ^ r = ((x / 2 ^ r : Nat) : Int) := by simp
    rw [e5]
    have e6 : bits BinOp.and IntKind.u64 ((x / 2 ^ r : Nat) : Int) 1 = ((x / 2 ^ r &&& 1 : Nat) : Int) := e
    rw [e6, Nat.and_one_is_mod, Nat.testBit_eq_decide_div_mod_eq]
    by_cases z : x / 2 ^ r % 2 = 1
    · rw [z]; simp
    · have z0 : x / 2 ^ r % 2 = 0 := by omega
      rw [z0]; simp
  have HBit := keepH hbit
  clear hb hbit
  go_enter Try.func56, Try.ntmps56
  go_wp2_with fail
  refine (a_load hc).mono ?_
  rintro e w ⟨rfl, rfl⟩
  go_wp2_with fail
  go_ret
  rw [← HBit.out]
  exact ⟨by simp, rfl⟩
/-- The words of marks. -/
def FW (n j : Nat) : Nat := 2 ^ (min 64 (n - 64 * j)) - 1
theorem pow_le {a : Nat} (h : a ≤ 64) : 2 ^ a ≤ 18446744073709551616 := Nat.le_trans (Nat.pow_le_pow_right (by omega) h) (by decide)
theorem pow_pos' (a : Nat) : 1 ≤ 2 ^ a := Nat.one_le_two_pow
theorem fw_lt (n j : Nat) : FW n j < 18446744073709551616 := by
  unfold FW
  have := pow_le (a := min 64 (n - 64 * j)) (by omega)
  have := pow_pos' (min 64 (n - 64 * j))
  omega
theorem bits_eq (n r : Nat) : (2 ^ n - 1) * 2 ^ r + 2 ^ r = 2 ^ (n + r) := by
  rw [Nat.pow_add, Nat.sub_mul, Nat.one_mul]
  have := Nat.le_mul_of_pos_left (2 ^ r) (pow_pos' n)
  omega
theorem bits_lt {n r : Nat} (h : n + r ≤ 64) : (2 ^ n - 1) * 2 ^ r < 18446744073709551616 := by
  have := bits_eq n r
  have := pow_le h
  have := pow_pos' r
  omega
theorem mk_bits (n r : Nat) (h1 : 1 ≤ n) (h : n + r ≤ 64) : IntKind.u64.wrap (IntKind.u64.wrap (IntKind.u64.wrap (2 ^ n) - 1) * 2 ^ r) = (((2 ^ n - 1) * 2 ^ r : Nat) : Int) := by
  have b := bits_lt h
  have p1 := pow_pos' n
  have c : (2 : Int) ^ n = ((2 ^ n : Nat) : Int) := by simp
  have c2 : (2 : Int) ^ r = ((2 ^ r : Nat) : Int) := by simp
  have e1 : IntKind.u64.wrap (IntKind.u64.wrap (2 ^ n) - 1) = ((2 ^ n - 1 : Nat) : Int) := by
    rw [c]
    by_cases z : n = 64
    · subst z; decide
    · have : 2 ^ n ≤ 2 ^ 63 := Nat.pow_le_pow_right (by omega) (by omega)
      have q : (2 : Nat) ^ 63 = 9223372036854775808 := by decide
      rw [q] at this
      rw [IntKind.wrap_u64, IntKind.wrap_u64]
      omega
  rw [e1, c2, show ((2 ^ n - 1 : Nat) : Int) * ((2 ^ r : Nat) : Int) = (((2 ^ n - 1) * 2 ^ r : Nat) : Int) from (Int.natCast_mul _ _).symm, IntKind.wrap_u64]
  omega
theorem fw_or {f j r n e : Nat} (hr : f = 64 * j + r) (hn : e = f + n) (h : n + r ≤ 64) : FW e j = FW f j ||| (2 ^ n - 1) * 2 ^ r := by
  have b := bits_eq n r
  unfold FW
  have p1 := pow_pos' r
  by_cases z : r = 64
  · have n0 : n = 0 := by omega
    subst n0
    have : min 64 (e - 64 * j) = min 64 (f - 64 * j) := by omega
    rw [this]; simp
  · rw [show min 64 (f - 64 * j) = r by omega, show min 64 (e - 64 * j) = n + r by omega, Nat.or_comm, Nat.mul_comm (2 ^ n - 1) (2 ^ r), ← Nat.two_pow_add_eq_or_of_lt (show 2 ^ r - 1 < 2 ^ r by omega) (2 ^ n - 1), Nat.mul_comm (2 ^ r) (2 ^ n - 1)]
    omega
theorem fw_other {f j r n e i : Nat} (hr : f = 64 * j + r) (hn : e = f + n) (h : n + r ≤ 64) (hi : i ≠ j) : FW e i = FW f i := by
  unfold FW
  by_cases z : i < j
  · rw [show min 64 (e - 64 * i) = min 64 (f - 64 * i) by omega]
  · rw [show min 64 (e - 64 * i) = min 64 (f - 64 * i) by omega]
theorem fw_bit {n a : Nat} : (FW n (a / 64)).testBit (a % 64) = decide (a < n) := by
  unfold FW
  rw [Nat.testBit_two_pow_sub_one]
  by_cases z : a < n
  · rw [decide_eq_true z, decide_eq_true (by omega)]
  · rw [decide_eq_false z, decide_eq_false (by omega)]
set_option maxRecDepth 100000 in
set_option maxHeartbeats 2000000 in
theorem t_mark (lb gc gf nn a0 b0 : Nat) (W : World) (hb : W.heap[lb]? = some (.cells #[.slice (some ⟨gc, 0, none⟩) 256 256, .slice (some ⟨gf, 0, none⟩) 4 4, .int .u64 (nn : Int)] 65 (0, 0))) (hf : IsR W gf 4 (fun j => .int .u64 (FW a0 j : Int)) 63) (h1 : a0 ≤ b0) (h2 : b0 ≤ 256) (hne : lb ≠ gf) : Calls Try.prog 23 #[.pointer (some ⟨lb, 0, none⟩), .int .u64 (a0 : Int), .int .u64 (b0 : Int)] W fun e w => e = .returned (.tuple #[]) ∧ IsR w gf 4 (fun j => .int .u64 (FW b0 j : Int)) 63 ∧ Chg (fun k => k = gf) W w := by
  have HB := keepH hb
  have HF := keepH hf
  clear hb hf
  go_enter Try.func23, Try.ntmps23
  go_wp2_with fail
  go_loopw [1] (fun s wr => ∃ f : Nat, f ≤ b0 ∧ s = .int .u64 (f : Int) ∧ Hid (IsR wr gf 4 (fun j => .int .u64 (FW f j : Int)) 63) ∧ Hid (Chg (fun k => k = gf) W wr)) (fun s _ => b0 - (intOf s).toNat)
  case atStart => exact ⟨a0, h1, rfl, HF, Chg.refl _ _⟩
  case round =>
    obtain ⟨f, hf, rfl, HR, HC⟩ := hrel
    by_cases hlt : f < b0
    · have t1 : (f : Int) < (b0 : Int) := by omega
      obtain ⟨j, hj⟩ : ∃ j, j = f / 64 := ⟨_, rfl⟩
      have e1 : (f : Int).tdiv 64 = (j : Int) := by rw [Int.tdiv_eq_ediv_of_nonneg (by omega)]; omega
      have e2 : (f : Int) / 64 = (j : Int) := by omega
      obtain ⟨r, hr⟩ : ∃ r, r = f % 64 := ⟨_, rfl⟩
      have e3 : (f : Int).tmod 64 = (r : Int) := by rw [Int.tmod_eq_emod_of_nonneg (by omega)]; omega
      have e4 : (f : Int) % 64 = (r : Int) := by omega
      obtain ⟨m, hm⟩ : ∃ m, m = (j + 1) * 64 := ⟨_, rfl⟩
      have e5 : IntKind.u64.wrap (IntKind.u64.wrap ((j : Int) + 1) * 64) = (m : Int) := by rw [IntKind.wrap_u64, IntKind.wrap_u64]; omega
      have e5' : IntKind.u64.wrap ((j : Int) + 1) = (j : Int) + 1 := by rw [IntKind.wrap_u64]; omega
      have e5'' : ((j : Int) + 1) * 64 = (m : Int) := by omega
      have t4 : (j : Int) < 4 := by omega
      by_cases hmm : m < b0
      · have tm : (m : Int) < (b0 : Int) := by omega
        have tm' : ¬ (b0 : Int) < (m : Int) := by omega
        obtain ⟨n, hn⟩ : ∃ n, n = m - f := ⟨_, rfl⟩
        have e6 : IntKind.u64.wrap ((m : Int) - (f : Int)) = (n : Int) := by rw [IntKind.wrap_u64]; omega
        have e6' : (m : Int) - (f : Int) = (n : Int) := by omega
        have hbx : wr.heap[lb]? = some (.cells #[.slice (some ⟨gc, 0, none⟩) 256 256, .slice (some ⟨gf, 0, none⟩) 4 4, .int .u64 (nn : Int)] 65 (0, 0)) := (HC.out.block lb (lt_of HB.out) hne).trans HB.out
        have c1 : wr.cell? ⟨lb, 1, none⟩ = some (.slice (some ⟨gf, 0, none⟩) 4 4) := cell_of hbx 1
        have hnr : n + r ≤ 64 := by omega
        have hn1 : 1 ≤ n := by omega
        have HMk := keepH (mk_bits n r hn1 hnr)
        have HOr : Hid (FW m j = FW f j ||| (2 ^ n - 1) * 2 ^ r) := fw_or (by omega) (by omega) (by omega)
        have HOt : Hid (∀ i, i ≠ j → FW m i = FW f i) := fun i hi => fw_other (r := r) (n := n) (by omega) (by omega) (by omega) hi
        have HJ := keepH hj
        have HRr := keepH hr
        have HMm := keepH hm
        have HNn := keepH hn
        have hj4 : j < 4 := by omega
        clear hbx hj hr hm hn
        go_wp2_with fail
        rw [HMk.out]
        refine (a_or HOr.out (fw_lt _ _) (bits_lt hnr) (HR.out.cell j hj4) (free_of HR.out j)).mono ?_
        rintro e w ⟨rfl, rfl⟩
        have HR2 := keepH ((HR.out.set j hj4 (.int .u64 (FW m j : Int))).congr (f' := fun i => .int .u64 (FW m i : Int)) (fun i hi => by
          by_cases e : i = j
          · subst e; rw [updV_same]
          · rw [updV_other _ _ _ _ e, HOt.out i e]))
        have HC2 : Hid (Chg (fun k => k = gf) W (wr.setCell ⟨gf, j, none⟩ (.int .u64 (FW m j : Int)))) := HC.out.setCell (p := ⟨gf, j, none⟩) (fun _ => rfl) _
        go_wp2_with fail
        have hNn := HNn.out
        exact ⟨⟨m, by omega, by simp, HR2, HC2⟩, by simp [intOf]; omega⟩
      · have tm : ¬ (m : Int) < (b0 : Int) := by omega
        have tm' : (b0 : Int) ≤ (m : Int) := by omega
        obtain ⟨n, hn⟩ : ∃ n, n = b0 - f := ⟨_, rfl⟩
        have e6 : IntKind.u64.wrap ((b0 : Int) - (f : Int)) = (n : Int) := by rw [IntKind.wrap_u64]; omega
        have e6' : (b0 : Int) - (f : Int) = (n : Int) := by omega
        have hbx : wr.heap[lb]? = some (.cells #[.slice (some ⟨gc, 0, none⟩) 256 256, .slice (some ⟨gf, 0, none⟩) 4 4, .int .u64 (nn : Int)] 65 (0, 0)) := (HC.out.block lb (lt_of HB.out) hne).trans HB.out
        have c1 : wr.cell? ⟨lb, 1, none⟩ = some (.slice (some ⟨gf, 0, none⟩) 4 4) := cell_of hbx 1
        have hnr : n + r ≤ 64 := by omega
        have hn1 : 1 ≤ n := by omega
        have HMk := keepH (mk_bits n r hn1 hnr)
        have HOr : Hid (FW b0 j = FW f j ||| (2 ^ n - 1) * 2 ^ r) := fw_or (by omega) (by omega) (by omega)
        have HOt : Hid (∀ i, i ≠ j → FW b0 i = FW f i) := fun i hi => fw_other (r := r) (n := n) (by omega) (by omega) (by omega) hi
        have HJ := keepH hj
        have HRr := keepH hr
        have HMm := keepH hm
        have HNn := keepH hn
        have hj4 : j < 4 := by omega
        clear hbx hj hr hm hn
        go_wp2_with fail
        rw [HMk.out]
        refine (a_or HOr.out (fw_lt _ _) (bits_lt hnr) (HR.out.cell j hj4) (free_of HR.out j)).mono ?_
        rintro e w ⟨rfl, rfl⟩
        have HR2 := keepH ((HR.out.set j hj4 (.int .u64 (FW b0 j : Int))).congr (f' := fun i => .int .u64 (FW b0 i : Int)) (fun i hi => by
          by_cases e : i = j
          · subst e; rw [updV_same]
          · rw [updV_other _ _ _ _ e, HOt.out i e]))
        have HC2 : Hid (Chg (fun k => k = gf) W (wr.setCell ⟨gf, j, none⟩ (.int .u64 (FW b0 j : Int)))) := HC.out.setCell (p := ⟨gf, j, none⟩) (fun _ => rfl) _
        go_wp2_with fail
        have hNn := HNn.out
        exact ⟨⟨b0, by omega, by simp, HR2, HC2⟩, by simp [intOf]; omega⟩
    · have t1 : ¬ (f : Int) < (b0 : Int) := by omega
      obtain rfl : f = b0 := by omega
      go_wp2_with fail
      go_end0
      exact ⟨rfl, HR.out, HC.out⟩
end Go.Proofs.Ytdhlgmbmpipppaa
