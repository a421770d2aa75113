/- Bytes that lie somewhere; their sum; a sum behind bytes. -/
import Derived.Test.YtbmfjcdafjknaabEa
namespace Go.Proofs.Ytbmfjcdafjknaab
open Go.RowKit
set_option linter.unusedVariables false

def BytesAt (W : World) (p : Option Addr) (l : List Nat) : Prop := l = [] ∨ ∃ bk off, p = some ⟨bk, off, none⟩ ∧ bk < W.heap.size ∧ ∀ (i : Nat) (k : Nat), l[i]? = some k → k < 256 ∧ W.cell? ⟨bk, off + i, none⟩ = some (.int .u8 (k : Int))
theorem BytesAt.chg {F : Nat → Prop} {W W' : World} {p : Option Addr} {l : List Nat} (h : BytesAt W p l) (c : Chg F W W') (hn : ∀ bk off, p = some ⟨bk, off, none⟩ → ¬ F bk) : BytesAt W' p l := by
  rcases h with h | ⟨bk, off, rfl, hb, h⟩
  · exact .inl h
  · exact .inr ⟨bk, off, rfl, Nat.lt_of_lt_of_le hb c.size, fun i k hk => ⟨(h i k hk).1, cell_chg c (h i k hk).2 (hn bk off rfl)⟩⟩
theorem BytesAt.small {W : World} {p : Option Addr} {l : List Nat} (h : BytesAt W p l) : small8 l := by
  rcases h with rfl | ⟨bk, off, rfl, hb, h⟩
  · intro x hx; simp at hx
  · intro x hx
    obtain ⟨i, hi⟩ := List.mem_iff_getElem?.1 hx
    exact (h i x hi).1
theorem BRow.slice {W : World} {B : Nat} {v : Value} {l : List Nat} (h : BRow W B v l) : ∃ p c, v = .slice p l.length c ∧ BytesAt W p l ∧ ∀ bk off, p = some ⟨bk, off, none⟩ → B ≤ bk := by
  obtain ⟨⟨hl, h⟩, hs⟩ := h
  rcases h with ⟨rfl, e⟩ | ⟨g, cap, cur, rfl, hB, hg, _, _, _, ht⟩
  · obtain rfl := List.length_eq_zero_iff.1 e
    exact ⟨none, 0, rfl, .inl rfl, fun bk off e => by cases e⟩
  · refine ⟨_, cap, rfl, .inr ⟨g, 0, rfl, lt_of hg, fun i k hk => ?_⟩, fun bk off e => by injection e with e; injection e with e; omega⟩
    have hm := hs k (List.mem_of_getElem? hk)
    have hi := (List.getElem?_eq_some_iff.1 hk).1
    have q1 : (bRow l)[i]? = some (.int .u8 (k : Int)) := by simp [bRow, hk]
    rw [← ht, List.getElem?_take_of_lt (by omega)] at q1
    exact ⟨hm, by rw [cell_of hg]; simpa using q1⟩

def stepS (s c : Nat) : Nat := ((bits BinOp.xor IntKind.u32 (s : Int) (c : Int) * 16777619) % 4294967296).toNat
def sumF (l : List Nat) : Nat := l.foldl stepS 2166136261
theorem toNat_mod (x : Int) : ((x % 4294967296).toNat : Int) = x % 4294967296 ∧ (x % 4294967296).toNat < 4294967296 := by
  have h1 := Int.emod_nonneg x (b := 4294967296) (by decide)
  have h2 := Int.emod_lt_of_pos x (b := 4294967296) (by decide)
  generalize x % 4294967296 = y at *
  omega
theorem stepS_lt (s c : Nat) : stepS s c < 4294967296 := (toNat_mod _).2
theorem stepS_int (s c : Nat) : ((stepS s c : Nat) : Int) = (bits BinOp.xor IntKind.u32 (s : Int) (c : Int) * 16777619) % 4294967296 := (toNat_mod _).1
theorem fold_ltG (f : Nat → Nat → Nat) (hf : ∀ s c, f s c < 4294967296) : ∀ (l : List Nat) (s : Nat), s < 4294967296 → l.foldl f s < 4294967296 := by
  intro l
  induction l with
  | nil => intro s h; exact h
  | cons x l ih => intro s h; exact ih _ (hf s x)
theorem sumF_lt (l : List Nat) : sumF l < 4294967296 := fold_ltG stepS stepS_lt l 2166136261 (by omega)
theorem fold_nilG (f : Nat → Nat → Nat) (s : Nat) : [].foldl f s = s := rfl
theorem sumF_nil : sumF [] = 2166136261 := fold_nilG stepS 2166136261
theorem fold_snocG (f : Nat → Nat → Nat) (l : List Nat) (s i k : Nat) (h : l[i]? = some k) : (l.take (i + 1)).foldl f s = f ((l.take i).foldl f s) k := by rw [List.take_add_one, h]; simp
theorem sumF_add (l : List Nat) (i k : Nat) (h : l[i]? = some k) : sumF (l.take (i + 1)) = stepS (sumF (l.take i)) k := fold_snocG stepS l 2166136261 i k h

set_option maxRecDepth 100000 in
set_option maxHeartbeats 4000000 in
theorem sum_of {W : World} {p : Option Addr} {l : List Nat} (H : BytesAt W p l) (c : Nat) (hl : l.length ≤ 1000000000000) :
    Calls Try.prog 17 #[.slice p l.length c] W fun e W' => e = .returned (.int .u32 (sumF l : Int)) ∧ W' = W := by
  have HH := keepH H
  clear H
  go_enter Try.func17, Try.ntmps17
  go_wp2_with fail
  go_loopw [3, 8] (fun s q wr => ∃ i : Nat, i ≤ l.length ∧ q = .int .i64 (i : Int) ∧ (∃ m : Nat, s = .int .u32 (m : Int) ∧ Hid (m = sumF (l.take i))) ∧ wr = W) (fun _ q _ => l.length - (intOf q).toNat)
  case atStart => exact ⟨0, Nat.zero_le _, rfl, ⟨sumF [], by rw [sumF_nil]; rfl, by rw [List.take_zero]; exact keepH rfl⟩, rfl⟩
  case round =>
    obtain ⟨i, hil, rfl, ⟨m, rfl, HM⟩, rfl⟩ := hrel
    by_cases hlt : i < l.length
    · have q1 : (i : Int) < (l.length : Int) := by omega
      obtain ⟨k, hk⟩ : ∃ k, l[i]? = some k := ⟨l[i], List.getElem?_eq_getElem hlt⟩
      obtain ⟨bk, off, rfl, hbk, hcs⟩ := HH.out.resolve_left (by intro e; subst e; simp at hk)
      obtain ⟨hk8, hcell⟩ := hcs i k hk
      have HT := keepH (sumF_add l i k hk)
      have HS := keepH (stepS_int m k)
      clear hk hcs
      go_wp2_with fail
      go_roundw
      case rel => exact ⟨i + 1, by omega, by first | rfl | go_num, ⟨stepS m k, by rw [HS.out], keepH (by rw [HT.out, ← HM.out])⟩, trivial⟩
      case measure => simp [intOf]; omega
    · have q1 : ¬ (i : Int) < (l.length : Int) := by omega
      obtain rfl : i = l.length := by omega
      rw [List.take_length] at HM
      obtain rfl := HM.out
      go_wp2_with fail
      go_ret
      exact ⟨rfl, rfl⟩

def sum4 (s : Nat) : List Nat := [s % 256, s / 256 % 256, s / 65536 % 256, s / 16777216 % 256]
theorem sum4_small (s : Nat) : small8 (sum4 s) := by
  intro x hx
  simp [sum4] at hx
  omega
theorem sum4_take (s i : Nat) (h : i < 4) : (sum4 s).take (i + 1) = (sum4 s).take i ++ [s / 256 ^ i % 256] := by
  have : i = 0 ∨ i = 1 ∨ i = 2 ∨ i = 3 := by omega
  rcases this with rfl | rfl | rfl | rfl <;> simp [sum4]
set_option maxRecDepth 100000 in
set_option maxHeartbeats 4000000 in
theorem app_sum {W : World} {B : Nat} {v : Value} {l : List Nat} (H : BRow W B v l) (s : Nat) (hs : s < 4294967296) (hl : l.length ≤ 1000000000) (hB : B ≤ W.heap.size) :
    Calls Try.prog 16 #[v, .int .u32 (s : Int)] W fun e W' => (∃ v', e = .returned v' ∧ BRow W' B v' (l ++ sum4 s)) ∧ Chg (fun k => B ≤ k) W W' := by
  obtain ⟨i0, hi, hz0, hz1, hz2⟩ := info_parts infoU8
  have HH := keepH H
  clear H
  go_enter Try.func16, Try.ntmps16
  go_wp2_with fail
  go_loopw [0, 1, 5] (fun x y q wr => ∃ (i m : Nat), i ≤ 4 ∧ m < 4294967296 ∧ q = .int .i64 (i : Int) ∧ y = .int .u32 (m : Int) ∧ Hid (m = s / 256 ^ i ∧ BRow wr B x (l ++ (sum4 s).take i) ∧ Chg (fun k => B ≤ k) W wr)) (fun _ _ q _ => 4 - (intOf q).toNat)
  case atStart => exact ⟨0, s, by omega, hs, rfl, rfl, by simp, by simpa using HH.out, Chg.refl _ _⟩
  case round =>
    obtain ⟨i, m, h4, hm, rfl, rfl, HX⟩ := hrel
    by_cases c : i < 4
    · have t1 : (i : Int) < 4 := by omega
      have HB : Hid ((l ++ (sum4 s).take i).length ≤ 1000000004) := by
        have : ((sum4 s).take i).length ≤ 4 := by simp; omega
        exact keepH (by rw [List.length_append]; omega)
      go_wp2_with (first | (at_builtin; go_loud (refine wpList_append_own_at _ rfl _ _ 23 rfl B 5 i0 (.int .u8 0) 1 1 Try.underlying23 hi hz0 hz1 hz2 rfl (by decide) _ _ _ rfl (HX.out.2.1.1.kept (World.grownBy_alloc _ _ none) (by cases Value.ownBlock _ <;> simp)) ⟨_, 0, none⟩ 1 1 [.int .u8 ((m : Int) % 256)] rfl rfl (cells_newE _ _ rfl _ _) (by intro u hu; simp at hu; subst hu; rfl) (by unfold maxLen; have := HB.out; omega) (by have := HB.out; omega) (Nat.le_trans (Nat.le_trans hB HX.out.2.2.size) (by simp)) ?_); intro v' w3 r1 r2 r3 r4; have R1 := keepH r1; have R2 := keepH r2; clear r1 r2 r3 r4))
      go_roundw
      case rel =>
        refine ⟨i + 1, m / 256, by omega, by omega, by first | rfl | go_num, by first | rfl | go_num, ?_, ?_, ?_⟩
        · rw [HX.out.1, Nat.pow_succ, Nat.div_div_eq_div_mul]
        · rw [sum4_take s i c, ← List.append_assoc, ← HX.out.1]
          exact BRow.add HX.out.2.1.2 (Nat.mod_lt _ (by decide)) R1.out
        · exact (HX.out.2.2.alloc _).trans (grown_chgE (F := fun k => B ≤ k) R2.out (fun k e => (HX.out.2.1.lt k e).1)) (fun _ _ x => x) (fun _ _ x => x)
      case measure => simp [intOf]; omega
    · have t1 : ¬ (i : Int) < 4 := by omega
      obtain rfl : i = 4 := by omega
      go_wp2_with fail
      go_ret
      exact ⟨⟨_, rfl, HX.out.2.1⟩, HX.out.2.2⟩
end Go.Proofs.Ytbmfjcdafjknaab
