/- A content asked for some keys; pairs laid one behind the other. -/
import Derived.Test.YtbmfjcdafjknaaaNb
namespace Go.Proofs.Ytbmfjcdafjknaaa
open Go.RowKit Go.Maps
set_option linter.unusedVariables false

/-- Numbers that lie in a row. -/
def KeysAt (W : World) (p : Option Addr) (l : List Nat) : Prop := l = [] ∨ ∃ bk off, p = some ⟨bk, off, none⟩ ∧ bk < W.heap.size ∧ ∀ (i : Nat) (k : Nat), l[i]? = some k → k < 18446744073709551616 ∧ W.cell? ⟨bk, off + i, none⟩ = some (.int .u64 (k : Int))
theorem KeysAt.chg {F : Nat → Prop} {W W' : World} {p : Option Addr} {l : List Nat} (h : KeysAt W p l) (c : Chg F W W') (hn : ∀ bk off, p = some ⟨bk, off, none⟩ → ¬ F bk) : KeysAt W' p l := by
  rcases h with h | ⟨bk, off, rfl, hb, h⟩
  · exact .inl h
  · exact .inr ⟨bk, off, rfl, Nat.lt_of_lt_of_le hb c.size, fun i k hk => ⟨(h i k hk).1, cell_chg c (h i k hk).2 (hn bk off rfl)⟩⟩
theorem PairsAt.chgF {F : Nat → Prop} {W W' : World} {p : Option Addr} {l : List (Nat × Nat)} (h : PairsAt W p l) (c : Chg F W W') (hn : ∀ bk off, p = some ⟨bk, off, none⟩ → ¬ F bk) : PairsAt W' p l := by
  rcases h with h | ⟨bk, off, rfl, hb, h⟩
  · exact .inl h
  · exact .inr ⟨bk, off, rfl, Nat.lt_of_lt_of_le hb c.size, fun i k x hk => by
      obtain ⟨a, b, c1, c2⟩ := h i k x hk
      exact ⟨a, b, cell_chg c c1 (hn bk off rfl), cell_chg c c2 (hn bk off rfl)⟩⟩
def small64 (l : List (Nat × Nat)) : Prop := ∀ x ∈ l, x.1 < 18446744073709551616 ∧ x.2 < 18446744073709551616
/-- A row of pairs of the call's own. -/
def PRow (W : World) (B : Nat) (v : Value) (l : List (Nat × Nat)) : Prop := W.ownsRow B 71 2 v l.length (prRow l) ∧ small64 l
theorem PRow.nil (W : World) (B : Nat) : PRow W B (.slice none 0 0) [] := ⟨⟨rfl, .inl ⟨rfl, rfl⟩⟩, fun x h => by simp at h⟩
theorem PRow.kept {W W' : World} {B : Nat} {v : Value} {l : List (Nat × Nat)} {row : Option Nat} (h : PRow W B v l) (hg : W.grownBy W' row) (hn : v.ownBlock = none ∨ v.ownBlock ≠ row) : PRow W' B v l := ⟨h.1.kept hg hn, h.2⟩
theorem PRow.lt {W : World} {B : Nat} {v : Value} {l : List (Nat × Nat)} (h : PRow W B v l) : ∀ b, v.ownBlock = some b → B ≤ b ∧ b < W.heap.size := h.1.lt
theorem PRow.slice {W : World} {B : Nat} {v : Value} {l : List (Nat × Nat)} (h : PRow W B v l) : ∃ p c, v = .slice p l.length c ∧ PairsAt W p l ∧ ∀ bk off, p = some ⟨bk, off, none⟩ → B ≤ bk := by
  obtain ⟨⟨hl, h⟩, hs⟩ := h
  rcases h with ⟨rfl, e⟩ | ⟨g, cap, cur, rfl, hB, hg, _, _, _, ht⟩
  · obtain rfl := List.length_eq_zero_iff.1 e
    exact ⟨none, 0, rfl, .inl rfl, fun bk off e => by cases e⟩
  · refine ⟨_, cap, rfl, .inr ⟨g, 0, rfl, lt_of hg, fun i k x hk => ?_⟩, fun bk off e => by injection e with e; injection e with e; omega⟩
    have hm := hs (k, x) (List.mem_of_getElem? hk)
    have hi := (List.getElem?_eq_some_iff.1 hk).1
    obtain ⟨q1, q2⟩ := prRow_get l i k x hk
    rw [← ht, List.getElem?_take_of_lt (by omega)] at q1 q2
    refine ⟨hm.1, hm.2, ?_, ?_⟩
    · rw [cell_of hg]; simpa using q1
    · rw [cell_of hg]; simpa using q2
theorem prRow_add (l : List (Nat × Nat)) (k v : Nat) : prRow l ++ [.int .u64 (k : Int), .int .u64 (v : Int)] = prRow (l ++ [(k, v)]) := by simp [prRow]
theorem PRow.add {W' : World} {B : Nat} {v' : Value} {l : List (Nat × Nat)} (hs : small64 l) {k x : Nat} (hk : k < 18446744073709551616) (hx : x < 18446744073709551616) (h : W'.ownsRow B 71 2 v' (l.length + 1) (prRow l ++ [.int .u64 (k : Int), .int .u64 (x : Int)])) : PRow W' B v' (l ++ [(k, x)]) := by
  refine ⟨?_, fun y hy => ?_⟩
  · rw [← prRow_add]; simpa using h
  · rcases List.mem_append.1 hy with hy | hy
    · exact hs y hy
    · simp at hy; subst hy; exact ⟨hk, hx⟩
def pairsOf (f : Nat → Option Nat) (ks : List Nat) : List (Nat × Nat) := ks.filterMap (fun k => (f k).map (fun v => (k, v)))
theorem pairsOf_add (f : Nat → Option Nat) (ks : List Nat) (i k : Nat) (h : ks[i]? = some k) : pairsOf f (ks.take (i + 1)) = pairsOf f (ks.take i) ++ pairsOf f [k] := by
  rw [List.take_add_one, h]
  simp [pairsOf]
theorem pairsOf_len (f : Nat → Option Nat) (ks : List Nat) : (pairsOf f ks).length ≤ ks.length := List.length_filterMap_le _ _
set_option maxRecDepth 100000 in
set_option maxHeartbeats 4000000 in
theorem c_of {W : World} {b n : Nat} {f : Nat → Option Nat} (h : MapAt W b n f) {p : Option Addr} {ks : List Nat} (hk : KeysAt W p ks) (hkl : ks.length ≤ 8796093022000) (c : Nat) :
    Calls Try.prog 75 #[.map (some b), .slice p ks.length c] W fun e W' => (∃ v, e = .returned v ∧ PRow W' W.heap.size v (pairsOf f ks)) ∧ Chg (fun _ => False) W W' := by
  obtain ⟨i0, hi, hz0, hz1, hz2⟩ := info_parts infoPair
  have HM := keepH h
  have HK := keepH hk
  clear h hk
  go_enter Try.func75, Try.ntmps75
  go_wp2_with fail
  go_loopw [5, 12] (fun s q wr => ∃ i : Nat, i ≤ ks.length ∧ q = .int .i64 (i : Int) ∧ Hid (PRow wr W.heap.size s (pairsOf f (ks.take i)) ∧ Chg (fun _ => False) W wr)) (fun _ q _ => ks.length - natOf q)
  case atStart => exact ⟨0, Nat.zero_le _, rfl, PRow.nil _ _, Chg.refl _ _⟩
  case round =>
    obtain ⟨i, hil, rfl, HX⟩ := hrel
    by_cases hlt : i < ks.length
    · have q1 : (i : Int) < (ks.length : Int) := by omega
      obtain ⟨k, hk⟩ : ∃ k, ks[i]? = some k := ⟨ks[i], List.getElem?_eq_getElem hlt⟩
      obtain ⟨bk, off, rfl, hbk, hcs⟩ := HK.out.resolve_left (by intro e; subst e; simp at hk)
      obtain ⟨hk64, hcell⟩ := hcs i k hk
      have c0 := cell_chg HX.out.2 hcell (fun x => x)
      have hlk := MapAt.look (MapR.chg HM.out HX.out.2 (fun x => x)) hk64
      have HT := keepH (pairsOf_add f ks i k hk)
      have hpl := pairsOf_len f (ks.take i)
      rw [List.length_take] at hpl
      have HB : Hid ((pairsOf f (ks.take i)).length < 8796093022000 ∧ k < 18446744073709551616) := ⟨by omega, hk64⟩
      clear hk hcs hcell hpl
      cases hf : f k with
      | none =>
        rw [hf] at hlk
        have HF := keepH hf
        clear hf
        go_wp2_with fail
        go_roundw
        case rel => exact ⟨i + 1, by omega, by first | rfl | go_num, by rw [HT.out]; simpa [pairsOf, HF.out] using HX.out.1, HX.out.2⟩
        case measure => simp [natOf, intOf]; omega
      | some v =>
        obtain ⟨D, _, r⟩ := HM.out
        have hv64 := (r.lt k v hf).2
        rw [hf] at hlk
        have HF : Hid (f k = some v ∧ v < 18446744073709551616) := ⟨hf, hv64⟩
        clear hf r hv64
        go_wp2_with (first | (at_builtin; go_loud (refine wpList_append_own_at _ rfl _ _ 22 rfl W.heap.size 71 i0 (.agg #[.int .u64 0, .int .u64 0]) 2 16 Try.underlying22 hi hz0 hz1 hz2 rfl (by decide) _ _ _ rfl (HX.out.1.1.kept (World.grownBy_alloc _ _ none) (by cases Value.ownBlock _ <;> simp)) ⟨_, 0, none⟩ 1 1 [.int .u64 (k : Int), .int .u64 (v : Int)] rfl rfl (cells_new _ _ rfl _ _) (by intro u hu; simp at hu; rcases hu with rfl | rfl <;> rfl) (by unfold maxLen; have := HB.out.1; omega) (by have := HB.out.1; omega) (Nat.le_trans HX.out.2.size (by simp)) ?_); intro v' w3 r1 r2 r3 r4; have R1 := keepH r1; have R2 := keepH r2; have R4 := keepH r4; clear r1 r2 r3 r4))
        go_roundw
        case rel =>
          refine ⟨i + 1, by omega, by first | rfl | go_num, ?_, ?_⟩
          · rw [HT.out]
            have e : pairsOf f [k] = [(k, v)] := by simp [pairsOf, HF.out.1]
            rw [e]
            exact PRow.add HX.out.1.2 HB.out.2 HF.out.2 R1.out
          · exact (HX.out.2.alloc _).trans (grown_chg (F := fun j => W.heap.size ≤ j) R2.out (fun j e => (HX.out.1.lt j e).1)) (fun _ _ x => x) (fun j hj e => by omega)
        case measure => simp [natOf, intOf]; omega
    · have q1 : ¬ (i : Int) < (ks.length : Int) := by omega
      obtain rfl : i = ks.length := by omega
      go_wp2_with fail
      go_ret
      rw [List.take_length] at HX
      exact ⟨⟨_, rfl, HX.out.1⟩, HX.out.2⟩
end Go.Proofs.Ytbmfjcdafjknaaa
