/- Numbers handed in, looked at again. -/
import Derived.Test.YtimlaamhjbhkmaaGreatZa
namespace Go.Proofs.YtimlaamhjbhkmaaGreat
open Go.RowKit
set_option linter.unusedVariables false

def KeysAt (W : World) (p : Option Addr) (l : List Nat) : Prop := l = [] ∨ ∃ bk off, p = some ⟨bk, off, none⟩ ∧ bk < W.heap.size ∧ ∀ (i : Nat) (k : Nat), l[i]? = some k → k < 18446744073709551616 ∧ W.cell? ⟨bk, off + i, none⟩ = some (.int .u64 (k : Int))
theorem KeysAt.chg {F : Nat → Prop} {W W' : World} {p : Option Addr} {l : List Nat} (h : KeysAt W p l) (c : Chg F W W') (hn : ∀ bk off, p = some ⟨bk, off, none⟩ → ¬ F bk) : KeysAt W' p l := by
  rcases h with h | ⟨bk, off, rfl, hb, h⟩
  · exact .inl h
  · exact .inr ⟨bk, off, rfl, Nat.lt_of_lt_of_le hb c.size, fun i k hk => ⟨(h i k hk).1, cell_chg c (h i k hk).2 (hn bk off rfl)⟩⟩
theorem KeysAt.get {W W' : World} {p : Option Addr} {l : List Nat} (h : KeysAt W p l) (c : Chg (fun _ => False) W W') {i k : Nat} (hk : l[i]? = some k) : ∃ bk off, p = some ⟨bk, off, none⟩ ∧ W'.cell? ⟨bk, off + i, none⟩ = some (.int .u64 (k : Int)) := by
  rcases h with rfl | ⟨bk, off, rfl, hb, h⟩
  · simp at hk
  · exact ⟨bk, off, rfl, cell_chg c (h i k hk).2 (fun x => x)⟩
theorem measN {i n : Nat} (h : i < n) : n - (intOf (.int .i64 ((i : Int) + 1))).toNat < n - (intOf (.int .i64 (i : Int))).toNat := by
  have e1 : (intOf (.int .i64 ((i : Int) + 1))).toNat = i + 1 := by show ((i : Int) + 1).toNat = i + 1; omega
  have e2 : (intOf (.int .i64 (i : Int))).toNat = i := by show ((i : Int)).toNat = i; omega
  rw [e1, e2]
  omega
set_option maxRecDepth 100000 in
set_option maxHeartbeats 2000000 in
theorem same_u (pa pb : Option Addr) (ca cb : Nat) (l : List Nat) (W : World) (hA : KeysAt W pa l) (hB : KeysAt W pb l) (hl : l.length ≤ 9223372036854775807) :
    Calls Tryz.prog 24 #[.slice pa l.length ca, .slice pb l.length cb] W fun e W' => e = .returned (.bool true) ∧ Chg (fun _ => False) W W' := by
  have HA := keepH hA
  have HB := keepH hB
  clear hA hB
  go_enter Tryz.func24, Tryz.ntmps24
  go_wp2_with fail
  go_loopw [5] (fun s wr => ∃ k : Nat, k ≤ l.length ∧ s = .int .i64 (k : Int) ∧ Hid (Chg (fun _ => False) W wr)) (fun s _ => l.length - (intOf s).toNat)
  case atStart => exact ⟨0, Nat.zero_le _, rfl, Chg.refl _ _⟩
  case round =>
    obtain ⟨k, hk, rfl, HK⟩ := hrel
    by_cases hlt : k < l.length
    · have t1 : (k : Int) < (l.length : Int) := by omega
      obtain ⟨x, hx⟩ : ∃ x, l[k]? = some x := ⟨l[k], List.getElem?_eq_getElem hlt⟩
      obtain ⟨bk, off, rfl, c0⟩ := HA.out.get HK.out hx
      obtain ⟨bk', off', rfl, c1⟩ := HB.out.get HK.out hx
      clear hx
      go_wp2_with fail
      (try (go_quiet (fail); go_wp2_with fail))
      go_roundw
      case rel => exact ⟨k + 1, by omega, by first | rfl | go_num, HK.out.trans (H := fun _ => False) ⟨rfl, rfl, rfl, Nat.le_refl _, fun _ _ _ => rfl⟩ (fun _ _ x => x) (fun _ _ x => x)⟩
      case measure => exact measN hlt
    · have t1 : ¬ (k : Int) < (l.length : Int) := by omega
      go_wp2_with fail
      go_ret
      exact ⟨by simp, HK.out⟩
theorem Handed.keys {W : World} {g : Nat} {l : List Nat} (h : Handed W g l.length (fun j => l.getD j 0)) (hg : g < W.heap.size) (hs : ∀ k ∈ l, k < 18446744073709551616) : KeysAt W (some ⟨g, 0, none⟩) l := by
  refine .inr ⟨g, 0, rfl, hg, fun i x hx => ?_⟩
  have hl := (List.getElem?_eq_some_iff.1 hx).1
  have e := h.1 i hl
  simp only [List.getD_eq_getElem?_getD, hx] at e
  exact ⟨hs x (List.mem_of_getElem? hx), by simpa using e⟩
theorem Handed.chg {W X : World} {g n : Nat} {zs : Nat → Nat} {F : Nat → Prop} (h : Handed W g n zs) (c : Chg F W X) (hF : ¬ F g) : Handed X g n zs := ⟨fun j hj => cell_chg c (h.1 j hj) hF, fun j hj => cell_chg c (h.2 j hj) hF⟩
theorem KeysAt.small {W : World} {p : Option Addr} {l : List Nat} (h : KeysAt W p l) : ∀ k ∈ l, k < 18446744073709551616 := by
  rcases h with rfl | ⟨bk, off, rfl, hb, h⟩
  · intro k hk; simp at hk
  · intro k hk
    obtain ⟨i, hi⟩ := List.mem_iff_getElem?.1 hk
    exact (h i k hi).1
theorem chg_below0 {W W' : World} (h : Below W.heap.size W W') : Chg (fun _ => False) W W' := (chg_below h).mono (fun i hi x => by omega)
theorem hand_keys (p : Option Addr) (c : Nat) (zs : List Nat) (W : World) (h : KeysAt W p zs) (hn : zs.length ≤ 17592186043904) :
    Calls Tryz.prog 37 #[.slice p zs.length c] W fun e W' => ∃ g, e = .returned (.slice (some ⟨g, 0, none⟩) zs.length (zs.length + 9)) ∧ W.heap.size ≤ g ∧ g < W'.heap.size ∧ Handed W' g zs.length (fun j => zs.getD j 0) ∧ Chg (fun _ => False) W W' := by
  rcases h with rfl | ⟨bk, off, rfl, hb, h⟩
  · refine (handu_zero p c (fun j => ([] : List Nat).getD j 0) W).mono ?_
    rintro e W' ⟨g, rfl, h1, h2, h3, h4⟩
    exact ⟨g, rfl, h1, h2, h3, chg_below0 h4⟩
  · refine (handu_some bk off zs.length c (fun j => zs.getD j 0) W hn hb (fun j hj => (h j _ (by rw [List.getD_eq_getElem?_getD, List.getElem?_eq_getElem hj]; rfl)).2)).mono ?_
    rintro e W' ⟨g, rfl, h1, h2, h3, h4⟩
    exact ⟨g, rfl, h1, h2, h3, chg_below0 h4⟩
set_option maxRecDepth 100000 in
set_option maxHeartbeats 1000000 in
theorem kept_keys (g : Nat) (p : Option Addr) (c : Nat) (zs : List Nat) (w : World) (hh : Handed w g zs.length (fun j => zs.getD j 0)) (hg : g < w.heap.size) (h : KeysAt w p zs) (hn : zs.length ≤ 17592186043904) :
    Calls Tryz.prog 52 #[.slice (some ⟨g, 0, none⟩) zs.length (zs.length + 9), .slice p zs.length c] w fun e W' => e = .returned (.bool true) ∧ Chg (fun _ => False) w W' := by
  have HS := keepH (same_u (some ⟨g, 0, none⟩) p (zs.length + 9) c zs w (Handed.keys hh hg h.small) h (by omega))
  obtain ⟨n, hnn⟩ : ∃ n, n = zs.length := ⟨_, rfl⟩
  rw [← hnn] at hh hn HS ⊢
  have HH := keepH hh
  clear hh h hnn hg
  go_enter Tryz.func52, Tryz.ntmps52
  go_wp2_with fail
  refine HS.out.mono ?_
  rintro e w1 ⟨rfl, C1⟩
  have H1 : Hid (∀ j, j < 9 → w1.cell? ⟨g, n + j, none⟩ = some (.int .u64 (2305843009213693952 + (j : Int)))) := fun j hj => cell_chg C1 (HH.out.2 j hj) (fun x => x)
  have HC := keepH C1
  clear C1
  go_wp2_with fail
  go_loopw [6] (fun i wr => ∃ m : Nat, m ≤ 9 ∧ i = .int .i64 ((n : Int) + (m : Int)) ∧ wr = w1) (fun i _ => n + 9 - (intOf i).toNat)
  case atStart => exact ⟨0, by omega, by simp, rfl⟩
  case round =>
    obtain ⟨m, hm, rfl, hw⟩ := hrel
    subst hw
    by_cases hlt : m < 9
    · have x1 := H1.out m hlt
      have e0 : (2305843009213693952 : Int) + ((n : Int) + (m : Int)) - (n : Int) = 2305843009213693952 + (m : Int) := by omega
      have i1 : (n : Int) + (m : Int) < (n : Int) + 9 := by omega
      go_wp2_with fail
      go_roundw
      case rel => exact ⟨m + 1, by omega, by go_num, (by first | rfl | trivial)⟩
      case measure => simp [intOf]; omega
    · obtain rfl : m = 9 := by omega
      go_wp2_with fail
      go_ret
      exact ⟨by simp, HC.out⟩
end Go.Proofs.YtimlaamhjbhkmaaGreat
