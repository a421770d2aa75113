/- A book's lists of numbers, looked at: the walk. -/
import Derived.Test.YtoopbacnnkmpbacMarks
namespace Go.Proofs.Ytoopbacnnkmpbac
open Go.RowKit Go.Shelf

theorem infoLists : (Try.prog.info? 54).map (fun i => (i.zero, i.size, i.bytes)) = some (some (.slice none 0 0), 1, 24) := by kernel_rfl

theorem own_lower {W : World} {base base' : Nat} {e : TypeId} {size : Nat} {v : Value} {n : Nat} {xs : List Value} (h : W.ownsRow base e size v n xs) (hb : base' ≤ base) : W.ownsRow base' e size v n xs := by
  refine ⟨h.1, ?_⟩
  rcases h.2 with h2 | ⟨g, cap, cur, r1, r2, r3⟩
  · exact .inl h2
  · exact .inr ⟨g, cap, cur, r1, by omega, r3⟩
theorem own_below {W W' : World} {base : Nat} {e : TypeId} {size : Nat} {v : Value} {n : Nat} {xs : List Value} (h : W.ownsRow base e size v n xs) (hB : Below W.heap.size W W') : W'.ownsRow base e size v n xs := by
  refine ⟨h.1, ?_⟩
  rcases h.2 with h2 | ⟨g, cap, cur, r1, r2, r3, r4⟩
  · exact .inl h2
  · exact .inr ⟨g, cap, cur, r1, r2, (hB.block g (Array.getElem?_eq_some_iff.1 r3).1).trans r3, r4⟩
theorem own_apart {W : World} {b1 b2 : Nat} {e1 e2 : TypeId} {s1 s2 : Nat} {v1 v2 : Value} {n1 n2 : Nat} {xs1 xs2 : List Value} (h1 : W.ownsRow b1 e1 s1 v1 n1 xs1) (h2 : W.ownsRow b2 e2 s2 v2 n2 xs2) (hne : e1 ≠ e2) : v1 = .slice none 0 0 ∨ v1.ownBlock ≠ v2.ownBlock := by
  rcases h1.2 with ⟨r, _⟩ | ⟨g, cap, cur, rfl, _, r3, _⟩
  · exact .inl r
  · refine .inr fun e => ?_
    rcases h2.2 with ⟨rfl, _⟩ | ⟨g', cap', cur', rfl, _, r3', _⟩
    · simp [Value.ownBlock] at e
    · obtain rfl : g = g' := by simpa [Value.ownBlock] using e
      rw [r3] at r3'
      simp at r3'
      exact hne r3'.2
def allV (h d : Nat → Nat) (j : Nat) : Value := .slice (some ⟨h j, 0, none⟩) 31 (d j)
def allL (h d : Nat → Nat) (i : Nat) : List Value := (List.range i).map (allV h d)
theorem allL_length (h d : Nat → Nat) (i : Nat) : (allL h d i).length = i := by simp [allL]
theorem allL_get (h d : Nat → Nat) (i j : Nat) (hj : j < i) : (allL h d i)[j]? = some (allV h d j) := by simp [allL, hj]
theorem allL_snoc (h d : Nat → Nat) (i x c : Nat) : allL (fun j => if j = i then x else h j) (fun j => if j = i then c else d j) (i + 1) = allL h d i ++ [.slice (some ⟨x, 0, none⟩) 31 c] := by
  unfold allL
  rw [List.range_succ, List.map_append]
  congr 1
  · apply List.map_congr_left
    intro j hj
    have : ¬ j = i := by have := List.mem_range.1 hj; omega
    simp [allV, this]
  · simp [allV]

set_option maxRecDepth 100000 in
set_option maxHeartbeats 4000000 in
theorem alone_ints (Bk go co n : Nat) (g : Nat → Nat) (w : World) (hn : n ≤ 100) (hn0 : 0 < n) (hk0 : Keeps w Bk go co n g) (hm0 : Marked w n g (fun _ => 0)) :
    Calls Try.prog 28 #[.pointer (some ⟨Bk, 0, none⟩)] w fun e w' => e = .returned (.bool true) ∧ Below (Bk + 1) w w' := by
  obtain ⟨i0, hi, hz0, hz1, hz2⟩ := info_parts infoInt
  obtain ⟨i1, hi1, hy0, hy1, hy2⟩ := info_parts infoLists
  have HK0 := keepH hk0
  have HM0 := keepH hm0
  clear hk0 hm0
  go_enter Try.func28, Try.ntmps28
  go_wp2
  go_loopw [3] (fun s wr => ∃ i : Nat, i ≤ n ∧ s = .int .i64 (i : Int) ∧ Hid (Keeps wr Bk go co n g) ∧ Hid (Marked wr n g (fun j => if j < i then 11 else 0)) ∧ Below (Bk + 1) w wr) (fun s _ => n - (intOf s).toNat)
  case atStart => exact ⟨0, by omega, rfl, HK0, HM0, Below.refl _ _⟩
  case round =>
    obtain ⟨i, hi', rfl, HK, HM, hB⟩ := hrel
    have c1 := HK.out.book
    by_cases hlt : i < n
    · have c2 := HK.out.outer i hlt
      unfold rowV at c2
      have i1' : (i : Int) < (n : Int) := by omega
      obtain ⟨wo, rfl⟩ : ∃ wo : World, wo = wr := ⟨_, rfl⟩
      go_wp2
      go_loopw [4] (fun s wr => ∃ k : Nat, k ≤ 11 ∧ s = .int .i64 (k : Int) ∧ Hid (Keeps wr Bk go co n g) ∧ Hid (Marked wr n g (fun j => if j < i then 11 else if j = i then k else 0)) ∧ Below (Bk + 1) w wr) (fun s _ => 11 - (intOf s).toNat)
      case atStart => exact ⟨0, by omega, rfl, HK, fun j hj q hq => by have := HM.out j hj q hq; simpa using this, hB⟩
      case round =>
        obtain ⟨k, hk, rfl, HK2, HM2, hB2⟩ := hrel
        clear c1 c2
        have c1 := HK2.out.book
        have c2 := HK2.out.outer i hlt
        unfold rowV at c2
        by_cases hk2 : k < 11
        · obtain ⟨⟨v0, c3⟩, f3, _⟩ := HM2.out i hlt k hk2
          have k1 : (k : Int) < 11 := by omega
          go_wp2
          go_roundw
          case rel => exact ⟨k + 1, by omega, by go_num, HK2.out.put i k hlt _, HM2.out.put i k hlt hk2 HK2.out.apart _ (fun j hj q hq => by
              by_cases e1 : j < i
              · simp only [if_pos e1] at hq ⊢; exact .inl hq
              · by_cases e2 : j = i
                · simp only [if_neg e1, if_pos e2] at hq ⊢
                  by_cases e3 : q = k
                  · exact .inr ⟨e2, e3⟩
                  · exact .inl (by omega)
                · simp only [if_neg e1, if_neg e2] at hq; omega), hB2.setCell (p := ⟨g i, k, none⟩) (by have := (HK2.out.lt.2.2 i hlt).1; show Bk + 1 ≤ g i; omega) _⟩
          case measure => simp [intOf]; omega
        · obtain rfl : k = 11 := by omega
          go_wp2
          go_roundw
          case rel => exact ⟨i + 1, by omega, by go_num, HK2, fun j hj q hq => ⟨(HM2.out j hj q hq).1, (HM2.out j hj q hq).2.1, fun hx => (HM2.out j hj q hq).2.2 (by
              by_cases e1 : j < i
              · simp only [if_pos e1]; exact hq
              · by_cases e2 : j = i
                · simp only [if_neg e1, if_pos e2]; exact hq
                · simp only [if_neg (show ¬ j < i + 1 by omega)] at hx; omega)⟩, hB2⟩
          case measure => simp [intOf]; omega
    · obtain rfl : n = i := by omega
      have HM1 : Hid (Marked wr n g (fun _ => 11)) := fun j hj q hq => ⟨(HM.out j hj q hq).1, (HM.out j hj q hq).2.1, fun hx => (HM.out j hj q hq).2.2 (by simp only [if_pos hj]; exact hq)⟩
      obtain ⟨wa, rfl⟩ : ∃ wa : World, wa = wr := ⟨_, rfl⟩
      clear HM HM0 HK0
      have hg1 : ∀ j, j < n → g j < wa.heap.size := fun j hj => (HK.out.lt.2.2 j hj).2.1
      have hBk : Bk + 1 ≤ wa.heap.size := by have := HK.out.lt; omega
      go_wp2
      go_loopw [5, 6] (fun av s wr => ∃ (i : Nat) (h d : Nat → Nat), i ≤ n ∧ s = .int .i64 (i : Int) ∧ Hid (wr.ownsRow wa.heap.size 54 1 av i (allL h d i)) ∧ Hid (∀ j, j < i → wr.ownsRow wa.heap.size 3 1 (allV h d j) 31 (List.replicate 31 (mark j))) ∧ Below wa.heap.size wa wr) (fun _ s _ => n - (intOf s).toNat)
      case atStart => exact ⟨0, fun _ => 0, fun _ => 0, by omega, rfl, World.ownsRow_nil _ _ _ _, fun j hj => by omega, Below.refl _ _⟩
      case round =>
        obtain ⟨i, h, d, hi2, rfl, HA, HR, hB2⟩ := hrel
        rename_i av _
        have K2 := keepH (HK.out.below hB2)
        have M2 := keepH (HM1.out.below hg1 hB2)
        clear c1
        have c1 := K2.out.book
        by_cases hlt2 : i < n
        · have c2 := K2.out.outer i hlt2
          unfold rowV at c2
          have i1' : (i : Int) < (n : Int) := by omega
          obtain ⟨wi, rfl⟩ : ∃ wi : World, wi = wr := ⟨_, rfl⟩
          have sw := hB2.size
          go_wp2
          go_loopw [7, 8] (fun v s wr => ∃ m : Nat, m ≤ 20 ∧ s = .int .i64 (m : Int) ∧ (m = 0 ∧ v = .slice (some ⟨g i, 0, none⟩) 11 11 ∧ wr = wi ∨ 1 ≤ m ∧ Hid (wr.ownsRow wi.heap.size 3 1 v (11 + m) (List.replicate (11 + m) (mark i)))) ∧ Below wi.heap.size wi wr) (fun _ s _ => 20 - (intOf s).toNat)
          case atStart => exact ⟨0, by omega, rfl, .inl ⟨rfl, rfl, rfl⟩, Below.refl _ _⟩
          case round =>
            obtain ⟨m, hm, rfl, ⟨rfl, rfl, rfl⟩ | ⟨hm1, HV⟩, hB3⟩ := hrel
            · have P0 : Hid (∀ q, q < 11 → wr.cell? ⟨g i, q, none⟩ = some (.int .i64 (-7 - (i : Int)))) := fun q hq => (M2.out i hlt2 q hq).2.2 hq
              go_wp2_with (at_builtin; refine wpList_append_grows _ rfl _ _ 54 rfl 3 i0 (.int .i64 0) 1 8 Try.underlying54 hi hz0 hz1 hz2 rfl (by decide) (some ⟨g i, 0, none⟩) 11 11 (List.replicate 11 (.int .i64 (-7 - (i : Int)))) rfl (by simp) (by simp) (fun b hb j u hu => by cases hb; rw [List.getElem?_replicate] at hu; split at hu; rename_i hj; cases hu; have e := P0.out j hj; rw [show (⟨g i, 0, none⟩ : Addr).add j = ⟨g i, j, none⟩ by cases j <;> simp [Addr.add]]; exact (((Below.refl _ wr).alloc (Nat.le_refl _) _).cell (p := ⟨g i, j, none⟩) (by have := hg1 i hlt2; show g i < _; omega)).trans e; cases hu) ⟨wr.heap.size, 0, none⟩ 1 1 [.int .i64 (-7 - (i : Int))] rfl rfl (cell_one_new _ _ _) (by simp [Value.oneCell']) (by omega) (by unfold maxLen; omega) (by omega) ?_; intro v' w1 hown' hgrow)
              exact ⟨⟨1, by omega, by rfl, .inr ⟨by omega, own_lower hown' (by simp)⟩, ((Below.refl _ wr).alloc (Nat.le_refl _) _).grown hgrow (by simp) (fun j ej => by cases ej)⟩, by simp [intOf]⟩
            · by_cases hm2 : m < 20
              · have hV := HV.out
                go_wp2_with (at_builtin; refine wpList_append_own _ rfl _ _ 54 rfl wi.heap.size 3 i0 (.int .i64 0) 1 8 Try.underlying54 hi hz0 hz1 hz2 rfl (by decide) _ _ _ rfl (hV.alloc _) ⟨wr.heap.size, 0, none⟩ 1 1 [.int .i64 (-7 - (i : Int))] rfl rfl (cell_one_new _ _ _) (by simp [Value.oneCell']) (by unfold maxLen; omega) (by omega) (by have := hB3.size; simp; omega) ?_; intro v' w1 hown' hgrow _)
                exact ⟨⟨m + 1, by omega, by go_num, .inr ⟨by omega, by have e := hown'; rw [show List.replicate (11 + m) (mark i) ++ [Value.int .i64 (-7 - (i : Int))] = List.replicate (11 + (m + 1)) (mark i) from (List.replicate_succ' ..).symm] at e; exact e⟩, hB3.trans (below_app hV hB3.size hgrow)⟩, by simp [intOf]; omega⟩
              · obtain rfl : m = 20 := by omega
                obtain ⟨x, cx, rfl⟩ := ownsRow_succ (k := 30) HV.out
                have A3 := own_below HA.out hB3
                have s3 := hB3.size
                go_wp2_with (at_builtin; refine wpList_append_own _ rfl _ _ 33 rfl wa.heap.size 54 i1 (.slice none 0 0) 1 24 Try.underlying33 hi1 hy0 hy1 hy2 rfl (by decide) _ _ _ rfl (A3.alloc _) ⟨wr.heap.size, 0, none⟩ 1 1 [.slice (some ⟨x, 0, none⟩) 31 cx] rfl rfl (cell_one_new _ _ _) (by simp [Value.oneCell']) (by unfold maxLen; omega) (by omega) (by simp; omega) ?_; intro v' w1 hown' hgrow _)
                have keepRow : ∀ (b : Nat) (v : Value) (ys : List Value), wr.ownsRow b 3 1 v 31 ys → w1.ownsRow b 3 1 v 31 ys := fun b v ys hv =>
                  (hv.alloc _).kept hgrow ((own_apart hv A3 (by decide)).elim (fun e => .inl (by rw [e]; rfl)) .inr)
                refine ⟨⟨i + 1, fun j => if j = i then x else h j, fun j => if j = i then cx else d j, by omega, by go_num, by rw [allL_snoc]; exact hown', fun j hj => ?_, (hB2.trans (hB3.mono sw)).trans (below_app A3 (by omega) hgrow)⟩, by simp [intOf]; omega⟩
                by_cases e : j = i
                · subst e
                  have r := own_lower (keepRow _ _ _ HV.out) sw
                  simpa [allV] using r
                · have r := keepRow _ _ _ (own_below (HR.out j (by omega)) hB3)
                  simpa [allV, e] using r
        · obtain rfl : n = i := by omega
          obtain ⟨ao, ca, rfl⟩ := ownsRow_succ (k := n - 1) (by have e := HA.out; rwa [show n - 1 + 1 = n by omega])
          rw [show n - 1 + 1 = n by omega] at HA
          have NN : Hid (n - 1 + 1 = n) := by show _ = _; omega
          have X1 : Hid (∀ j, j < n → wr.cell? ⟨ao, j, none⟩ = some (.slice (some ⟨h j, 0, none⟩) 31 (d j))) := fun j hj => by
            have e := World.ownsRow.cellAt HA.out j (by omega)
            rw [allL_get h d n j hj] at e
            exact e
          have X2 : Hid (∀ j, j < n → ∀ q, q < 31 → wr.cell? ⟨h j, q, none⟩ = some (.int .i64 (-7 - (j : Int)))) := fun j hj q hq => by
            have e := World.ownsRow.cellAt (HR.out j hj) q (by omega)
            rw [List.getElem?_replicate, if_pos hq] at e
            exact e
          have X3 : Hid (∀ j, j < n → ∀ q, q < 11 → wr.cell? ⟨g j, q, none⟩ = some (.int .i64 (-7 - (j : Int)))) := fun j hj q hq => (M2.out j hj q hq).2.2 hq
          have X4 : Hid (∀ j, j < n → wr.cell? ⟨go, j, none⟩ = some (.slice (some ⟨g j, 0, none⟩) 11 11)) := fun j hj => K2.out.outer j hj
          clear HA HR M2 K2 HK HM1 hg1
          rw [NN.out]
          go_wp2
          go_loop [9] (fun s => ∃ i : Nat, i ≤ n ∧ s = .int .i64 (i : Int)) (fun s => n - (intOf s).toNat)
          case atStart => exact ⟨0, by omega, rfl⟩
          case round =>
            obtain ⟨i, hi3, rfl⟩ := hrel
            by_cases hlt3 : i < n
            · have x1 := X1.out i hlt3
              have x4 := X4.out i hlt3
              have j1 : (i : Int) < (n : Int) := by omega
              go_wp2
              go_loop [10] (fun s => ∃ q : Nat, q ≤ 31 ∧ s = .int .i64 (q : Int)) (fun s => 31 - (intOf s).toNat)
              case atStart => exact ⟨0, by omega, rfl⟩
              case round =>
                obtain ⟨q, hq, rfl⟩ := hrel
                by_cases hq1 : q < 31
                · have x2 := X2.out i hlt3 q hq1
                  have j2 : (q : Int) < 31 := by omega
                  go_wp2
                  go_round
                  case rel => exact ⟨q + 1, by omega, by go_num⟩
                  case measure => simp [intOf]; omega
                · obtain rfl : q = 31 := by omega
                  go_wp2
                  go_loop [12] (fun s => ∃ q : Nat, q ≤ 11 ∧ s = .int .i64 (q : Int)) (fun s => 11 - (intOf s).toNat)
                  case atStart => exact ⟨0, by omega, rfl⟩
                  case round =>
                    obtain ⟨q, hq2, rfl⟩ := hrel
                    by_cases hq3 : q < 11
                    · have x3 := X3.out i hlt3 q hq3
                      have j2 : (q : Int) < 11 := by omega
                      go_wp2
                      go_round
                      case rel => exact ⟨q + 1, by omega, by go_num⟩
                      case measure => simp [intOf]; omega
                    · obtain rfl : q = 11 := by omega
                      go_wp2
                      go_round
                      case rel => exact ⟨i + 1, by omega, by go_num⟩
                      case measure => simp [intOf]; omega
            · obtain rfl : n = i := by omega
              go_wp2
              go_ret
              exact ⟨rfl, hB.trans (hB2.mono hBk)⟩
end Go.Proofs.Ytoopbacnnkmpbac
