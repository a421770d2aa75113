/- The document's model: what it tells of itself, and what it keeps. -/
import Derived.Test.YtahgaghokpicgaaGreatF26D8e
import Derived.Laws.OwnMore
import Derived.Test.YtahgaghokpicgaaGreatF1MsL
import Derived.Test.YtahgaghokpicgaaGreatF4Pi
import Derived.Test.YtahgaghokpicgaaGreatF3MsW
import Derived.Deep.MidRow
namespace Go.Proofs.YtahgaghokpicgaaGreat
open Go.RowKit Go.Maps
set_option linter.unusedVariables false
set_option maxHeartbeats 16000000
theorem ne_ty {W : World} {a b : Nat} {cs ds : Array Value} {t u : TypeId} {p q : Nat × Nat} (h1 : W.heap[a]? = some (.cells cs t p)) (h2 : W.heap[b]? = some (.cells ds u q)) (hn : t ≠ u) : a ≠ b := by
 rintro rfl
 rw [h1] at h2
 injection h2 with h2
 injection h2 with _ h2
 exact hn h2
theorem RB.chg {A F : Nat → Prop} {W W' : World} {m : Nat} {mu : Int} {f : Nat → Option Nat} {pc : Nat → Option (Nat → Option Nat)} {n : Nat} (h : RB A W m mu f pc n) (c : Chg F W W') (hn : ∀ k, F k → ∀ cs t p, W.heap[k]? = some (.cells cs t p) → (t = 86 → A k) ∧ t ≠ 105 ∧ t ≠ 111) : RB A W' m mu f pc n := by
 obtain ⟨l, H, ⟨mv, hv, Z, h1, h2, h3, h4, h5⟩, r⟩ := h.ex
 have nr : ∀ {v : Value} {f : Nat → Option Nat} {l : List (Nat × Nat)}, (∀ b, v.ownBlock = some b → ¬ A b) → RL W v f l → RL W' v f l := fun {v f l} ha hr => hr.chg c (fun b hb x => by
  rcases hr.row.1.2 with ⟨e, _⟩ | ⟨g, cap, cur, e, _, hg, _⟩
  ·rw [e] at hb; cases hb
  ·have hb2 := hb
   rw [e] at hb
   injection hb with hb
   have hb : g = b := hb
   subst hb
   exact ha g hb2 ((hn g x _ _ _ hg).1 rfl))
 refine ⟨l, H, ⟨mv, hv, Z, ⟨(c.block m (lt_of h1.at_) (fun x => (hn m x _ _ _ h1.at_).2.1 rfl)).trans h1.at_, h1.row.chg c (fun b hb x => ?_)⟩, nr h5.1 h2, h3, fun z hz => nr (h5.2 z hz) (h4 z hz), h5⟩, r⟩
 rcases h1.row.1.2 with ⟨e, _⟩ | ⟨g, cap, cur, e, _, hg, _⟩
 ·rw [e] at hb; cases hb
 ·rw [e] at hb
  injection hb with hb
  have hb : g = b := hb
  subst hb
  exact (hn g x _ _ _ hg).2.2 rfl
theorem RB.avoid {A A' : Nat → Prop} {W : World} {m : Nat} {mu : Int} {f : Nat → Option Nat} {pc : Nat → Option (Nat → Option Nat)} {n : Nat} (h : RB A W m mu f pc n) (hA : ∀ b, A' b → W.heap.size ≤ b) : RB A' W m mu f pc n := by
 obtain ⟨l, H, h1, r⟩ := h.ex
 exact ⟨l, H, h1.avoid hA, r⟩
theorem RB.less {A A' : Nat → Prop} {W : World} {m : Nat} {mu : Int} {f : Nat → Option Nat} {pc : Nat → Option (Nat → Option Nat)} {n : Nat} (h : RB A W m mu f pc n) (hA : ∀ b, A' b → A b) : RB A' W m mu f pc n := by
 obtain ⟨l, H, ⟨mv, hv, Z, h1, h2, h3, h4, h5⟩, r⟩ := h.ex
 exact ⟨l, H, ⟨mv, hv, Z, h1, h2, h3, h4, fun b hb x => h5.1 b hb (hA b x), fun z hz b hb x => h5.2 z hz b hb (hA b x)⟩, r⟩
theorem d_handles {A : Nat → Prop} {W : World} {m mu n : Nat} {f : Nat → Option Nat} {pc : Nat → Option (Nat → Option Nat)} (h : RB A W m mu f pc n) (hn : n ≤ 3000000) :
    Calls Tryz.prog 21 #[.pointer (some ⟨m, 0, none⟩)] W fun e W' => (∃ p c ss, e = .returned (.slice p ss.length c) ∧ HandlesOf pc ss ∧ ss.length ≤ n ∧ KeysAt W' p ss) ∧ Chg (fun _ => False) W W' := by
 obtain ⟨mv, hv, Z, l, h1, h2, h4, h5, hR, hz, rfl, hgl, hlZ⟩ := h.begin
 refine (hand_list h1 (by simp; omega)).mono ?_
 rintro e W' ⟨v, rfl, hs⟩
 have e1 : (Z.map (fun z => (z.1, z.2.1))).map (·.1) = Z.map (·.1) := by rw [List.map_map]; rfl
 rw [e1] at hs
 have hl := listU_of hs.row
 obtain ⟨p, c, rfl, hk, -⟩ := hl.keys (fun k hk => by
  obtain ⟨z, hz2, rfl⟩ := List.mem_map.1 hk
  exact (hz (z.1, z.2.2) (List.mem_map.2 ⟨z, hz2, rfl⟩)).1)
 refine ⟨⟨p, c, Z.map (·.1), rfl, ⟨?_, fun x => ?_⟩, by simpa using hlZ, hk⟩, hs.chg⟩
 ·have : (Z.map (·.1)) = (Z.map (fun z => (z.1, z.2.2))).map (·.1) := by rw [List.map_map]; rfl
  rw [this]
  exact List.pairwise_map.2 hR
 ·rw [hP_isSome hR]
  constructor
  ·intro hx
   obtain ⟨z, hz2, rfl⟩ := List.mem_map.1 hx
   exact ⟨(z.1, z.2.2), List.mem_map.2 ⟨z, hz2, rfl⟩, rfl⟩
  ·rintro ⟨y, hy, rfl⟩
   obtain ⟨z, hz2, rfl⟩ := List.mem_map.1 hy
   exact List.mem_map.2 ⟨z, hz2, rfl⟩
theorem d_content {A : Nat → Prop} {W : World} {m mu n : Nat} {f : Nat → Option Nat} {pc : Nat → Option (Nat → Option Nat)} (h : RB A W m mu f pc n) :
    Calls Tryz.prog 36 #[.pointer (some ⟨m, 0, none⟩)] W fun e W' => (∃ p c l, e = .returned (.slice p l.length c) ∧ Lists f 0 18446744073709551615 l ∧ l.length ≤ n ∧ PairsAt W' p l) ∧ Chg (fun _ => False) W W' := by
 obtain ⟨mv, hv, Z, l, h1, h2, h4, h5, hR, hz, rfl, hgl, hlZ⟩ := h.begin
 refine (r_content6 h1 h2).mono ?_
 rintro e W' ⟨rfl, hc⟩
 obtain ⟨p, c, rfl, hp, -⟩ := h2.row.slice
 exact ⟨⟨p, c, l, rfl, h2.ls, by omega, hp.chg hc⟩, hc⟩
set_option maxRecDepth 100000 in
theorem what_none {W : World} {m : Nat} {mu : Int} {mv hv : Value} {hs : List (Nat × Value)} (H : RMod W m mu mv hv hs) (hl : hs.length ≤ 4000000) {k : Nat} (hp : placeI hs k = -1) :
    Calls Tryz.prog 38 #[.pointer (some ⟨m, 0, none⟩), .int .u64 k] W fun e W' => e = .returned (.tuple #[.slice none 0 0, .bool false]) ∧ Chg (fun _ => False) W W' := by
 have HPL := keepH (r_placeM H hl k)
 rw [hp] at HPL
 clear H hl hp
 go_enter Tryz.func38, Tryz.ntmps38
 go_wp2_with fail
 refine HPL.out.mono ?_
 rintro e w1 ⟨rfl, rfl⟩
 go_wp2_with fail
 go_ret2
 exact ⟨by simp, Chg.refl _ _⟩
set_option maxRecDepth 100000 in
theorem what_some {W : World} {m : Nat} {mu : Int} {mv hv : Value} {hs : List (Nat × Value)} (H : RMod W m mu mv hv hs) (hl : hs.length ≤ 4000000) {k i hh q c : Nat} {p : Option Addr} (hpl : placeI hs k = (i : Int)) (hx : hs[i]? = some (hh, .slice p q c)) :
    Calls Tryz.prog 38 #[.pointer (some ⟨m, 0, none⟩), .int .u64 k] W fun e W' => e = .returned (.tuple #[.slice p q c, .bool true]) ∧ Chg (fun _ => False) W W' := by
 obtain ⟨hp, hcap, rfl, hAt, -, -, -⟩ := H.row.slice
 have hi2 := (List.getElem?_eq_some_iff.1 hx).1
 obtain ⟨bk, off, rfl, hbk, hcell⟩ : ∃ bk off, hp = some ⟨bk, off, none⟩ ∧ bk < W.heap.size ∧ W.cell? ⟨bk, off + i * 2 + 1, none⟩ = some (.slice p q c) := by
  rcases hAt with e | ⟨bk, off, e1, e2, e3⟩
  ·rw [e] at hx; simp at hx
  ·exact ⟨bk, off, e1, e2, (e3 i hh _ hx).2.2⟩
 have HPL := keepH (r_placeM H hl k)
 rw [hpl] at HPL
 have d2 := H.c2
 obtain ⟨n, hn⟩ : ∃ n, n = hs.length := ⟨_, rfl⟩
 rw [← hn] at d2
 have b1 : (i : Int) < (n : Int) := by omega
 have b0 : (0 : Int) ≤ (i : Int) := by omega
 have b3 : ¬ (i : Int) < 0 := by omega
 clear H hl hpl hx hAt hi2 hbk hn
 go_enter Tryz.func38, Tryz.ntmps38
 go_wp2_with fail
 refine HPL.out.mono ?_
 rintro e w1 ⟨rfl, rfl⟩
 go_wp2_with fail
 go_ret2
 exact ⟨by simp, Chg.refl _ _⟩
theorem d_what {A : Nat → Prop} {W : World} {m mu n : Nat} {f : Nat → Option Nat} {pc : Nat → Option (Nat → Option Nat)} (h : RB A W m mu f pc n) (hn : n ≤ 3000000) (k : Nat) :
    Calls Tryz.prog 38 #[.pointer (some ⟨m, 0, none⟩), .int .u64 k] W fun e W' => (∃ p c l, e = .returned (.tuple #[.slice p l.length c, .bool (pc k).isSome]) ∧ l.length ≤ n ∧ PairsAt W' p l ∧ (∀ g, pc k = some g → Lists g 0 18446744073709551615 l) ∧ (pc k = none → l = [])) ∧ Chg (fun _ => False) W W' := by
 obtain ⟨mv, hv, Z, l, h1, h2, h4, h5, hR, hz, rfl, hgl, hlZ⟩ := h.begin
 have hl2 : (Z.map (fun z => (z.1, z.2.1))).length ≤ 4000000 := by simp; omega
 rcases place_cases (Z.map (fun z => (z.1, z.2.1))) k with hp | ⟨i, hp, hi2, hi3⟩
 ·rw [hP_none (placeI_neg hp)]
  refine (what_none h1 hl2 hp).mono ?_
  rintro e W' ⟨rfl, hc⟩
  exact ⟨⟨none, 0, [], rfl, by simp, .inl rfl, fun g hg => (by cases hg), fun _ => rfl⟩, hc⟩
 ·have hi4 : i < Z.length := by simpa using hi2
  have hm := List.getElem_mem hi4
  have hr := h4 _ hm
  have hkz : Z[i].1 = k := by simpa using hi3
  have e1 : hP (Z.map (fun z => (z.1, z.2.2))) k = some Z[i].2.2.1 := by
   rw [← hkz]
   exact hP_some hR (z := (Z[i].1, Z[i].2.2)) (List.mem_map.2 ⟨_, hm, rfl⟩)
  rw [e1]
  obtain ⟨p, c, e, hpp, -⟩ := hr.row.slice
  have hx : (Z.map (fun z => (z.1, z.2.1)))[i]? = some (Z[i].1, Value.slice p Z[i].2.2.2.length c) := by
   rw [List.getElem?_map, List.getElem?_eq_getElem hi4, ← e]
   rfl
  have hb := (hz (Z[i].1, Z[i].2.2) (List.mem_map.2 ⟨_, hm, rfl⟩)).2.2
  refine (what_some h1 hl2 hp hx).mono ?_
  rintro e W' ⟨rfl, hc⟩
  exact ⟨⟨p, c, _, rfl, hb, hpp.chg hc, fun g hg => (by injection hg with hg; rw [← hg]; exact hr.ls), fun hg => (by cases hg)⟩, hc⟩
end Go.Proofs.YtahgaghokpicgaaGreat
namespace Go.Proofs.YtahgaghokpicgaaGreat
open Go.RowKit
set_option linter.unusedVariables false
set_option maxHeartbeats 16000000
theorem infoU : (Tryz.prog.info? 30).map (fun i => (i.zero, i.size, i.bytes)) = some (some (.int .u64 0), 1, 8) := by kernel_rfl
def Handed (W : World) (g n : Nat) (zs : Nat → Nat) : Prop :=
 (∀ j, j < n → W.cell? ⟨g, j, none⟩ = some (.int .u64 (zs j : Int))) ∧ ∀ j, j < 9 → W.cell? ⟨g, n + j, none⟩ = some (.int .u64 (2305843009213693952 + (j : Int)))
def Row (W : World) (base g N : Nat) (xs : List Value) : Prop := W.ownsRow base 30 1 (.slice (some ⟨g, 0, none⟩) N N) N xs
theorem Row.at {W : World} {base g N : Nat} {xs : List Value} (h : Row W base g N xs) (j : Nat) (hj : j < N) : ∃ v, W.cell? ⟨g, j, none⟩ = some v ∧ W.frozen? ⟨g, j, none⟩ = false := by
 have e := World.ownsRow.cellAt h j (by omega)
 have l : xs.length = N := by have := h.1; omega
 have f := World.ownsRow.frozenAt h j
 exact ⟨xs[j]'(by omega), by rw [e]; simp, f⟩
theorem Row.put {W : World} {base g N : Nat} {xs : List Value} (h : Row W base g N xs) (j : Nat) (u : Value) : Row (W.setCell ⟨g, j, none⟩ u) base g N (xs.set j u) := (World.ownsRow.stored h j u).1
theorem Row.base {W : World} {base g N : Nat} {xs : List Value} (h : Row W base g N xs) : base ≤ g ∧ g < W.heap.size := by
 rcases h.2 with ⟨h', _⟩ | ⟨g', cap', cur, h', hb, hg, _⟩
 ·simp at h'
 ·simp only [Value.slice.injEq, Option.some.injEq, Addr.mk.injEq, and_true, true_and] at h'
  obtain ⟨rfl, _⟩ := h'
  exact ⟨hb, (Array.getElem?_eq_some_iff.1 hg).1⟩
theorem set_keep {xs : List Value} {f : Nat → Value} {k N : Nat} (hN : xs.length = N) (hk : k < N) (h : ∀ j, j < k → xs[j]? = some (f j)) : ∀ j, j < k + 1 → (xs.set k (f k))[j]? = some (f j) := by
 intro j hj
 rw [List.getElem?_set]
 by_cases e : k = j
 ·subst e; simp; omega
 ·rw [if_neg e]; exact h j (by omega)
theorem set_other {xs : List Value} {f : Nat → Value} {k m : Nat} (u : Value) (hm : m ≤ k) (h : ∀ j, j < m → xs[j]? = some (f j)) : ∀ j, j < m → (xs.set k u)[j]? = some (f j) := by
 intro j hj
 rw [List.getElem?_set, if_neg (by omega)]
 exact h j hj
theorem Row.cells {W : World} {base g N : Nat} {xs : List Value} (h : Row W base g N xs) (j : Nat) (hj : j < N) {v : Value} (e : xs[j]? = some v) : W.cell? ⟨g, j, none⟩ = some v := (World.ownsRow.cellAt h j (by omega)).trans e
set_option maxRecDepth 100000 in
theorem handu_some (b off n c : Nat) (zs : Nat → Nat) (w : World) (hn : n ≤ 17592186043904) (hb : b < w.heap.size) (hu : ∀ j, j < n → w.cell? ⟨b, off + j, none⟩ = some (.int .u64 (zs j : Int))) :
    Calls Tryz.prog 77 #[.slice (some ⟨b, off, none⟩) n c] w fun e W' => ∃ g, e = .returned (.slice (some ⟨g, 0, none⟩) n (n + 9)) ∧ w.heap.size ≤ g ∧ g < W'.heap.size ∧ Handed W' g n zs ∧ Below w.heap.size w W' := by
 obtain ⟨i0, hi, hz0, hz1, hz2⟩ := info_parts infoU
 have HU := keepH hu
 clear hu
 go_enter Tryz.func77, Tryz.ntmps77
 go_wp2_with (at_make; refine wpList_make_full _ rfl _ _ 33 rfl w.heap.size 30 i0 (.int .u64 0) 1 Tryz.underlying33 hi hz0 hz1 .i64 .i64 _ _ (n + 9) rfl rfl (by omega) (by omega) (by rw [hz2]; omega) (by unfold maxLen; omega) (Nat.le_refl _) ?_; intro w1 hown1 hgrow1)
 have R1 : Row w1 w.heap.size w.heap.size (n + 9) _ := hown1
 have B1 : Below w.heap.size w w1 := (Below.refl _ w).grown hgrow1 (Nat.le_refl _) (fun j ej => by cases ej)
 clear hown1 hgrow1
 go_loopw [4] (fun i wr => ∃ (k : Nat) (xs : List Value), k ≤ n ∧ i = .int .i64 k ∧ Hid (Row wr w.heap.size w.heap.size (n + 9) xs) ∧ Hid (∀ j, j < k → xs[j]? = some (.int .u64 (zs j : Int))) ∧ Below w.heap.size w wr) (fun i _ => n - (intOf i).toNat)
 case atStart => exact ⟨0, _, by omega, rfl, R1, fun j hj => by omega, B1⟩
 case round =>
  obtain ⟨k, xs, hk, rfl, HR, HX, hB⟩ := hrel
  by_cases hlt : k < n
  ·obtain ⟨v0, c0, f0⟩ := HR.out.at k (by omega)
   have x1 : wr.cell? ⟨b, off + k, none⟩ = some (.int .u64 (zs k : Int)) := (hB.cell (p := ⟨b, off + k, none⟩) hb).trans (HU.out k hlt)
   have i1 : (k : Int) < (n : Int) := by omega
   have hl : xs.length = n + 9 := by have := HR.out.1; omega
   go_wp2
   go_roundw
   case rel => exact ⟨k + 1, _, by omega, by go_num, HR.out.put k (.int .u64 (zs k : Int)), set_keep (f := fun j => .int .u64 (zs j : Int)) hl (by omega) HX.out, hB.setCell (p := ⟨w.heap.size, k, none⟩) (Nat.le_refl _) _⟩
   case measure => simp [intOf]; omega
  ·obtain rfl : k = n := by omega
   have HX0 := HX
   go_wp2
   go_loopw [5] (fun i wr => ∃ (m : Nat) (xs : List Value), m ≤ 9 ∧ i = .int .i64 ((k : Int) + (m : Int)) ∧ Hid (Row wr w.heap.size w.heap.size (k + 9) xs) ∧ Hid (∀ j, j < k → xs[j]? = some (.int .u64 (zs j : Int))) ∧ Hid (∀ j, j < m → xs[k + j]? = some (.int .u64 (2305843009213693952 + (j : Int)))) ∧ Below w.heap.size w wr) (fun i _ => k + 9 - (intOf i).toNat)
   case atStart => exact ⟨0, _, by omega, by simp, HR, HX0, fun j hj => by omega, hB⟩
   case round =>
    obtain ⟨m, ys, hm, rfl, HS, HY, HZ, hC⟩ := hrel
    by_cases hlt2 : m < 9
    ·obtain ⟨v0, c0, f0⟩ := HS.out.at (k + m) (by omega)
     have i1 : (k : Int) + (m : Int) < (k : Int) + 9 := by omega
     have hl : ys.length = k + 9 := by have := HS.out.1; omega
     go_wp2
     go_roundw
     case rel =>
      refine ⟨m + 1, _, by omega, by go_num, HS.out.put (k + m) _, set_other _ (by omega) HY.out, fun j hj => ?_, hC.setCell (p := ⟨w.heap.size, k + m, none⟩) (Nat.le_refl _) _⟩
      rw [List.getElem?_set]
      by_cases e : m = j
      ·subst e
       rw [if_pos rfl, if_pos (by omega)]
       exact congrArg (fun z : Int => some (Value.int .u64 z)) (by omega)
      ·rw [if_neg (by omega)]
       exact HZ.out j (by omega)
     case measure => simp [intOf]; omega
    ·obtain rfl : m = 9 := by omega
     go_wp2
     go_ret
     exact ⟨w.heap.size, rfl, Nat.le_refl _, HS.out.base.2, ⟨fun j hj => HS.out.cells j (by omega) (HY.out j hj), fun j hj => HS.out.cells (k + j) (by omega) (HZ.out j hj)⟩, hC⟩
set_option maxRecDepth 100000 in
theorem handu_zero (p : Option Addr) (c : Nat) (zs : Nat → Nat) (w : World) :
    Calls Tryz.prog 77 #[.slice p 0 c] w fun e W' => ∃ g, e = .returned (.slice (some ⟨g, 0, none⟩) 0 9) ∧ w.heap.size ≤ g ∧ g < W'.heap.size ∧ Handed W' g 0 zs ∧ Below w.heap.size w W' := by
 obtain ⟨i0, hi, hz0, hz1, hz2⟩ := info_parts infoU
 go_enter Tryz.func77, Tryz.ntmps77
 go_wp2_with (at_make; refine wpList_make_full _ rfl _ _ 33 rfl w.heap.size 30 i0 (.int .u64 0) 1 Tryz.underlying33 hi hz0 hz1 .i64 .i64 _ _ 9 rfl rfl (by omega) (by omega) (by rw [hz2]; omega) (by unfold maxLen; omega) (Nat.le_refl _) ?_; intro w1 hown1 hgrow1)
 have R1 : Row w1 w.heap.size w.heap.size 9 _ := hown1
 have B1 : Below w.heap.size w w1 := (Below.refl _ w).grown hgrow1 (Nat.le_refl _) (fun j ej => by cases ej)
 clear hown1 hgrow1
 go_loopw [4] (fun i wr => i = .int .i64 0 ∧ wr = w1) (fun _ _ => 0)
 case atStart => exact ⟨rfl, rfl⟩
 case round =>
  obtain ⟨rfl, rfl⟩ := hrel
  have HR := keepH R1
  have hB := B1
  have HX := keepH (show ∀ j, j < 0 → (madeCells (Value.int .u64 0).cells ((0 + 9) * 1)).toList[j]? = some (.int .u64 (zs j : Int)) from fun j hj => by omega)
  clear R1 B1
  have HX0 := HX
  go_wp2
  go_loopw [5] (fun i wr => ∃ (m : Nat) (xs : List Value), m ≤ 9 ∧ i = .int .i64 ((m : Int)) ∧ Hid (Row wr w.heap.size w.heap.size 9 xs) ∧ Hid (∀ j, j < 0 → xs[j]? = some (.int .u64 (zs j : Int))) ∧ Hid (∀ j, j < m → xs[j]? = some (.int .u64 (2305843009213693952 + (j : Int)))) ∧ Below w.heap.size w wr) (fun i _ => 9 - (intOf i).toNat)
  case atStart => exact ⟨0, _, by omega, by simp, HR, HX0, fun j hj => by omega, hB⟩
  case round =>
   obtain ⟨m, ys, hm, rfl, HS, HY, HZ, hC⟩ := hrel
   by_cases hlt2 : m < 9
   ·obtain ⟨v0, c0, f0⟩ := HS.out.at m (by omega)
    have i1 : (m : Int) < 9 := by omega
    have hl : ys.length = 9 := by have := HS.out.1; omega
    go_wp2
    go_roundw
    case rel =>
     refine ⟨m + 1, _, by omega, by go_num, HS.out.put m _, set_other _ (by omega) HY.out, fun j hj => ?_, hC.setCell (p := ⟨w.heap.size, m, none⟩) (Nat.le_refl _) _⟩
     rw [List.getElem?_set]
     by_cases e : m = j
     ·subst e
      rw [if_pos rfl, if_pos (by omega)]
      first | done | exact congrArg (fun z : Int => some (Value.int .u64 z)) (by omega)
     ·rw [if_neg (by omega)]
      exact HZ.out j (by omega)
    case measure => simp [intOf]; omega
   ·obtain rfl : m = 9 := by omega
    go_wp2
    go_ret
    exact ⟨w.heap.size, rfl, Nat.le_refl _, HS.out.base.2, ⟨fun j hj => HS.out.cells j (by omega) (HY.out j hj), fun j hj => HS.out.cells (0 + j) (by omega) (by rw [Nat.zero_add]; exact HZ.out j hj)⟩, hC⟩
theorem KeysAt.get {W W' : World} {p : Option Addr} {l : List Nat} (h : KeysAt W p l) (c : Chg (fun _ => False) W W') {i k : Nat} (hk : l[i]? = some k) : ∃ bk off, p = some ⟨bk, off, none⟩ ∧ W'.cell? ⟨bk, off + i, none⟩ = some (.int .u64 k) := by
 rcases h with rfl | ⟨bk, off, rfl, hb, h⟩
 ·simp at hk
 ·exact ⟨bk, off, rfl, cell_chg c (h i k hk).2 (fun x => x)⟩
theorem measN {i n : Nat} (h : i < n) : n - (intOf (.int .i64 ((i : Int) + 1))).toNat < n - (intOf (.int .i64 i)).toNat := by
 have e1 : (intOf (.int .i64 ((i : Int) + 1))).toNat = i + 1 := by show ((i : Int) + 1).toNat = i + 1; omega
 have e2 : (intOf (.int .i64 i)).toNat = i := by show ((i : Int)).toNat = i; omega
 rw [e1, e2]
 omega
set_option maxRecDepth 100000 in
theorem same_u (pa pb : Option Addr) (ca cb : Nat) (l : List Nat) (W : World) (hA : KeysAt W pa l) (hB : KeysAt W pb l) (hl : l.length ≤ 9223372036854775807) :
    Calls Tryz.prog 37 #[.slice pa l.length ca, .slice pb l.length cb] W fun e W' => e = .returned (.bool true) ∧ Chg (fun _ => False) W W' := by
 have HA := keepH hA
 have HB := keepH hB
 clear hA hB
 go_enter Tryz.func37, Tryz.ntmps37
 go_wp2_with fail
 go_loopw [5] (fun s wr => ∃ k : Nat, k ≤ l.length ∧ s = .int .i64 k ∧ Hid (Chg (fun _ => False) W wr)) (fun s _ => l.length - (intOf s).toNat)
 case atStart => exact ⟨0, Nat.zero_le _, rfl, Chg.refl _ _⟩
 case round =>
  obtain ⟨k, hk, rfl, HK⟩ := hrel
  by_cases hlt : k < l.length
  ·have t1 : (k : Int) < (l.length : Int) := by omega
   obtain ⟨x, hx⟩ : ∃ x, l[k]? = some x := ⟨l[k], List.getElem?_eq_getElem hlt⟩
   obtain ⟨bk, off, rfl, c0⟩ := HA.out.get HK.out hx
   obtain ⟨bk', off', rfl, c1⟩ := HB.out.get HK.out hx
   clear hx
   go_wp2_with fail
   (try (go_quiet (fail); go_wp2_with fail))
   go_roundw
   case rel => exact ⟨k + 1, by omega, by first | rfl | go_num, HK.out.trans (H := fun _ => False) ⟨rfl, rfl, rfl, Nat.le_refl _, fun _ _ _ => rfl⟩ (fun _ _ x => x) (fun _ _ x => x)⟩
   case measure => exact measN hlt
  ·have t1 : ¬ (k : Int) < (l.length : Int) := by omega
   go_wp2_with fail
   go_ret
   exact ⟨by simp, HK.out⟩
theorem Handed.keys {W : World} {g : Nat} {l : List Nat} (h : Handed W g l.length (fun j => l.getD j 0)) (hg : g < W.heap.size) (hs : ∀ k ∈ l, k < 18446744073709551616) : KeysAt W (some ⟨g, 0, none⟩) l := by
 refine .inr ⟨g, 0, rfl, hg, fun i x hx => ?_⟩
 have hl := (List.getElem?_eq_some_iff.1 hx).1
 have e := h.1 i hl
 simp only [List.getD_eq_getElem?_getD, hx] at e
 exact ⟨hs x (List.mem_of_getElem? hx), by simpa using e⟩
theorem Handed.chg {W X : World} {g n : Nat} {zs : Nat → Nat} {F : Nat → Prop} (h : Handed W g n zs) (c : Chg F W X) (hF : ¬ F g) : Handed X g n zs := ⟨fun j hj => cell_chg c (h.1 j hj) hF, fun j hj => cell_chg c (h.2 j hj) hF⟩
theorem KeysAt.small {W : World} {p : Option Addr} {l : List Nat} (h : KeysAt W p l) : ∀ k ∈ l, k < 18446744073709551616 := by
 rcases h with rfl | ⟨bk, off, rfl, hb, h⟩
 ·intro k hk; simp at hk
 ·intro k hk
  obtain ⟨i, hi⟩ := List.mem_iff_getElem?.1 hk
  exact (h i k hi).1
theorem chg_below0 {W W' : World} (h : Below W.heap.size W W') : Chg (fun _ => False) W W' := (chg_below h).mono (fun i hi x => by omega)
theorem hand_keys (p : Option Addr) (c : Nat) (zs : List Nat) (W : World) (h : KeysAt W p zs) (hn : zs.length ≤ 17592186043904) :
    Calls Tryz.prog 77 #[.slice p zs.length c] W fun e W' => ∃ g, e = .returned (.slice (some ⟨g, 0, none⟩) zs.length (zs.length + 9)) ∧ W.heap.size ≤ g ∧ g < W'.heap.size ∧ Handed W' g zs.length (fun j => zs.getD j 0) ∧ Chg (fun _ => False) W W' := by
 rcases h with rfl | ⟨bk, off, rfl, hb, h⟩
 ·refine (handu_zero p c (fun j => ([] : List Nat).getD j 0) W).mono ?_
  rintro e W' ⟨g, rfl, h1, h2, h3, h4⟩
  exact ⟨g, rfl, h1, h2, h3, chg_below0 h4⟩
 ·refine (handu_some bk off zs.length c (fun j => zs.getD j 0) W hn hb (fun j hj => (h j _ (by rw [List.getD_eq_getElem?_getD, List.getElem?_eq_getElem hj]; rfl)).2)).mono ?_
  rintro e W' ⟨g, rfl, h1, h2, h3, h4⟩
  exact ⟨g, rfl, h1, h2, h3, chg_below0 h4⟩
set_option maxRecDepth 100000 in
theorem kept_keys (g : Nat) (p : Option Addr) (c : Nat) (zs : List Nat) (w : World) (hh : Handed w g zs.length (fun j => zs.getD j 0)) (hg : g < w.heap.size) (h : KeysAt w p zs) (hn : zs.length ≤ 17592186043904) :
    Calls Tryz.prog 82 #[.slice (some ⟨g, 0, none⟩) zs.length (zs.length + 9), .slice p zs.length c] w fun e W' => e = .returned (.bool true) ∧ Chg (fun _ => False) w W' := by
 have HS := keepH (same_u (some ⟨g, 0, none⟩) p (zs.length + 9) c zs w (Handed.keys hh hg h.small) h (by omega))
 obtain ⟨n, hnn⟩ : ∃ n, n = zs.length := ⟨_, rfl⟩
 rw [← hnn] at hh hn HS ⊢
 have HH := keepH hh
 clear hh h hnn hg
 go_enter Tryz.func82, Tryz.ntmps82
 go_wp2_with fail
 refine HS.out.mono ?_
 rintro e w1 ⟨rfl, C1⟩
 have H1 : Hid (∀ j, j < 9 → w1.cell? ⟨g, n + j, none⟩ = some (.int .u64 (2305843009213693952 + (j : Int)))) := fun j hj => cell_chg C1 (HH.out.2 j hj) (fun x => x)
 have HC := keepH C1
 clear C1
 go_wp2_with fail
 go_loopw [6] (fun i wr => ∃ m : Nat, m ≤ 9 ∧ i = .int .i64 ((n : Int) + (m : Int)) ∧ wr = w1) (fun i _ => n + 9 - (intOf i).toNat)
 case atStart => exact ⟨0, by omega, by simp, rfl⟩
 case round =>
  obtain ⟨m, hm, rfl, hw⟩ := hrel
  subst hw
  by_cases hlt : m < 9
  ·have x1 := H1.out m hlt
   have e0 : (2305843009213693952 : Int) + ((n : Int) + (m : Int)) - (n : Int) = 2305843009213693952 + (m : Int) := by omega
   have i1 : (n : Int) + (m : Int) < (n : Int) + 9 := by omega
   go_wp2_with fail
   go_roundw
   case rel => exact ⟨m + 1, by omega, by go_num, (by first | rfl | trivial)⟩
   case measure => simp [intOf]; omega
  ·obtain rfl : m = 9 := by omega
   go_wp2_with fail
   go_ret
   exact ⟨by simp, HC.out⟩
def RowS (W : World) (base g : Nat) (e : TypeId) (s N : Nat) (xs : List Value) : Prop := W.ownsRow base e s (.slice (some ⟨g, 0, none⟩) N N) N xs
def putL (xs : List Value) : Nat → List Value → List Value
 | _, [] => xs
 | o, v :: vs => putL (xs.set o v) (o + 1) vs
theorem putL_len (vs : List Value) : ∀ (o : Nat) (xs : List Value), (putL xs o vs).length = xs.length := by
 induction vs with
 | nil => intro o xs; rfl
 | cons v vs ih => intro o xs; simp [putL, ih]
theorem putL_out (vs : List Value) : ∀ (o : Nat) (xs : List Value) (j : Nat), (j < o ∨ o + vs.length ≤ j) → (putL xs o vs)[j]? = xs[j]? := by
 induction vs with
 | nil => intro o xs j h; rfl
 | cons v vs ih =>
  intro o xs j h
  rw [putL, ih (o + 1) (xs.set o v) j (by simp at h; omega), List.getElem?_set, if_neg (by simp at h; omega)]
theorem putL_in (vs : List Value) : ∀ (o : Nat) (xs : List Value) (j : Nat) (u : Value), vs[j]? = some u → o + vs.length ≤ xs.length → (putL xs o vs)[o + j]? = some u := by
 induction vs with
 | nil => intro o xs j u h; simp at h
 | cons v vs ih =>
  intro o xs j u h hl
  simp at hl
  rw [putL]
  cases j with
  | zero =>
   simp at h
   subst h
   rw [putL_out vs (o + 1) _ (o + 0) (by omega), Nat.add_zero, List.getElem?_set_self (by omega)]
  | succ j =>
   have := ih (o + 1) (xs.set o v) j u (by simpa using h) (by simp; omega)
   rw [← this]
   congr 1
   omega
theorem RowS.puts {base g : Nat} {e : TypeId} {s N : Nat} (vs : List Value) : ∀ (o : Nat) (xs : List Value) (W : World), RowS W base g e s N xs → RowS (W.setCells g o vs) base g e s N (putL xs o vs) := by
 induction vs with
 | nil => intro o xs W h; exact h
 | cons v vs ih => intro o xs W h; exact ih (o + 1) (xs.set o v) (W.setCell ⟨g, o, none⟩ v) (World.ownsRow.stored h o v).1
theorem RowS.len {W : World} {base g : Nat} {e : TypeId} {s N : Nat} {xs : List Value} (h : RowS W base g e s N xs) : xs.length = N * s := h.1
theorem RowS.cell {W : World} {base g : Nat} {e : TypeId} {s N : Nat} {xs : List Value} (h : RowS W base g e s N xs) (j : Nat) (hj : j < N * s) : W.cell? ⟨g, j, none⟩ = xs[j]? := World.ownsRow.cellAt h j hj
theorem RowS.there {W : World} {base g : Nat} {e : TypeId} {s N : Nat} {xs : List Value} (h : RowS W base g e s N xs) (o k : Nat) (hk : o + k ≤ N * s) : W.there g o k := fun j hj => by
 refine ⟨?_, World.ownsRow.frozenAt h (o + j)⟩
 rw [h.cell (o + j) (by omega), List.getElem?_eq_getElem (by have := h.len; omega)]
 rfl
theorem RowS.lt {W : World} {base g : Nat} {e : TypeId} {s N : Nat} {xs : List Value} (h : RowS W base g e s N xs) : base ≤ g ∧ g < W.heap.size := by
 rcases h.2 with ⟨h', _⟩ | ⟨g', cap', cur, h', hb, hg, _⟩
 ·simp at h'
 ·simp only [Value.slice.injEq, Option.some.injEq, Addr.mk.injEq, and_true, true_and] at h'
  obtain ⟨rfl, _⟩ := h'
  exact ⟨hb, (Array.getElem?_eq_some_iff.1 hg).1⟩
theorem RowS.chg {F : Nat → Prop} {W W' : World} {base g : Nat} {e : TypeId} {s N : Nat} {xs : List Value} (h : RowS W base g e s N xs) (c : Chg F W W') (hn : ¬ F g) : RowS W' base g e s N xs := by
 obtain ⟨hl, h2⟩ := h
 rcases h2 with ⟨h', _⟩ | ⟨g', cap', cur, h', hb, hg, r⟩
 ·simp at h'
 ·simp only [Value.slice.injEq, Option.some.injEq, Addr.mk.injEq, and_true, true_and] at h'
  obtain ⟨rfl, rfl⟩ := h'
  exact ⟨hl, .inr ⟨g, N, cur, rfl, hb, (c.block g (Array.getElem?_eq_some_iff.1 hg).1 hn).trans hg, r⟩⟩
theorem setsChg (g o : Nat) (vs : List Value) (W : World) : Chg (fun k => k = g) W (W.setCells g o vs) := setCells_chg g vs o W
structure HandedP (W : World) (g : Nat) (l : List (Nat × Nat)) : Prop where
 cs : ∀ (i k x : Nat), l[i]? = some (k, x) → W.cell? ⟨g, i * 2, none⟩ = some (.int .u64 k) ∧ W.cell? ⟨g, i * 2 + 1, none⟩ = some (.int .u64 x)
 mks : ∀ j, j < 9 → W.cell? ⟨g, (l.length + j) * 2, none⟩ = some (.int .u64 (2305843009213693952 + (j : Int))) ∧ W.cell? ⟨g, (l.length + j) * 2 + 1, none⟩ = some (.int .u64 0)
theorem HandedP.chg {F : Nat → Prop} {W X : World} {g : Nat} {l : List (Nat × Nat)} (h : HandedP W g l) (c : Chg F W X) (hF : ¬ F g) : HandedP X g l :=
 ⟨fun i k x hx => ⟨cell_chg c (h.cs i k x hx).1 hF, cell_chg c (h.cs i k x hx).2 hF⟩, fun j hj => ⟨cell_chg c (h.mks j hj).1 hF, cell_chg c (h.mks j hj).2 hF⟩⟩
theorem PairsAt.small {W : World} {p : Option Addr} {l : List (Nat × Nat)} (h : PairsAt W p l) : ∀ (i k x : Nat), l[i]? = some (k, x) → k < 18446744073709551616 ∧ x < 18446744073709551616 := by
 rcases h with rfl | ⟨bk, off, rfl, hb, h⟩
 ·intro i k x hx; simp at hx
 ·intro i k x hx; exact ⟨(h i k x hx).1, (h i k x hx).2.1⟩
theorem HandedP.pairs {W : World} {g : Nat} {l : List (Nat × Nat)} (h : HandedP W g l) (hg : g < W.heap.size) (hs : ∀ (i k x : Nat), l[i]? = some (k, x) → k < 18446744073709551616 ∧ x < 18446744073709551616) : PairsAt W (some ⟨g, 0, none⟩) l :=
 .inr ⟨g, 0, rfl, hg, fun i k x hx => ⟨(hs i k x hx).1, (hs i k x hx).2, by simpa using (h.cs i k x hx).1, by simpa using (h.cs i k x hx).2⟩⟩
structure HP (W wr : World) (g N : Nat) (l : List (Nat × Nat)) (k m : Nat) (xs : List Value) : Prop where
 row : RowS wr W.heap.size g 86 2 N xs
 cs : ∀ (i a b : Nat), i < k → l[i]? = some (a, b) → xs[i * 2]? = some (.int .u64 a) ∧ xs[i * 2 + 1]? = some (.int .u64 b)
 mks : ∀ j, j < m → xs[(l.length + j) * 2]? = some (.int .u64 (2305843009213693952 + (j : Int))) ∧ xs[(l.length + j) * 2 + 1]? = some (.int .u64 0)
 chg : Chg (fun _ => False) W wr
theorem HP.put {W wr : World} {g N : Nat} {l : List (Nat × Nat)} {k : Nat} {xs : List Value} (h : HP W wr g N l k 0 xs) {a b : Nat} (hk : l[k]? = some (a, b)) (hN : k < N) (hg : W.heap.size ≤ g) : HP W (wr.setCells g (k * 2) [.int .u64 a, .int .u64 b]) g N l (k + 1) 0 (putL xs (k * 2) [.int .u64 a, .int .u64 b]) := by
 have hl := h.row.len
 refine ⟨h.row.puts _ _ _, fun i c d hi hx => ?_, fun j hj => by omega, h.chg.trans (setsChg g _ _ _) (fun _ _ x => x) (fun i hi e => by omega)⟩
 by_cases e : i = k
 ·subst e
  rw [hk] at hx
  injection hx with hx
  injection hx with h1 h2
  subst h1 h2
  exact ⟨putL_in _ (i * 2) xs 0 _ rfl (by simp; omega), putL_in _ (i * 2) xs 1 _ rfl (by simp; omega)⟩
 ·obtain ⟨q1, q2⟩ := h.cs i c d (by omega) hx
  rw [putL_out _ _ _ _ (.inl (by omega)), putL_out _ _ _ _ (.inl (by omega))]
  exact ⟨q1, q2⟩
theorem HP.mark {W wr : World} {g N : Nat} {l : List (Nat × Nat)} {m : Nat} {xs : List Value} (h : HP W wr g N l l.length m xs) (hN : N = l.length + 9) (hm : m < 9) (hg : W.heap.size ≤ g) : HP W (wr.setCells g ((l.length + m) * 2) [.int .u64 (2305843009213693952 + (m : Int)), .int .u64 0]) g N l l.length (m + 1) (putL xs ((l.length + m) * 2) [.int .u64 (2305843009213693952 + (m : Int)), .int .u64 0]) := by
 have hl := h.row.len
 refine ⟨h.row.puts _ _ _, fun i c d hi hx => ?_, fun j hj => ?_, h.chg.trans (setsChg g _ _ _) (fun _ _ x => x) (fun i hi e => by omega)⟩
 ·obtain ⟨q1, q2⟩ := h.cs i c d hi hx
  rw [putL_out _ _ _ _ (.inl (by omega)), putL_out _ _ _ _ (.inl (by omega))]
  exact ⟨q1, q2⟩
 ·by_cases e : j = m
  ·subst e
   exact ⟨putL_in _ ((l.length + j) * 2) xs 0 _ rfl (by simp; omega), putL_in _ ((l.length + j) * 2) xs 1 _ rfl (by simp; omega)⟩
  ·obtain ⟨q1, q2⟩ := h.mks j (by omega)
   rw [putL_out _ _ _ _ (.inl (by omega)), putL_out _ _ _ _ (.inl (by omega))]
   exact ⟨q1, q2⟩
set_option maxRecDepth 100000 in
theorem hand_pairs (p : Option Addr) (c : Nat) (l : List (Nat × Nat)) (w : World) (h : PairsAt w p l) (hn : l.length ≤ 8796093021952) :
    Calls Tryz.prog 78 #[.slice p l.length c] w fun e W' => ∃ g, e = .returned (.slice (some ⟨g, 0, none⟩) l.length (l.length + 9)) ∧ w.heap.size ≤ g ∧ g < W'.heap.size ∧ HandedP W' g l ∧ Chg (fun _ => False) w W' := by
 obtain ⟨i0, hi, hz0, hz1, hz2⟩ := info_parts infoPair
 have HPA := keepH h
 clear h
 go_enter Tryz.func78, Tryz.ntmps78
 go_wp2_with (at_make; refine wpList_make_full _ rfl _ _ 37 rfl w.heap.size 86 i0 (.agg #[.int .u64 0, .int .u64 0]) 2 Tryz.underlying37 hi hz0 hz1 .i64 .i64 _ _ (l.length + 9) rfl rfl (by omega) (by omega) (by rw [hz2]; omega) (by unfold maxLen; omega) (Nat.le_refl _) ?_; intro w1 hown1 hgrow1)
 have HI : Hid (∃ xs, HP w w1 w.heap.size (l.length + 9) l 0 0 xs) := ⟨_, hown1, fun i a b hi => by omega, fun j hj => by omega, grown_chg hgrow1 (fun k e => by cases e)⟩
 clear hown1 hgrow1
 go_loopw [4] (fun s wr => ∃ k : Nat, k ≤ l.length ∧ s = .int .i64 k ∧ Hid (∃ xs, HP w wr w.heap.size (l.length + 9) l k 0 xs)) (fun s _ => l.length - (intOf s).toNat)
 case atStart => exact ⟨0, Nat.zero_le _, rfl, HI⟩
 case round =>
  clear HI
  obtain ⟨k, hk, rfl, HK⟩ := hrel
  by_cases hlt : k < l.length
  ·have t1 : (k : Int) < (l.length : Int) := by omega
   have t2 : (k : Int) < (l.length : Int) + 9 := by omega
   obtain ⟨⟨a, b⟩, hx⟩ : ∃ x, l[k]? = some x := ⟨l[k], List.getElem?_eq_getElem hlt⟩
   obtain ⟨xs, hxs⟩ := HK.out
   obtain ⟨bk, off, rfl, _, _, c0, c1⟩ := HPA.out.get hxs.chg k a b hx
   have HTH := keepH (hxs.row.there (k * 2) 2 (by omega))
   have HN := keepH (hxs.put hx (by omega) (Nat.le_refl _))
   clear hx hxs
   go_wp2_with (refine wpList_store_mid rfl 86 (.tmp 22) (.tmp 21) rfl w.heap.size (k * 2) #[.int .u64 a, .int .u64 b] (by first | rfl | simp) rfl HTH.out (by kernel_rfl) (by kernel_rfl) ?_)
   go_roundw
   case rel => exact ⟨k + 1, by omega, by first | rfl | go_num, ⟨_, HN.out⟩⟩
   case measure => exact measN hlt
  ·have t1 : ¬ (k : Int) < (l.length : Int) := by omega
   obtain rfl : k = l.length := by omega
   go_wp2_with fail
   go_loopw [5] (fun s wr => ∃ m : Nat, m ≤ 9 ∧ s = .int .i64 ((l.length : Int) + (m : Int)) ∧ Hid (∃ xs, HP w wr w.heap.size (l.length + 9) l l.length m xs)) (fun s _ => l.length + 9 - (intOf s).toNat)
   case atStart => exact ⟨0, by omega, by simp, HK⟩
   case round =>
    obtain ⟨m, hm, rfl, HM⟩ := hrel
    by_cases hlt2 : m < 9
    ·have t2 : (l.length : Int) + (m : Int) < (l.length : Int) + 9 := by omega
     obtain ⟨xs, hxs⟩ := HM.out
     have HTH := keepH (hxs.row.there ((l.length + m) * 2) 2 (by omega))
     have HN := keepH (hxs.mark rfl hlt2 (Nat.le_refl _))
     clear hxs
     have e0 : (2305843009213693952 : Int) + ((l.length : Int) + (m : Int)) - (l.length : Int) = 2305843009213693952 + (m : Int) := by omega
     go_wp2_with (refine wpList_store_mid rfl 86 (.tmp 40) (.tmp 39) rfl w.heap.size ((l.length + m) * 2) #[.int .u64 (2305843009213693952 + (m : Int)), .int .u64 0] (by first | rfl | simp) (by first | rfl | simp) HTH.out (by kernel_rfl) (by kernel_rfl) ?_)
     go_roundw
     case rel => exact ⟨m + 1, by omega, by first | rfl | go_num, ⟨_, HN.out⟩⟩
     case measure => simp [intOf]; omega
    ·obtain rfl : m = 9 := by omega
     have t2 : ¬ (l.length : Int) + 9 < (l.length : Int) + 9 := by omega
     go_wp2_with fail
     go_ret
     obtain ⟨xs, hxs⟩ := HM.out
     refine ⟨w.heap.size, by simp, Nat.le_refl _, hxs.row.lt.2, ⟨fun i a b hx => ?_, fun j hj => ?_⟩, hxs.chg⟩
     ·have hi := (List.getElem?_eq_some_iff.1 hx).1
      rw [hxs.row.cell _ (by omega), hxs.row.cell _ (by omega)]
      exact hxs.cs i a b hi hx
     ·rw [hxs.row.cell _ (by omega), hxs.row.cell _ (by omega)]
      exact hxs.mks j hj
end Go.Proofs.YtahgaghokpicgaaGreat
namespace Go.Proofs.YtahgaghokpicgaaGreat
open Go.RowKit Go.Maps
set_option linter.unusedVariables false
set_option maxHeartbeats 16000000
set_option maxRecDepth 100000 in
theorem s_pairs (pa pb : Option Addr) (ca cb : Nat) (la lb : List (Nat × Nat)) (W : World) (hA : PairsAt W pa la) (hB : PairsAt W pb lb) (hla : la.length ≤ 17592186044416) (hlb : lb.length ≤ 17592186044416) :
    Calls Tryz.prog 35 #[.slice pa la.length ca, .slice pb lb.length cb] W fun e W' => e = .returned (.bool (decide (la = lb))) ∧ Chg (fun _ => False) W W' := by
 have HA := keepH hA
 have HB := keepH hB
 clear hA hB
 by_cases hl : la.length = lb.length
 ·have d1 : decide (la.length = lb.length) = true := decide_eq_true hl
  have b1 : ((la.length : Int) != (lb.length : Int)) = false := by rw [hl]; simp
  go_enter Tryz.func35, Tryz.ntmps35
  go_wp2_with fail
  go_loopw [5] (fun s wr => ∃ k : Nat, k ≤ la.length ∧ s = .int .i64 k ∧ Hid ((∀ j, j < k → la[j]? = lb[j]?) ∧ Chg (fun _ => False) W wr)) (fun s _ => la.length - (intOf s).toNat)
  case atStart => exact ⟨0, by omega, rfl, keepH ⟨fun j h => absurd h (by omega), Chg.refl _ _⟩⟩
  case round =>
   obtain ⟨k, hk, rfl, HK⟩ := hrel
   by_cases hlt : k < la.length
   ·have t1 : (k : Int) < (la.length : Int) := by omega
    have t2 : (k : Int) < (lb.length : Int) := by omega
    obtain ⟨⟨a, b⟩, hx⟩ : ∃ x, la[k]? = some x := ⟨la[k], List.getElem?_eq_getElem hlt⟩
    obtain ⟨⟨c, d⟩, hy⟩ : ∃ x, lb[k]? = some x := ⟨lb[k], List.getElem?_eq_getElem (by omega)⟩
    obtain ⟨bk, off, rfl, ba, bb, c0, c1⟩ := HA.out.get HK.out.2 k a b hx
    obtain ⟨bk', off', rfl, bc, bd, d0, d1'⟩ := HB.out.get HK.out.2 k c d hy
    have hpn := pair_neq a b c d ba bb bc bd
    have HX : Hid (la[k]? = some (a, b) ∧ lb[k]? = some (c, d)) := ⟨hx, hy⟩
    clear hx hy
    by_cases e : (a, b) = (c, d)
    ·have dd : decide ((a, b) = (c, d)) = true := decide_eq_true e
     rw [dd] at hpn
     have HE := keepH e
     clear dd e
     go_wp2_with fail
     go_quiet (fail)
     go_wp2_with fail
     go_roundw
     case rel => exact ⟨k + 1, by omega, by first | rfl | go_num, keepH ⟨fun j hj => by
      by_cases z : j = k
      ·subst z; rw [HX.out.1, HX.out.2, HE.out]
      ·exact HK.out.1 j (by omega), HK.out.2.trans (H := fun _ => False) ⟨rfl, rfl, rfl, Nat.le_refl _, fun _ _ _ => rfl⟩ (fun _ _ x => x) (fun _ _ x => x)⟩⟩
     case measure => simp [intOf]; omega
    ·have dd : decide ((a, b) = (c, d)) = false := decide_eq_false e
     rw [dd] at hpn
     have HE := keepH e
     clear dd e
     go_wp2_with fail
     go_quiet (fail)
     go_wp2_with fail
     go_ret
     have hne : ¬ la = lb := fun z => HE.out (by have q1 := HX.out.1; rw [z, HX.out.2] at q1; simpa using q1.symm)
     exact ⟨by simp [hne], HK.out.2.trans (H := fun _ => False) ⟨rfl, rfl, rfl, Nat.le_refl _, fun _ _ _ => rfl⟩ (fun _ _ x => x) (fun _ _ x => x)⟩
   ·obtain rfl : k = la.length := by omega
    have t1 : ¬ (la.length : Int) < (la.length : Int) := by omega
    go_wp2_with fail
    go_ret
    have he : la = lb := by
     apply List.ext_getElem?
     intro j
     by_cases z : j < la.length
     ·exact HK.out.1 j z
     ·rw [List.getElem?_eq_none (by omega), List.getElem?_eq_none (by omega)]
    exact ⟨by simp [he], HK.out.2⟩
 ·have d1 : decide (la.length = lb.length) = false := decide_eq_false hl
  have b1 : ((la.length : Int) != (lb.length : Int)) = true := bne_iff_ne.2 (by omega)
  have hne : ¬ la = lb := fun z => hl (by rw [z])
  have HNE := keepH hne
  clear hne
  go_enter Tryz.func35, Tryz.ntmps35
  go_wp2_with fail
  go_ret
  exact ⟨by simp [HNE.out], Chg.refl _ _⟩
set_option maxRecDepth 100000 in
theorem s_same (e1 e2 : Int) (f1 f2 d1 d2 : Bool) (x1 x2 h1 h2 n1 n2 : Nat) (p1 p2 : Option Addr) (c1 c2 : Nat) (l1 l2 : List (Nat × Nat)) (W : World) (hA : PairsAt W p1 l1) (hB : PairsAt W p2 l2) (hla : l1.length ≤ 17592186044416) (hlb : l2.length ≤ 17592186044416) :
    Calls Tryz.prog 29 #[.agg #[.int .i64 e1, .bool f1, .int .u64 x1, .bool d1, .int .u64 h1, .slice p1 l1.length c1, .int .u64 n1], .agg #[.int .i64 e2, .bool f2, .int .u64 x2, .bool d2, .int .u64 h2, .slice p2 l2.length c2, .int .u64 n2]] W fun e W' => e = .returned (.bool (decide ((⟨e1, f1, x1, d1, h1, l1, n1⟩ : Ans) = ⟨e2, f2, x2, d2, h2, l2, n2⟩))) ∧ Chg (fun _ => False) W W' := by
 obtain ⟨w0, hw0⟩ : ∃ w0, w0 = (W.alloc (.cells #[.int .i64 e1, .bool f1, .int .u64 x1, .bool d1, .int .u64 h1, .slice p1 l1.length c1, .int .u64 n1] 39)).alloc (.cells #[.int .i64 e2, .bool f2, .int .u64 x2, .bool d2, .int .u64 h2, .slice p2 l2.length c2, .int .u64 n2] 39) := ⟨_, rfl⟩
 have C0 : Chg (fun _ => False) W w0 := by rw [hw0]; exact ((Chg.refl _ _).alloc _).alloc _
 have b1 : w0.heap[W.heap.size]? = some (.cells #[.int .i64 e1, .bool f1, .int .u64 x1, .bool d1, .int .u64 h1, .slice p1 l1.length c1, .int .u64 n1] 39 (0, 0)) := by rw [hw0]; exact alloc_of (heap_alloc_new _ _) _
 have b2 : w0.heap[W.heap.size + 1]? = some (.cells #[.int .i64 e2, .bool f2, .int .u64 x2, .bool d2, .int .u64 h2, .slice p2 l2.length c2, .int .u64 n2] 39 (0, 0)) := by
  rw [hw0]
  exact al2
 have r0 : w0.cell? ⟨W.heap.size, 0, none⟩ = some (.int .i64 e1) := cell_of b1 0
 have s0 : w0.cell? ⟨W.heap.size + 1, 0, none⟩ = some (.int .i64 e2) := cell_of b2 0
 have r1 : w0.cell? ⟨W.heap.size, 1, none⟩ = some (.bool f1) := cell_of b1 1
 have s1 : w0.cell? ⟨W.heap.size + 1, 1, none⟩ = some (.bool f2) := cell_of b2 1
 have r2 : w0.cell? ⟨W.heap.size, 2, none⟩ = some (.int .u64 x1) := cell_of b1 2
 have s2 : w0.cell? ⟨W.heap.size + 1, 2, none⟩ = some (.int .u64 x2) := cell_of b2 2
 have r3 : w0.cell? ⟨W.heap.size, 3, none⟩ = some (.bool d1) := cell_of b1 3
 have s3 : w0.cell? ⟨W.heap.size + 1, 3, none⟩ = some (.bool d2) := cell_of b2 3
 have r4 : w0.cell? ⟨W.heap.size, 4, none⟩ = some (.int .u64 h1) := cell_of b1 4
 have s4 : w0.cell? ⟨W.heap.size + 1, 4, none⟩ = some (.int .u64 h2) := cell_of b2 4
 have r5 : w0.cell? ⟨W.heap.size, 5, none⟩ = some (.slice p1 l1.length c1) := cell_of b1 5
 have s5 : w0.cell? ⟨W.heap.size + 1, 5, none⟩ = some (.slice p2 l2.length c2) := cell_of b2 5
 have r6 : w0.cell? ⟨W.heap.size, 6, none⟩ = some (.int .u64 n1) := cell_of b1 6
 have s6 : w0.cell? ⟨W.heap.size + 1, 6, none⟩ = some (.int .u64 n2) := cell_of b2 6
 have HP := keepH (s_pairs p1 p2 c1 c2 l1 l2 w0 (hA.chg C0) (hB.chg C0) hla hlb)
 have HC := keepH C0
 clear C0 b1 b2 hA hB
 go_enter Tryz.func29, Tryz.ntmps29
 go_upto_region 1 with fail
 rw [← hw0]
 clear hw0
 by_cases ze : e1 = e2
 ·have qe : (e1 == e2) = true := by rw [ze]; simp
  have te : decide (e1 = e2) = true := decide_eq_true ze
  by_cases zf : f1 = f2
  ·have qf : (f1 == f2) = true := by rw [zf]; simp
   have tf : decide (f1 = f2) = true := decide_eq_true zf
   by_cases zx : x1 = x2
   ·have qx : ((x1 : Int) == (x2 : Int)) = true := by rw [zx]; simp
    have tx : decide (x1 = x2) = true := decide_eq_true zx
    by_cases zd : d1 = d2
    ·have qd : (d1 == d2) = true := by rw [zd]; simp
     have td : decide (d1 = d2) = true := decide_eq_true zd
     by_cases zh : h1 = h2
     ·have qh : ((h1 : Int) == (h2 : Int)) = true := by rw [zh]; simp
      have th : decide (h1 = h2) = true := decide_eq_true zh
      by_cases zl : l1 = l2
      ·have tl : decide (l1 = l2) = true := decide_eq_true zl
       by_cases zn : n1 = n2
       ·have qn : ((n1 : Int) == (n2 : Int)) = true := by rw [zn]; simp
        have tn : decide (n1 = n2) = true := decide_eq_true zn
        have HZ := keepH (decide_eq_true (show (⟨e1, f1, x1, d1, h1, l1, n1⟩ : Ans) = ⟨e2, f2, x2, d2, h2, l2, n2⟩ by subst ze zf zx zd zh zl zn; rfl))
        clear ze zf zx zd zh zl zn
        go_wp2_with fail
        refine HP.out.mono ?_
        rintro e w1 ⟨rfl, C1⟩
        have HC1 : Hid (Chg (fun _ => False) W w1) := HC.out.trans C1 (fun _ _ x => x) (fun _ _ x => x)
        have r6b := cell_chg C1 r6 (fun x => x)
        have s6b := cell_chg C1 s6 (fun x => x)
        clear C1
        try rw [tl]
        go_wp2_with fail
        go_ret
        exact ⟨by rw [HZ.out]; first | rfl | simp, HC1.out⟩
       ·have qn : ((n1 : Int) == (n2 : Int)) = false := beq_eq_false_iff_ne.2 (by omega)
        have tn : decide (n1 = n2) = false := decide_eq_false zn
        have HZ := keepH (decide_eq_false (show ¬ (⟨e1, f1, x1, d1, h1, l1, n1⟩ : Ans) = ⟨e2, f2, x2, d2, h2, l2, n2⟩ by intro q; exact zn (by injection q)))
        clear ze zf zx zd zh zl zn
        go_wp2_with fail
        refine HP.out.mono ?_
        rintro e w1 ⟨rfl, C1⟩
        have HC1 : Hid (Chg (fun _ => False) W w1) := HC.out.trans C1 (fun _ _ x => x) (fun _ _ x => x)
        have r6b := cell_chg C1 r6 (fun x => x)
        have s6b := cell_chg C1 s6 (fun x => x)
        clear C1
        try rw [tl]
        go_wp2_with fail
        go_ret
        exact ⟨by rw [HZ.out]; first | rfl | simp, HC1.out⟩
      ·have tl : decide (l1 = l2) = false := decide_eq_false zl
       have HZ := keepH (decide_eq_false (show ¬ (⟨e1, f1, x1, d1, h1, l1, n1⟩ : Ans) = ⟨e2, f2, x2, d2, h2, l2, n2⟩ by intro q; exact zl (by injection q)))
       clear ze zf zx zd zh zl
       go_wp2_with fail
       refine HP.out.mono ?_
       rintro e w1 ⟨rfl, C1⟩
       have HC1 : Hid (Chg (fun _ => False) W w1) := HC.out.trans C1 (fun _ _ x => x) (fun _ _ x => x)
       have r6b := cell_chg C1 r6 (fun x => x)
       have s6b := cell_chg C1 s6 (fun x => x)
       clear C1
       try rw [tl]
       go_wp2_with fail
       go_ret
       exact ⟨by rw [HZ.out]; first | rfl | simp, HC1.out⟩
     ·have qh : ((h1 : Int) == (h2 : Int)) = false := beq_eq_false_iff_ne.2 (by omega)
      have th : decide (h1 = h2) = false := decide_eq_false zh
      have HZ := keepH (decide_eq_false (show ¬ (⟨e1, f1, x1, d1, h1, l1, n1⟩ : Ans) = ⟨e2, f2, x2, d2, h2, l2, n2⟩ by intro q; exact zh (by injection q)))
      clear ze zf zx zd zh
      go_wp2_with fail
      go_ret
      exact ⟨by rw [HZ.out]; first | rfl | simp, HC.out⟩
    ·have qd : (d1 == d2) = false := beq_eq_false_iff_ne.2 zd
     have td : decide (d1 = d2) = false := decide_eq_false zd
     have HZ := keepH (decide_eq_false (show ¬ (⟨e1, f1, x1, d1, h1, l1, n1⟩ : Ans) = ⟨e2, f2, x2, d2, h2, l2, n2⟩ by intro q; exact zd (by injection q)))
     clear ze zf zx zd
     go_wp2_with fail
     go_ret
     exact ⟨by rw [HZ.out]; first | rfl | simp, HC.out⟩
   ·have qx : ((x1 : Int) == (x2 : Int)) = false := beq_eq_false_iff_ne.2 (by omega)
    have tx : decide (x1 = x2) = false := decide_eq_false zx
    have HZ := keepH (decide_eq_false (show ¬ (⟨e1, f1, x1, d1, h1, l1, n1⟩ : Ans) = ⟨e2, f2, x2, d2, h2, l2, n2⟩ by intro q; exact zx (by injection q)))
    clear ze zf zx
    go_wp2_with fail
    go_ret
    exact ⟨by rw [HZ.out]; first | rfl | simp, HC.out⟩
  ·have qf : (f1 == f2) = false := beq_eq_false_iff_ne.2 zf
   have tf : decide (f1 = f2) = false := decide_eq_false zf
   have HZ := keepH (decide_eq_false (show ¬ (⟨e1, f1, x1, d1, h1, l1, n1⟩ : Ans) = ⟨e2, f2, x2, d2, h2, l2, n2⟩ by intro q; exact zf (by injection q)))
   clear ze zf
   go_wp2_with fail
   go_ret
   exact ⟨by rw [HZ.out]; first | rfl | simp, HC.out⟩
 ·have qe : (e1 == e2) = false := beq_eq_false_iff_ne.2 ze
  have te : decide (e1 = e2) = false := decide_eq_false ze
  have HZ := keepH (decide_eq_false (show ¬ (⟨e1, f1, x1, d1, h1, l1, n1⟩ : Ans) = ⟨e2, f2, x2, d2, h2, l2, n2⟩ by intro q; exact ze (by injection q)))
  clear ze
  go_wp2_with fail
  go_ret
  exact ⟨by rw [HZ.out]; first | rfl | simp, HC.out⟩
end Go.Proofs.YtahgaghokpicgaaGreat
