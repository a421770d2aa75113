/- The document's model: what it tells of itself, and what it keeps. -/
import Derived.Test.YtahgaghokpicgaaGreatW26D8e
import Derived.Laws.OwnMore
import Derived.Test.YtahgaghokpicgaaGreatW1MsL
import Derived.Test.YtahgaghokpicgaaGreatW4Pi
import Derived.Test.YtahgaghokpicgaaGreatW3MsW
import Derived.Deep.MidRow
import Derived.Deep.RegionHeld3
namespace Go.Proofs.YtahgaghokpicgaaGreat
open Go.RowKit Go.Maps
set_option linter.unusedVariables false
set_option maxHeartbeats 16000000
theorem RB.chg {A F : Nat → Prop} {W W' : World} {m : Nat} {mu : Int} {f : Nat → Option Nat} {pc : Nat → Option (Nat → Option Nat)} {n : Nat} (h : RB A W m mu f pc n) (c : Chg F W W') (hn : ∀ k, F k → ∀ cs t p, W.heap[k]? = some (.cells cs t p) → (t = 86 → A k) ∧ t ≠ 105 ∧ t ≠ 111) : RB A W' m mu f pc n := by
 obtain ⟨l, H, ⟨mv, hv, Z, h1, h2, h3, h4, h5⟩, r⟩ := h.ex
 have nr : ∀ {v : Value} {f : Nat → Option Nat} {l : List (Nat × Nat)}, (∀ b, v.ownBlock = some b → ¬ A b) → RL W v f l → RL W' v f l := fun {v f l} ha hr => hr.chg c (fun b hb x => by
  rcases hr.row.1.2 with ⟨e, _⟩ | ⟨g, cap, cur, e, _, hg, _⟩
  ·rw [e] at hb; cases hb
  ·have hb2 := hb
   rw [e] at hb
   injection hb with hb
   have hb : g = b := hb
   subst hb
   exact ha g hb2 ((hn g x _ _ _ hg).1 rfl))
 refine ⟨l, H, ⟨mv, hv, Z, ⟨(c.block m (lt_of h1.at_) (fun x => (hn m x _ _ _ h1.at_).2.1 rfl)).trans h1.at_, h1.row.chg c (fun b hb x => ?_)⟩, nr h5.1 h2, h3, fun z hz => nr (h5.2 z hz) (h4 z hz), h5⟩, r⟩
 rcases h1.row.1.2 with ⟨e, _⟩ | ⟨g, cap, cur, e, _, hg, _⟩
 ·rw [e] at hb; cases hb
 ·rw [e] at hb
  injection hb with hb
  have hb : g = b := hb
  subst hb
  exact (hn g x _ _ _ hg).2.2 rfl
theorem RB.less {A A' : Nat → Prop} {W : World} {m : Nat} {mu : Int} {f : Nat → Option Nat} {pc : Nat → Option (Nat → Option Nat)} {n : Nat} (h : RB A W m mu f pc n) (hA : ∀ b, A' b → A b) : RB A' W m mu f pc n := by
 obtain ⟨l, H, ⟨mv, hv, Z, h1, h2, h3, h4, h5⟩, r⟩ := h.ex
 exact ⟨l, H, ⟨mv, hv, Z, h1, h2, h3, h4, fun b hb x => h5.1 b hb (hA b x), fun z hz b hb x => h5.2 z hz b hb (hA b x)⟩, r⟩
theorem d_handles {A : Nat → Prop} {W : World} {m mu n : Nat} {f : Nat → Option Nat} {pc : Nat → Option (Nat → Option Nat)} (h : RB A W m mu f pc n) (hn : n ≤ 3000000) :
    Calls Tryz.prog 21 #[.pointer (some ⟨m, 0, none⟩)] W fun e W' => (∃ p c ss, e = .returned (.slice p ss.length c) ∧ HandlesOf pc ss ∧ ss.length ≤ n ∧ KeysAt W' p ss) ∧ Chg (fun _ => False) W W' := by
 obtain ⟨mv, hv, Z, l, h1, h2, h4, h5, hR, hz, rfl, hgl, hlZ⟩ := h.begin
 refine (hand_list h1 (by simp; omega)).mono ?_
 rintro e W' ⟨v, rfl, hs⟩
 have e1 : (Z.map (fun z => (z.1, z.2.1))).map (·.1) = Z.map (·.1) := by rw [List.map_map]; rfl
 rw [e1] at hs
 have hl := listU_of hs.row
 obtain ⟨p, c, rfl, hk, -⟩ := hl.keys (fun k hk => by
  obtain ⟨z, hz2, rfl⟩ := List.mem_map.1 hk
  exact (hz (z.1, z.2.2) (List.mem_map.2 ⟨z, hz2, rfl⟩)).1)
 refine ⟨⟨p, c, Z.map (·.1), rfl, ⟨?_, fun x => ?_⟩, by simpa using hlZ, hk⟩, hs.chg⟩
 ·have : (Z.map (·.1)) = (Z.map (fun z => (z.1, z.2.2))).map (·.1) := by rw [List.map_map]; rfl
  rw [this]
  exact List.pairwise_map.2 hR
 ·rw [hP_isSome hR]
  constructor
  ·intro hx
   obtain ⟨z, hz2, rfl⟩ := List.mem_map.1 hx
   exact ⟨(z.1, z.2.2), List.mem_map.2 ⟨z, hz2, rfl⟩, rfl⟩
  ·rintro ⟨y, hy, rfl⟩
   obtain ⟨z, hz2, rfl⟩ := List.mem_map.1 hy
   exact List.mem_map.2 ⟨z, hz2, rfl⟩
theorem d_content {A : Nat → Prop} {W : World} {m mu n : Nat} {f : Nat → Option Nat} {pc : Nat → Option (Nat → Option Nat)} (h : RB A W m mu f pc n) :
    Calls Tryz.prog 36 #[.pointer (some ⟨m, 0, none⟩)] W fun e W' => (∃ p c l, e = .returned (.slice p l.length c) ∧ Lists f 0 18446744073709551615 l ∧ l.length ≤ n ∧ PairsAt W' p l) ∧ Chg (fun _ => False) W W' := by
 obtain ⟨mv, hv, Z, l, h1, h2, h4, h5, hR, hz, rfl, hgl, hlZ⟩ := h.begin
 refine (r_content6 h1 h2).mono ?_
 rintro e W' ⟨rfl, hc⟩
 obtain ⟨p, c, rfl, hp, -⟩ := h2.row.slice
 exact ⟨⟨p, c, l, rfl, h2.ls, by omega, hp.chg hc⟩, hc⟩
set_option maxRecDepth 100000 in
theorem what_none {W : World} {m : Nat} {mu : Int} {mv hv : Value} {hs : List (Nat × Value)} (H : RMod W m mu mv hv hs) (hl : hs.length ≤ 4000000) {k : Nat} (hp : placeI hs k = -1) :
    Calls Tryz.prog 38 #[.pointer (some ⟨m, 0, none⟩), .int .u64 k] W fun e W' => e = .returned (.tuple #[.slice none 0 0, .bool false]) ∧ Chg (fun _ => False) W W' := by
 have HPL := keepH (r_placeM H hl k)
 rw [hp] at HPL
 clear H hl hp
 go_enter Tryz.func38, Tryz.ntmps38
 go_wp2_with fail
 refine HPL.out.mono ?_
 rintro e w1 ⟨rfl, rfl⟩
 go_wp2_with fail
 go_ret2
 exact ⟨by simp, Chg.refl _ _⟩
set_option maxRecDepth 100000 in
theorem what_some {W : World} {m : Nat} {mu : Int} {mv hv : Value} {hs : List (Nat × Value)} (H : RMod W m mu mv hv hs) (hl : hs.length ≤ 4000000) {k i hh q c : Nat} {p : Option Addr} (hpl : placeI hs k = (i : Int)) (hx : hs[i]? = some (hh, .slice p q c)) :
    Calls Tryz.prog 38 #[.pointer (some ⟨m, 0, none⟩), .int .u64 k] W fun e W' => e = .returned (.tuple #[.slice p q c, .bool true]) ∧ Chg (fun _ => False) W W' := by
 obtain ⟨hp, hcap, rfl, hAt, -, -, -⟩ := H.row.slice
 have hi2 := (List.getElem?_eq_some_iff.1 hx).1
 obtain ⟨bk, off, rfl, hbk, hcell⟩ : ∃ bk off, hp = some ⟨bk, off, none⟩ ∧ bk < W.heap.size ∧ W.cell? ⟨bk, off + i * 2 + 1, none⟩ = some (.slice p q c) := by
  rcases hAt with e | ⟨bk, off, e1, e2, e3⟩
  ·rw [e] at hx; simp at hx
  ·exact ⟨bk, off, e1, e2, (e3 i hh _ hx).2.2⟩
 have HPL := keepH (r_placeM H hl k)
 rw [hpl] at HPL
 have d2 := H.c2
 obtain ⟨n, hn⟩ : ∃ n, n = hs.length := ⟨_, rfl⟩
 rw [← hn] at d2
 have b1 : (i : Int) < (n : Int) := by omega
 have b0 : (0 : Int) ≤ (i : Int) := by omega
 have b3 : ¬ (i : Int) < 0 := by omega
 clear H hl hpl hx hAt hi2 hbk hn
 go_enter Tryz.func38, Tryz.ntmps38
 go_wp2_with fail
 refine HPL.out.mono ?_
 rintro e w1 ⟨rfl, rfl⟩
 go_wp2_with fail
 go_ret2
 exact ⟨by simp, Chg.refl _ _⟩
theorem d_what {A : Nat → Prop} {W : World} {m mu n : Nat} {f : Nat → Option Nat} {pc : Nat → Option (Nat → Option Nat)} (h : RB A W m mu f pc n) (hn : n ≤ 3000000) (k : Nat) :
    Calls Tryz.prog 38 #[.pointer (some ⟨m, 0, none⟩), .int .u64 k] W fun e W' => (∃ p c l, e = .returned (.tuple #[.slice p l.length c, .bool (pc k).isSome]) ∧ l.length ≤ n ∧ PairsAt W' p l ∧ (∀ g, pc k = some g → Lists g 0 18446744073709551615 l) ∧ (pc k = none → l = [])) ∧ Chg (fun _ => False) W W' := by
 obtain ⟨mv, hv, Z, l, h1, h2, h4, h5, hR, hz, rfl, hgl, hlZ⟩ := h.begin
 have hl2 : (Z.map (fun z => (z.1, z.2.1))).length ≤ 4000000 := by simp; omega
 rcases place_cases (Z.map (fun z => (z.1, z.2.1))) k with hp | ⟨i, hp, hi2, hi3⟩
 ·rw [hP_none (placeI_neg hp)]
  refine (what_none h1 hl2 hp).mono ?_
  rintro e W' ⟨rfl, hc⟩
  exact ⟨⟨none, 0, [], rfl, by simp, .inl rfl, fun g hg => (by cases hg), fun _ => rfl⟩, hc⟩
 ·have hi4 : i < Z.length := by simpa using hi2
  have hm := List.getElem_mem hi4
  have hr := h4 _ hm
  have hkz : Z[i].1 = k := by simpa using hi3
  have e1 : hP (Z.map (fun z => (z.1, z.2.2))) k = some Z[i].2.2.1 := by
   rw [← hkz]
   exact hP_some hR (z := (Z[i].1, Z[i].2.2)) (List.mem_map.2 ⟨_, hm, rfl⟩)
  rw [e1]
  obtain ⟨p, c, e, hpp, -⟩ := hr.row.slice
  have hx : (Z.map (fun z => (z.1, z.2.1)))[i]? = some (Z[i].1, Value.slice p Z[i].2.2.2.length c) := by
   rw [List.getElem?_map, List.getElem?_eq_getElem hi4, ← e]
   rfl
  have hb := (hz (Z[i].1, Z[i].2.2) (List.mem_map.2 ⟨_, hm, rfl⟩)).2.2
  refine (what_some h1 hl2 hp hx).mono ?_
  rintro e W' ⟨rfl, hc⟩
  exact ⟨⟨p, c, _, rfl, hb, hpp.chg hc, fun g hg => (by injection hg with hg; rw [← hg]; exact hr.ls), fun hg => (by cases hg)⟩, hc⟩
end Go.Proofs.YtahgaghokpicgaaGreat
namespace Go.Proofs.YtahgaghokpicgaaGreat
open Go.RowKit
set_option linter.unusedVariables false
set_option maxHeartbeats 16000000
theorem infoU : (Tryz.prog.info? 30).map (fun i => (i.zero, i.size, i.bytes)) = some (some (.int .u64 0), 1, 8) := by kernel_rfl
theorem KeysAt.get {W W' : World} {p : Option Addr} {l : List Nat} (h : KeysAt W p l) (c : Chg (fun _ => False) W W') {i k : Nat} (hk : l[i]? = some k) : ∃ bk off, p = some ⟨bk, off, none⟩ ∧ W'.cell? ⟨bk, off + i, none⟩ = some (.int .u64 k) := by
 rcases h with rfl | ⟨bk, off, rfl, hb, h⟩
 ·simp at hk
 ·exact ⟨bk, off, rfl, cell_chg c (h i k hk).2 (fun x => x)⟩
theorem measN {i n : Nat} (h : i < n) : n - (intOf (.int .i64 ((i : Int) + 1))).toNat < n - (intOf (.int .i64 i)).toNat := by
 have e1 : (intOf (.int .i64 ((i : Int) + 1))).toNat = i + 1 := by show ((i : Int) + 1).toNat = i + 1; omega
 have e2 : (intOf (.int .i64 i)).toNat = i := by show ((i : Int)).toNat = i; omega
 rw [e1, e2]
 omega
set_option maxRecDepth 100000 in
theorem same_u (pa pb : Option Addr) (ca cb : Nat) (l : List Nat) (W : World) (hA : KeysAt W pa l) (hB : KeysAt W pb l) (hl : l.length ≤ 9223372036854775807) :
    Calls Tryz.prog 37 #[.slice pa l.length ca, .slice pb l.length cb] W fun e W' => e = .returned (.bool true) ∧ Chg (fun _ => False) W W' := by
 have HA := keepH hA
 have HB := keepH hB
 clear hA hB
 go_enter Tryz.func37, Tryz.ntmps37
 go_wp2_with fail
 go_loopw [5] (fun s wr => ∃ k : Nat, k ≤ l.length ∧ s = .int .i64 k ∧ Hid (Chg (fun _ => False) W wr)) (fun s _ => l.length - (intOf s).toNat)
 case atStart => exact ⟨0, Nat.zero_le _, rfl, Chg.refl _ _⟩
 case round =>
  obtain ⟨k, hk, rfl, HK⟩ := hrel
  by_cases hlt : k < l.length
  ·have t1 : (k : Int) < (l.length : Int) := by omega
   obtain ⟨x, hx⟩ : ∃ x, l[k]? = some x := ⟨l[k], List.getElem?_eq_getElem hlt⟩
   obtain ⟨bk, off, rfl, c0⟩ := HA.out.get HK.out hx
   obtain ⟨bk', off', rfl, c1⟩ := HB.out.get HK.out hx
   clear hx
   go_wp2_with fail
   (try (go_quiet (fail); go_wp2_with fail))
   go_roundw
   case rel => exact ⟨k + 1, by omega, by first | rfl | go_num, HK.out.trans (H := fun _ => False) ⟨rfl, rfl, rfl, Nat.le_refl _, fun _ _ _ => rfl⟩ (fun _ _ x => x) (fun _ _ x => x)⟩
   case measure => exact measN hlt
  ·have t1 : ¬ (k : Int) < (l.length : Int) := by omega
   go_wp2_with fail
   go_ret
   exact ⟨by simp, HK.out⟩
end Go.Proofs.YtahgaghokpicgaaGreat
namespace Go.Proofs.YtahgaghokpicgaaGreat
open Go.RowKit Go.Maps
set_option linter.unusedVariables false
set_option maxHeartbeats 16000000
set_option maxRecDepth 100000 in
theorem s_pairs (pa pb : Option Addr) (ca cb : Nat) (la lb : List (Nat × Nat)) (W : World) (hA : PairsAt W pa la) (hB : PairsAt W pb lb) (hla : la.length ≤ 17592186044416) (hlb : lb.length ≤ 17592186044416) :
    Calls Tryz.prog 35 #[.slice pa la.length ca, .slice pb lb.length cb] W fun e W' => e = .returned (.bool (decide (la = lb))) ∧ Chg (fun _ => False) W W' := by
 have HA := keepH hA
 have HB := keepH hB
 clear hA hB
 by_cases hl : la.length = lb.length
 ·have d1 : decide (la.length = lb.length) = true := decide_eq_true hl
  have b1 : ((la.length : Int) != (lb.length : Int)) = false := by rw [hl]; simp
  go_enter Tryz.func35, Tryz.ntmps35
  go_wp2_with fail
  go_loopw [5] (fun s wr => ∃ k : Nat, k ≤ la.length ∧ s = .int .i64 k ∧ Hid ((∀ j, j < k → la[j]? = lb[j]?) ∧ Chg (fun _ => False) W wr)) (fun s _ => la.length - (intOf s).toNat)
  case atStart => exact ⟨0, by omega, rfl, keepH ⟨fun j h => absurd h (by omega), Chg.refl _ _⟩⟩
  case round =>
   obtain ⟨k, hk, rfl, HK⟩ := hrel
   by_cases hlt : k < la.length
   ·have t1 : (k : Int) < (la.length : Int) := by omega
    have t2 : (k : Int) < (lb.length : Int) := by omega
    obtain ⟨⟨a, b⟩, hx⟩ : ∃ x, la[k]? = some x := ⟨la[k], List.getElem?_eq_getElem hlt⟩
    obtain ⟨⟨c, d⟩, hy⟩ : ∃ x, lb[k]? = some x := ⟨lb[k], List.getElem?_eq_getElem (by omega)⟩
    obtain ⟨bk, off, rfl, ba, bb, c0, c1⟩ := HA.out.get HK.out.2 k a b hx
    obtain ⟨bk', off', rfl, bc, bd, d0, d1'⟩ := HB.out.get HK.out.2 k c d hy
    have hpn := pair_neq a b c d ba bb bc bd
    have HX : Hid (la[k]? = some (a, b) ∧ lb[k]? = some (c, d)) := ⟨hx, hy⟩
    clear hx hy
    by_cases e : (a, b) = (c, d)
    ·have dd : decide ((a, b) = (c, d)) = true := decide_eq_true e
     rw [dd] at hpn
     have HE := keepH e
     clear dd e
     go_wp2_with fail
     go_quiet (fail)
     go_wp2_with fail
     go_roundw
     case rel => exact ⟨k + 1, by omega, by first | rfl | go_num, keepH ⟨fun j hj => by
      by_cases z : j = k
      ·subst z; rw [HX.out.1, HX.out.2, HE.out]
      ·exact HK.out.1 j (by omega), HK.out.2.trans (H := fun _ => False) ⟨rfl, rfl, rfl, Nat.le_refl _, fun _ _ _ => rfl⟩ (fun _ _ x => x) (fun _ _ x => x)⟩⟩
     case measure => simp [intOf]; omega
    ·have dd : decide ((a, b) = (c, d)) = false := decide_eq_false e
     rw [dd] at hpn
     have HE := keepH e
     clear dd e
     go_wp2_with fail
     go_quiet (fail)
     go_wp2_with fail
     go_ret
     have hne : ¬ la = lb := fun z => HE.out (by have q1 := HX.out.1; rw [z, HX.out.2] at q1; simpa using q1.symm)
     exact ⟨by simp [hne], HK.out.2.trans (H := fun _ => False) ⟨rfl, rfl, rfl, Nat.le_refl _, fun _ _ _ => rfl⟩ (fun _ _ x => x) (fun _ _ x => x)⟩
   ·obtain rfl : k = la.length := by omega
    have t1 : ¬ (la.length : Int) < (la.length : Int) := by omega
    go_wp2_with fail
    go_ret
    have he : la = lb := by
     apply List.ext_getElem?
     intro j
     by_cases z : j < la.length
     ·exact HK.out.1 j z
     ·rw [List.getElem?_eq_none (by omega), List.getElem?_eq_none (by omega)]
    exact ⟨by simp [he], HK.out.2⟩
 ·have d1 : decide (la.length = lb.length) = false := decide_eq_false hl
  have b1 : ((la.length : Int) != (lb.length : Int)) = true := bne_iff_ne.2 (by omega)
  have hne : ¬ la = lb := fun z => hl (by rw [z])
  have HNE := keepH hne
  clear hne
  go_enter Tryz.func35, Tryz.ntmps35
  go_wp2_with fail
  go_ret
  exact ⟨by simp [HNE.out], Chg.refl _ _⟩
end Go.Proofs.YtahgaghokpicgaaGreat
namespace Go.Proofs.YtahgaghokpicgaaGreat
open Go.RowKit
set_option linter.unusedVariables false
set_option maxHeartbeats 16000000
end Go.Proofs.YtahgaghokpicgaaGreat
