/- A handle that is read: the texts' cuts. (mkScl.py) -/
import Derived.Test.YtmmaniolaljjlaaGreatDoorSck
namespace Go.Proofs.YtmmaniolaljjlaaGreatDoor
open Go.RowKit Go.Shelf
set_option linter.unusedVariables false

/-- strings.Cut at a dot -/
theorem cutI_dot (l r : List UInt8) (hl : l.length + r.length ≤ 200000000) (hn : noB 46 l) (w : World) :
    Calls Tryz.prog 91 #[.string (mkS (l ++ 46 :: r)), .string ⟨#[46]⟩] w fun e w' => e = .returned (.tuple #[.string (mkS l), .string (mkS r), .bool true]) ∧ Below w.heap.size w w' := by
  have hix := Any.stringslite_Index_one Tryz.lays219 (mkS (l ++ 46 :: r)) 46 w
  rw [show Lib.indexByte (mkS (l ++ 46 :: r)).data.toList 46 = (l.length : Int) from ix_at hn] at hix
  have hsz : (mkS (l ++ 46 :: r)).size = l.length + 1 + r.length := by rw [mkS_size]; simp; omega
  have e1 : mkS l = (mkS (l ++ 46 :: r)).extract 0 l.length := by rw [mkS_extract]; simp
  have e2 : mkS r = (mkS (l ++ 46 :: r)).extract (l.length + 1) (mkS (l ++ 46 :: r)).size := by
    rw [mkS_extract, hsz]
    congr 1
    rw [show l ++ 46 :: r = (l ++ [46]) ++ r by simp, List.drop_left' (by simp), List.take_of_length_le (by omega)]
  rw [e1, e2]
  obtain ⟨s, hs⟩ : ∃ s, s = mkS (l ++ 46 :: r) := ⟨_, rfl⟩
  rw [← hs] at hix hsz ⊢
  obtain ⟨n, hn⟩ : ∃ n, n = l.length := ⟨_, rfl⟩
  rw [← hn] at hix ⊢
  have k1 : (0 : Int) ≤ (n : Int) := by omega
  have k2 : (n : Int) ≤ (s.size : Int) := by omega
  have k3 : (0 : Int) ≤ (n : Int) + 1 := by omega
  have k4 : (n : Int) + 1 ≤ (s.size : Int) := by omega
  have k5 : IntKind.i64.wrap ((n : Int) + 1) = (n : Int) + 1 := by rw [IntKind.wrap_i64]; omega
  have k6 : wrap64 ((n : Int) + 1) = (n : Int) + 1 := by unfold wrap64; omega
  clear e1 e2 hs hn hsz
  go_enter Tryz.func91, Tryz.ntmps91
  go_wp2_with (go_at_call 112; refine hix.mono ?_; rintro e w' ⟨rfl, rfl⟩)
  have mixed := Tryz.lays219.mixed
  go_region_o
  go_wp2
  go_ret3
  exact ⟨rfl, below_drewN (Below.refl _ _) 1⟩
theorem cutI_nodot (l : List UInt8) (hn : noB 46 l) (w : World) :
    Calls Tryz.prog 91 #[.string (mkS l), .string ⟨#[46]⟩] w fun e w' => e = .returned (.tuple #[.string (mkS l), .string (mkS []), .bool false]) ∧ Below w.heap.size w w' := by
  have hix := Any.stringslite_Index_one Tryz.lays219 (mkS l) 46 w
  rw [show Lib.indexByte (mkS l).data.toList 46 = -1 from ix_none hn] at hix
  go_enter Tryz.func91, Tryz.ntmps91
  go_wp2_with (go_at_call 112; refine hix.mono ?_; rintro e w' ⟨rfl, rfl⟩)
  go_ret3
  exact ⟨rfl, Below.refl _ _⟩
theorem cut_dot (l r : List UInt8) (hl : l.length + r.length ≤ 200000000) (hn : noB 46 l) (w : World) :
    Calls Tryz.prog 53 #[.string (mkS (l ++ 46 :: r)), .string ⟨#[46]⟩] w fun e w' => e = .returned (.tuple #[.string (mkS l), .string (mkS r), .bool true]) ∧ Below w.heap.size w w' := by
  have h := cutI_dot l r hl hn w
  obtain ⟨s, hs⟩ : ∃ s, s = mkS (l ++ 46 :: r) := ⟨_, rfl⟩
  rw [← hs] at h ⊢
  clear hs
  go_enter Tryz.func53, Tryz.ntmps53
  go_wp2_with fail
  refine h.mono ?_
  rintro e w1 ⟨rfl, hb⟩
  go_wp2
  go_ret3
  exact ⟨rfl, hb⟩
theorem cut_nodot (l : List UInt8) (hn : noB 46 l) (w : World) :
    Calls Tryz.prog 53 #[.string (mkS l), .string ⟨#[46]⟩] w fun e w' => e = .returned (.tuple #[.string (mkS l), .string (mkS []), .bool false]) ∧ Below w.heap.size w w' := by
  have h := cutI_nodot l hn w
  go_enter Tryz.func53, Tryz.ntmps53
  go_wp2_with fail
  refine h.mono ?_
  rintro e w1 ⟨rfl, hb⟩
  go_wp2
  go_ret3
  exact ⟨rfl, hb⟩

set_option maxRecDepth 100000 in
theorem hasP_any (t : List UInt8) (ht : t.length ≤ 200000000) (w : World) : Calls Tryz.prog 145 #[.string (mkS t), .string ⟨#[64]⟩] w fun e w' => e = .returned (.bool (decide (t.head? = some 64))) ∧ w' = w := by
  cases t with
  | nil =>
    have hsz : (mkS ([] : List UInt8)).size = 0 := rfl
    obtain ⟨s, hs⟩ : ∃ s, s = mkS ([] : List UInt8) := ⟨_, rfl⟩
    rw [← hs] at hsz ⊢
    clear hs
    have t1 : ¬ ((s.size : Int) ≥ 1) := by omega
    go_enter Tryz.func145, Tryz.ntmps145
    go_wp2_with fail
    go_ret
    exact ⟨by simp, rfl⟩
  | cons c r =>
    have hsz : (mkS (c :: r)).size = r.length + 1 := by rw [mkS_size]; rfl
    have hx : (mkS (c :: r)).extract 0 1 = mkS [c] := by rw [mkS_extract]; rfl
    have hq : (((mkS (c :: r)).extract 0 1).toList == [64]) = decide (c = 64) := by
      rw [hx, mkS_toList, Bool.eq_iff_iff]
      simp
    obtain ⟨s, hs⟩ : ∃ s, s = mkS (c :: r) := ⟨_, rfl⟩
    rw [← hs] at hsz hq ⊢
    have e : decide ((c :: r).head? = some 64) = decide (c = 64) := by simp
    rw [e]
    obtain ⟨d, hd⟩ : ∃ d, d = decide (c = 64) := ⟨_, rfl⟩
    rw [← hd] at hq ⊢
    clear hs hx hd e
    have t1 : ((s.size : Int) ≥ 1) := by omega
    have t2 : (1 : Int) ≤ (s.size : Int) := by omega
    go_enter Tryz.func145, Tryz.ntmps145
    go_wp2_with fail
    go_ret
    exact ⟨by simp, rfl⟩
set_option maxRecDepth 100000 in
theorem cutP_yes (r : List UInt8) (ht : r.length ≤ 100000000) (w : World) : Calls Tryz.prog 98 #[.string (mkS (64 :: r)), .string ⟨#[64]⟩] w fun e w' => e = .returned (.tuple #[.string (mkS r), .bool true]) ∧ w' = w := by
  have h := hasP_any (64 :: r) (by simp; omega) w
  rw [show decide ((64 :: r).head? = some 64) = true by simp] at h
  have hsz : (mkS (64 :: r)).size = r.length + 1 := by rw [mkS_size]; rfl
  have hx : mkS r = (mkS (64 :: r)).extract 1 (mkS (64 :: r)).size := by rw [mkS_extract, hsz]; congr 1; simp
  rw [hx]
  obtain ⟨s, hs⟩ : ∃ s, s = mkS (64 :: r) := ⟨_, rfl⟩
  rw [← hs] at h hsz ⊢
  clear hs hx
  have t2 : (1 : Int) ≤ (s.size : Int) := by omega
  clear hsz
  have hI : Calls Tryz.prog 120 #[.string s, .string ⟨#[64]⟩] w fun e w' => e = .returned (.tuple #[.string (s.extract 1 s.size), .bool true]) ∧ w' = w := by
    go_enter Tryz.func120, Tryz.ntmps120
    go_wp2_with fail
    refine h.mono ?_
    rintro e w1 ⟨rfl, rfl⟩
    go_wp2_with fail
    go_ret2
    exact ⟨by simp, rfl⟩
  clear h t2
  go_enter Tryz.func98, Tryz.ntmps98
  go_wp2_with fail
  refine hI.mono ?_
  rintro e w1 ⟨rfl, rfl⟩
  go_wp2_with fail
  go_ret2
  exact ⟨by simp, rfl⟩
set_option maxRecDepth 100000 in
theorem cutP_no (t : List UInt8) (ht : t.length ≤ 200000000) (hn : t.head? ≠ some 64) (w : World) : Calls Tryz.prog 98 #[.string (mkS t), .string ⟨#[64]⟩] w fun e w' => e = .returned (.tuple #[.string (mkS t), .bool false]) ∧ w' = w := by
  have h := hasP_any t ht w
  rw [show decide (t.head? = some 64) = false by simpa using hn] at h
  obtain ⟨s, hs⟩ : ∃ s, s = mkS t := ⟨_, rfl⟩
  rw [← hs] at h ⊢
  clear hs hn
  have hI : Calls Tryz.prog 120 #[.string s, .string ⟨#[64]⟩] w fun e w' => e = .returned (.tuple #[.string s, .bool false]) ∧ w' = w := by
    go_enter Tryz.func120, Tryz.ntmps120
    go_wp2_with fail
    refine h.mono ?_
    rintro e w1 ⟨rfl, rfl⟩
    go_wp2_with fail
    go_ret2
    exact ⟨by simp, rfl⟩
  clear h
  go_enter Tryz.func98, Tryz.ntmps98
  go_wp2_with fail
  refine hI.mono ?_
  rintro e w1 ⟨rfl, rfl⟩
  go_wp2_with fail
  go_ret2
  exact ⟨by simp, rfl⟩
end Go.Proofs.YtmmaniolaljjlaaGreatDoor
