/- Check and Memory of both sides. -/
import Derived.Test.YtjodechhnobkhaaGreatDoorRvb
namespace Go.Proofs.YtjodechhnobkhaaGreatDoor
open Go.RowKit Go.Shelf
set_option linter.unusedVariables false

set_option maxRecDepth 100000 in
theorem m_new2 (z : Int) (W : World) (hz : z < 128 ∨ 4194304 < z) : Calls Tryz.prog 28 #[.int .i64 z, .bool false] W fun e W' => e = .returned (.tuple #[.pointer none, .int .i64 2]) ∧ W' = W := by
  by_cases h1 : z < 128
  · go_enter Tryz.func28, Tryz.ntmps28
    go_wp2_with fail
    go_ret2
    exact ⟨rfl, rfl⟩
  · have h2 : 4194304 < z := by omega
    go_enter Tryz.func28, Tryz.ntmps28
    go_wp2_with fail
    go_ret2
    exact ⟨rfl, rfl⟩
set_option maxRecDepth 100000 in
theorem r_new2 (z : Int) (W : World) (hz : z < 128 ∨ 4194304 < z) : Calls Tryz.prog 33 #[.int .i64 z, .bool false] W fun e W' => e = .returned (.tuple #[.pointer none, .int .i64 2]) ∧ W' = W := by
  by_cases h1 : z < 128
  · go_enter Tryz.func33, Tryz.ntmps33
    go_wp2_with fail
    go_ret2
    exact ⟨rfl, rfl⟩
  · have h2 : 4194304 < z := by omega
    go_enter Tryz.func33, Tryz.ntmps33
    go_wp2_with fail
    go_ret2
    exact ⟨rfl, rfl⟩
set_option maxRecDepth 100000 in
theorem got_out (z : Int) (v : Value) (W : World) (hz : z < 128 ∨ 4194304 < z) : Calls Tryz.prog 16 #[.int .i64 z, v] W fun e W' => e = .returned (.tuple #[.pointer none, .int .i64 2, .int .i64 0]) ∧ W' = W := by
  have hn := m_new2 z W hz
  clear hz
  go_enter Tryz.func16, Tryz.ntmps16
  go_wp2_with fail
  refine hn.mono ?_
  rintro e w1 ⟨rfl, hw1⟩
  rw [hw1]
  go_wp2_with fail
  go_ret3
  exact ⟨rfl, rfl⟩
set_option maxRecDepth 100000 in
theorem dcheck_out (z : Int) (v : Value) (W : World) (hz : z < 128 ∨ 4194304 < z) : Calls Tryz.prog 17 #[.int .i64 z, v] W fun e W' => e = .returned (.tuple #[.pointer none, .int .i64 2, .int .i64 0]) ∧ W' = W := by
  have hn := r_new2 z W hz
  clear hz
  go_enter Tryz.func17, Tryz.ntmps17
  go_wp2_with fail
  refine hn.mono ?_
  rintro e w1 ⟨rfl, hw1⟩
  rw [hw1]
  go_wp2_with fail
  go_ret3
  exact ⟨rfl, rfl⟩
/-- all the cells of a memory -/
def cellsL (n : Nat) (cs : List Nat) : List Nat := (List.range n).map (cellN cs)
theorem cellsL_len (n : Nat) (cs : List Nat) : (cellsL n cs).length = n := by simp [cellsL]
theorem cellN_get (os : List Nat) (i x : Nat) (h : os[i]? = some x) : cellN os i = x := by simp [cellN, h]
theorem own_list {os cs : List Nat} {n : Nat} (hl : os.length = n) (h : ∀ i, i < n → cellN os i = cellN cs i) : os = cellsL n cs := by
  refine List.ext_getElem (by rw [hl, cellsL_len]) (fun i h1 h2 => ?_)
  have e := h i (by omega)
  rw [cellN_get os i os[i] (List.getElem?_eq_getElem h1)] at e
  simp [cellsL, e]
theorem own_rd {W : World} {g : Nat} {os : List Nat} (h : IsOwn W g os) : URd W (some ⟨g, 0, none⟩) os :=
  Or.inr ⟨g, 0, rfl, lt_of h, fun i x hx => by
    rw [cell_of h, Nat.zero_add]
    simp [hx, u64V]⟩
/-- what Check and Memory tell -/
def outE (z : Int) (xs : List Ax) : Nat := if z < 128 ∨ 4194304 < z then 2 else if ∀ x ∈ xs, RightA x then (if msBad z.toNat ⟨1, []⟩ xs < xs.length then 210 else 0) else 52
def outN (z : Int) (xs : List Ax) : Nat := if z < 128 ∨ 4194304 < z then 0 else if ∀ x ∈ xs, RightA x then msBad z.toNat ⟨1, []⟩ xs else wrongI xs
def outL (z : Int) (xs : List Ax) : List Nat := if outE z xs = 0 then cellsL z.toNat (msEnd z.toNat ⟨1, []⟩ xs).cs else []
/-- how the program goes through a trace, and the document -/
def GoP (W : World) (z : Int) (xs : List Ax) (v : Value) (W' : World) : Prop := Below W.heap.size W W' ∧ ((outE z xs ≠ 0 ∧ v = .tuple #[.pointer none, .int .i64 (outE z xs : Int), .int .i64 (outN z xs : Int)]) ∨
  (outE z xs = 0 ∧ ∃ (n m b : Nat) (F : Nat → Prop) (l : List Acc), z = (n : Int) ∧ 128 ≤ n ∧ n ≤ 4194304 ∧ v = .tuple #[.pointer (some ⟨m, 0, none⟩), .int .i64 0, .int .i64 (outN z xs : Int)] ∧ IsMem W' m b ∧ Bank W' F b n (msEnd n ⟨1, []⟩ xs).next (msEnd n ⟨1, []⟩ xs).cs l ∧ (∀ j, F j → W.heap.size ≤ j) ∧ W.heap.size ≤ m))
def GoD (W : World) (z : Int) (xs : List Ax) (v : Value) (W' : World) : Prop := Below W.heap.size W W' ∧ ((outE z xs ≠ 0 ∧ v = .tuple #[.pointer none, .int .i64 (outE z xs : Int), .int .i64 (outN z xs : Int)]) ∨
  (outE z xs = 0 ∧ ∃ (n nm nc : Nat), z = (n : Int) ∧ v = .tuple #[.pointer (some ⟨nm, 0, none⟩), .int .i64 0, .int .i64 (outN z xs : Int)] ∧ W'.cell? ⟨nm, 0, none⟩ = some (.slice (some ⟨nc, 0, none⟩) n n) ∧ IsOwn W' nc (cellsL n (msEnd n ⟨1, []⟩ xs).cs)))
theorem gop (z : Int) (p : Option Addr) (c : Nat) (xs : List Ax) (W : World) (h : ARd W p xs) (hok : ∀ x ∈ xs, x.Ok) (hl : xs.length ≤ 1048576) (hvl : ∀ x ∈ xs, x.vals.length ≤ 1048576) :
    Calls Tryz.prog 16 #[.int .i64 z, .slice p xs.length c] W fun e W' => ∃ v, e = .returned v ∧ GoP W z xs v W' := by
  by_cases hz : z < 128 ∨ 4194304 < z
  · refine (got_out z _ W hz).mono ?_
    rintro e w' ⟨rfl, rfl⟩
    exact ⟨_, rfl, Below.refl _ _, Or.inl ⟨by simp [outE, hz], by simp [outE, outN, hz]⟩⟩
  · obtain ⟨n, rfl⟩ : ∃ n : Nat, z = (n : Int) := ⟨z.toNat, by omega⟩
    refine (go_through n (by omega) p c xs W h hok hl hvl).mono ?_
    rintro e w' ⟨v, rfl, hT⟩
    refine ⟨v, rfl, hT.bel, ?_⟩
    rcases hT.res with ⟨m, b, F, l, e1, e2, e3, e4, e5, e6, e7⟩ | ⟨e1, e2, e3⟩ | ⟨e1, e2⟩
    · have k1 : outE (n : Int) xs = 0 := by unfold outE; rw [if_neg hz, if_pos e2, if_neg (by simp only [Int.toNat_natCast]; omega)]
      have k2 : outN (n : Int) xs = xs.length := by unfold outN; rw [if_neg hz, if_pos e2]; simp only [Int.toNat_natCast]; exact e3
      exact Or.inr ⟨k1, n, m, b, F, l, rfl, by omega, by omega, by rw [k2]; exact e1, e4, e5, e6, e7⟩
    · have k1 : outE (n : Int) xs = 210 := by unfold outE; rw [if_neg hz, if_pos e1, if_pos (by simp only [Int.toNat_natCast]; exact e2)]
      have k2 : outN (n : Int) xs = msBad n ⟨1, []⟩ xs := by unfold outN; rw [if_neg hz, if_pos e1]; simp only [Int.toNat_natCast]
      exact Or.inl ⟨by rw [k1]; decide, by rw [k1, k2]; exact e3⟩
    · have k1 : outE (n : Int) xs = 52 := by unfold outE; rw [if_neg hz, if_neg e1]
      have k2 : outN (n : Int) xs = wrongI xs := by unfold outN; rw [if_neg hz, if_neg e1]
      exact Or.inl ⟨by rw [k1]; decide, by rw [k1, k2]; exact e2⟩
theorem god (z : Int) (p : Option Addr) (c : Nat) (xs : List Ax) (W : World) (h : In W p xs) :
    Calls Tryz.prog 17 #[.int .i64 z, .slice p xs.length c] W fun e W' => ∃ v, e = .returned v ∧ GoD W z xs v W' := by
  by_cases hz : z < 128 ∨ 4194304 < z
  · refine (dcheck_out z _ W hz).mono ?_
    rintro e w' ⟨rfl, rfl⟩
    exact ⟨_, rfl, Below.refl _ _, Or.inl ⟨by simp [outE, hz], by simp [outE, outN, hz]⟩⟩
  · obtain ⟨n, rfl⟩ : ∃ n : Nat, z = (n : Int) := ⟨z.toNat, by omega⟩
    refine (dcheck n (by omega) p c xs W h).mono ?_
    rintro e w' ⟨v, rfl, hT⟩
    refine ⟨v, rfl, hT.bel, ?_⟩
    rcases hT.res with ⟨nm, R, l, e1, e2, e3, e4, e5⟩ | ⟨e1, e2, e3⟩ | ⟨e1, e2⟩
    · have k1 : outE (n : Int) xs = 0 := by unfold outE; rw [if_neg hz, if_pos e2, if_neg (by simp only [Int.toNat_natCast]; omega)]
      have k2 : outN (n : Int) xs = xs.length := by unfold outN; rw [if_neg hz, if_pos e2]; simp only [Int.toNat_natCast]; exact e3
      obtain ⟨nc, av, os, hm⟩ := e4
      have hos := own_list hm.os.1 hm.os.2.1
      exact Or.inr ⟨k1, n, nm, nc, rfl, by rw [k2]; exact e1, cell_of hm.blk 0, by rw [← hos]; exact hm.own⟩
    · have k1 : outE (n : Int) xs = 210 := by unfold outE; rw [if_neg hz, if_pos e1, if_pos (by simp only [Int.toNat_natCast]; exact e2)]
      have k2 : outN (n : Int) xs = msBad n ⟨1, []⟩ xs := by unfold outN; rw [if_neg hz, if_pos e1]; simp only [Int.toNat_natCast]
      exact Or.inl ⟨by rw [k1]; decide, by rw [k1, k2]; exact e3⟩
    · have k1 : outE (n : Int) xs = 52 := by unfold outE; rw [if_neg hz, if_neg e1]
      have k2 : outN (n : Int) xs = wrongI xs := by unfold outN; rw [if_neg hz, if_neg e1]
      exact Or.inl ⟨by rw [k1]; decide, by rw [k1, k2]; exact e2⟩
end Go.Proofs.YtjodechhnobkhaaGreatDoor
