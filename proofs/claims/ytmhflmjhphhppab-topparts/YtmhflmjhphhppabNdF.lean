/- Node's Fork: where two mixed keys part; one that is made; on a nil view. -/
import Derived.Test.YtmhflmjhphhppabNd
import Derived.Test.YtmhflmjhphhppabDigF
namespace Go.Proofs.Ytmhflmjhphhppab
open Go.RowKit Go.Shelf

def partF (ha hb : Int) : Nat → Nat → Option Nat
  | 0, _ => none
  | n + 1, lv => if dig ha (lv : Int) = dig hb (lv : Int) then partF ha hb n (lv + 1) else some lv
def partN (ha hb : Int) (lv : Nat) : Option Nat := partF ha hb (11 - lv) lv
theorem partN_big (ha hb : Int) (lv : Nat) (h : 11 ≤ lv) : partN ha hb lv = none := by
  unfold partN
  rw [show 11 - lv = 0 by omega]
  rfl
theorem partN_same (ha hb : Int) (lv : Nat) (h : lv < 11) (e : dig ha (lv : Int) = dig hb (lv : Int)) : partN ha hb lv = partN ha hb (lv + 1) := by
  unfold partN
  rw [show 11 - lv = (11 - (lv + 1)) + 1 by omega]
  exact if_pos e
theorem partN_part (ha hb : Int) (lv : Nat) (h : lv < 11) (e : ¬ dig ha (lv : Int) = dig hb (lv : Int)) : partN ha hb lv = some lv := by
  unfold partN
  rw [show 11 - lv = (11 - (lv + 1)) + 1 by omega]
  exact if_neg e
theorem partF_some (ha hb : Int) (n lv j : Nat) (h : partF ha hb n lv = some j) : lv ≤ j ∧ j < lv + n ∧ ¬ dig ha (j : Int) = dig hb (j : Int) ∧ ∀ i, lv ≤ i → i < j → dig ha (i : Int) = dig hb (i : Int) := by
  induction n generalizing lv with
  | zero => simp [partF] at h
  | succ n ih =>
    unfold partF at h
    split at h
    · next e =>
      obtain ⟨a, b, c, d⟩ := ih _ h
      refine ⟨by omega, by omega, c, fun i h1 h2 => ?_⟩
      by_cases e1 : i = lv
      · subst e1
        exact e
      · exact d i (by omega) h2
    · next e =>
      simp only [Option.some.injEq] at h
      subst h
      exact ⟨by omega, by omega, e, fun i h1 h2 => by omega⟩
theorem partF_none (ha hb : Int) (n lv : Nat) (h : partF ha hb n lv = none) : ∀ i, lv ≤ i → i < lv + n → dig ha (i : Int) = dig hb (i : Int) := by
  induction n generalizing lv with
  | zero => intro i h1 h2; omega
  | succ n ih =>
    unfold partF at h
    split at h
    · next e =>
      intro i h1 h2
      by_cases e1 : i = lv
      · subst e1
        exact e
      · exact ih _ h i (by omega) (by omega)
    · simp at h

def partV (o : Option Nat) : Value := .tuple #[.int .i64 ((o.getD 0 : Nat) : Int), .bool o.isSome]
set_option maxRecDepth 100000 in
set_option maxHeartbeats 1000000 in
theorem parting_any (ha hb lv : Nat) (W : World) (h0 : ha < 18446744073709551616) (h1 : hb < 18446744073709551616) (h2 : lv < 9223372036854775808) :
    Calls Try.prog 92 #[.int .u64 (ha : Int), .int .u64 (hb : Int), .int .i64 (lv : Int)] W fun e W' => e = .returned (partV (partN ha hb lv)) ∧ W' = W := by
  go_enter Try.func92, Try.ntmps92
  go_wp2_with fail
  go_loopw [2] (fun s wr => ∃ k : Nat, k < 9223372036854775808 ∧ s = .int .i64 (k : Int) ∧ Hid (partN ha hb lv = partN ha hb k) ∧ wr = W) (fun s _ => 11 - (intOf s).toNat)
  case atStart => exact ⟨lv, h2, rfl, rfl, rfl⟩
  case round =>
    obtain ⟨k, hk, rfl, HE, rfl⟩ := hrel
    by_cases hlt : k < 11
    · have i1 : (k : Int) < 11 := by omega
      by_cases hd : dig ha (k : Int) = dig hb (k : Int)
      · go_wp2_with fail
        refine (digit_any ha k _ (by omega) (by omega) (by omega) (by omega)).mono ?_
        rintro e w1 ⟨rfl, rfl⟩
        go_wp2_with fail
        refine (digit_any hb k _ (by omega) (by omega) (by omega) (by omega)).mono ?_
        rintro e w1 ⟨rfl, rfl⟩
        go_wp2_with fail
        go_roundw
        case rel => exact ⟨k + 1, by omega, by go_num, HE.out.trans (partN_same _ _ k hlt hd), by trivial⟩
        case measure => simp [intOf]; omega
      · have n1 : (dig ha (k : Int) != dig hb (k : Int)) = true := bne_iff_ne.2 hd
        have HP := keepH (HE.out.trans (partN_part _ _ k hlt hd))
        go_wp2_with fail
        refine (digit_any ha k _ (by omega) (by omega) (by omega) (by omega)).mono ?_
        rintro e w1 ⟨rfl, rfl⟩
        go_wp2_with fail
        refine (digit_any hb k _ (by omega) (by omega) (by omega) (by omega)).mono ?_
        rintro e w1 ⟨rfl, rfl⟩
        go_wp2_with fail
        go_ret2
        exact ⟨by rw [HP.out]; rfl, rfl⟩
    · have i1 : ¬ (k : Int) < 11 := by omega
      have HP := keepH (HE.out.trans (partN_big _ _ k (by omega)))
      go_wp2_with fail
      go_ret2
      exact ⟨by rw [HP.out]; rfl, rfl⟩

def forkL (over : Bool) (err aw am bw bm top level : Nat) (cells : List Nat) (pos wd : Nat) : List Value := [.bool over, .int .i64 (err : Int), .int .u64 (aw : Int), .int .u64 (am : Int), .int .u64 (bw : Int), .int .u64 (bm : Int), .int .i64 (top : Int), .int .i64 (level : Int)] ++ cells.map u64V ++ [.int .i64 (pos : Int), .int .u64 (wd : Int)]
def IsFork (W : World) (p : Nat) (over : Bool) (err aw am bw bm top level : Nat) (cells : List Nat) (pos wd : Nat) : Prop := cells.length = 64 ∧ W.heap[p]? = some (.cells (forkL over err aw am bw bm top level cells pos wd).toArray 136 (0, 0))
theorem IsFork.chg {W W' : World} {F : Nat → Prop} {p : Nat} {over : Bool} {err aw am bw bm top level : Nat} {cells : List Nat} {pos wd : Nat} (h : IsFork W p over err aw am bw bm top level cells pos wd) (hc : Chg F W W') (hn : ¬ F p) : IsFork W' p over err aw am bw bm top level cells pos wd := ⟨h.1, (hc.block p (lt_of h.2) hn).trans h.2⟩
theorem fork_pos {over : Bool} {err aw am bw bm top level : Nat} {cells : List Nat} {pos wd : Nat} (h : cells.length = 64) : (forkL over err aw am bw bm top level cells pos wd).toArray[72]? = some (.int .i64 (pos : Int)) := by
  simp [forkL, h]
theorem fork_wd {over : Bool} {err aw am bw bm top level : Nat} {cells : List Nat} {pos wd : Nat} (h : cells.length = 64) : (forkL over err aw am bw bm top level cells pos wd).toArray[73]? = some (.int .u64 (wd : Int)) := by
  simp [forkL, h]
theorem fork_cell {over : Bool} {err aw am bw bm top level : Nat} {cells : List Nat} {pos wd : Nat} (h : cells.length = 64) (i : Nat) (hi : i < 64) : (forkL over err aw am bw bm top level cells pos wd).toArray[8 + i]? = some (.int .u64 (cellN cells i : Int)) := by
  unfold forkL
  rw [List.getElem?_toArray, List.append_assoc, List.getElem?_append_right (by simp), List.getElem?_append_left (by simp; omega), List.getElem?_map]
  simp only [List.length_cons, List.length_nil, show 8 + i - (0 + 1 + 1 + 1 + 1 + 1 + 1 + 1 + 1) = i by omega]
  simp [cellN, u64V, List.getElem?_eq_getElem (show i < cells.length by omega)]

set_option maxRecDepth 100000 in
theorem fork_new (aw am bw bm : Nat) (lv : Int) (top : Nat) (W : World) (ht : (top : Int) = max lv 0) : Calls Try.prog 42 #[.int .u64 (aw : Int), .int .u64 (am : Int), .int .u64 (bw : Int), .int .u64 (bm : Int), .int .i64 lv] W fun e W' => e = .returned (.pointer (some ⟨W.heap.size, 0, none⟩)) ∧ IsFork W' W.heap.size false 0 aw am bw bm top 0 (List.replicate 64 0) 0 0 ∧ Chg (fun _ => False) W W' ∧ W'.heap.size = W.heap.size + 1 := by
  by_cases h : lv < 0
  · obtain rfl : top = 0 := by omega
    clear ht
    go_enter Try.func42, Try.ntmps42
    go_wp2_with fail
    go_ret
    exact ⟨by simp, ⟨by simp, (heap_alloc_new _ _).trans (by rfl)⟩, (Chg.refl _ _).alloc _, by simp⟩
  · obtain rfl : lv = (top : Int) := by omega
    clear ht
    go_enter Try.func42, Try.ntmps42
    go_wp2_with fail
    go_ret
    exact ⟨by simp, ⟨by simp, (heap_alloc_new _ _).trans (by rfl)⟩, (Chg.refl _ _).alloc _, by simp⟩
set_option maxRecDepth 100000 in
theorem fork_word {p : Nat} {over : Bool} {err aw am bw bm top level : Nat} {cells : List Nat} {pos wd : Nat} {W : World} (hp : IsFork W p over err aw am bw bm top level cells pos wd) : Calls Try.prog 28 #[.pointer (some ⟨p, 0, none⟩)] W fun e W' => e = .returned (.int .u64 (wd : Int)) ∧ W' = W := by
  have c4 : W.cell? ⟨p, 73, none⟩ = some (.int .u64 (wd : Int)) := (cell_of hp.2 73).trans (fork_wd hp.1)
  clear hp
  go_enter Try.func28, Try.ntmps28
  go_wp2_with fail
  go_ret
  exact ⟨by simp, rfl⟩
set_option maxRecDepth 100000 in
theorem fork_errno {p : Nat} {over : Bool} {err aw am bw bm top level : Nat} {cells : List Nat} {pos wd : Nat} {W : World} (hp : IsFork W p over err aw am bw bm top level cells pos wd) : Calls Try.prog 29 #[.pointer (some ⟨p, 0, none⟩)] W fun e W' => e = .returned (.int .i64 (err : Int)) ∧ W' = W := by
  have c1 : W.cell? ⟨p, 1, none⟩ = some (.int .i64 (err : Int)) := cell_of hp.2 1
  clear hp
  go_enter Try.func29, Try.ntmps29
  go_wp2_with fail
  refine (o_failed p err _ c1).mono ?_
  rintro e w1 ⟨rfl, rfl⟩
  go_wp2_with fail
  go_ret
  exact ⟨by simp, rfl⟩
theorem fork_end {p : Nat} {over : Bool} {err aw am bw bm top level : Nat} {cells : List Nat} {pos wd : Nat} {W : World} (hp : IsFork W p over err aw am bw bm top level cells pos wd) (r : Nat) :
    Calls Try.prog 71 #[.pointer (some ⟨p, 0, none⟩), .int .i64 (r : Int)] W fun e W' => e = .returned (.bool true) ∧ IsFork W' p true r aw am bw bm top level cells pos wd ∧ Chg (fun k => k = p) W W' := by
  refine (o_end p r _ _ W hp.2 over err rfl rfl).mono ?_
  rintro e w ⟨rfl, P, C⟩
  refine ⟨rfl, ⟨hp.1, ?_⟩, C⟩
  rw [P]
  simp [forkL]
end Go.Proofs.Ytmhflmjhphhppab
