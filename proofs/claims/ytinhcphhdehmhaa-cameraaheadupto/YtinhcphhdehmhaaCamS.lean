/- A call of both: begun, a step of it, whether both tell the same. -/
import Derived.Test.YtinhcphhdehmhaaCamR
import Derived.Test.YtinhcphhdehmhaaCamP
namespace Go.Proofs.Ytinhcphhdehmhaa
open Go.RowKit Go.Shelf
set_option linter.unusedVariables false

def Acc.bare (a : Acc) : Acc := { a with vs := .slice none 0 0 }
structure PJ (W : World) (cell pb nb tb : Nat) (x : PC) : Prop where
  now : IsNow W nb cell (if x.isNow then x.pos else 0) (if x.isNow then x.stamp else 0)
  take : IsTake W tb cell x.most (if x.isNow then 0 else x.pos) (if x.isNow then 0 else x.stamp) (if x.isNow then 0 else x.err) (if x.isNow then false else x.moved)
  proc : W.heap[pb]? = some (.cells (if x.isNow then nowCells cell x.most nb tb (if x.pos = 2 then 1 else 0) x.stamp x.fr x.tz else takeCells cell x.most nb tb x.pos x.stamp x.told x.err x.moved x.fr x.tz) 43 (0, 0))
theorem PJ.chg {W W' : World} {F : Nat → Prop} {cell pb nb tb : Nat} {x : PC} (h : PJ W cell pb nb tb x) (hc : Chg F W W') (hp : ¬ F pb) (hn : ¬ F nb) (ht : ¬ F tb) : PJ W' cell pb nb tb x :=
  ⟨h.now.chg hc hn, h.take.chg hc ht, (hc.block pb (lt_of h.proc) hp).trans h.proc⟩

set_option maxRecDepth 100000 in
set_option maxHeartbeats 2000000 in
theorem c_same (cell pb nb tb : Nat) (x : PC) (W : World) (h : PJ W cell pb nb tb x) : Calls Try.prog 26 #[.pointer (some ⟨pb, 0, none⟩)] W fun e W' => e = .returned (.bool true) ∧ ∃ q, W' = W.drewN q := by
  cases hn : x.isNow
  · have P := h.proc
    have T := h.take
    rw [hn] at P T
    simp only [Bool.false_eq_true, if_false] at P T
    have c0 : W.cell? ⟨pb, 0, none⟩ = some (.bool false) := cell_of P 0
    have c3 : W.cell? ⟨pb, 3, none⟩ = some (.pointer (some ⟨tb, 0, none⟩)) := cell_of P 3
    have c11 : W.cell? ⟨pb, 11, none⟩ = some (.int .u64 (x.told : Int)) := cell_of P 11
    have c12 : W.cell? ⟨pb, 12, none⟩ = some (.int .i64 (x.err : Int)) := cell_of P 12
    have c13 : W.cell? ⟨pb, 13, none⟩ = some (.bool x.moved) := cell_of P 13
    obtain ⟨d, hd⟩ : ∃ d, d = x.told := ⟨_, rfl⟩
    obtain ⟨e, he⟩ : ∃ e, e = x.err := ⟨_, rfl⟩
    obtain ⟨m, hm⟩ : ∃ m, m = x.moved := ⟨_, rfl⟩
    have HT : ∀ q, IsTake (W.drewN q) tb cell x.most x.pos x.stamp x.err x.moved := fun q => T.chg (Goes.drewN W (fun _ => False) q).chg (fun h => h)
    have H1 : Hid (∀ q, Calls Try.prog 14 #[.pointer (some ⟨tb, 0, none⟩)] (W.drewN q) fun r W' => r = .returned (.int .u64 (d : Int)) ∧ W' = W.drewN q) := fun q => by rw [hd]; exact t_stamp tb cell x.most x.pos x.stamp x.err x.moved _ (HT q)
    have H2 : Hid (∀ q, Calls Try.prog 12 #[.pointer (some ⟨tb, 0, none⟩)] (W.drewN q) fun r W' => r = .returned (.int .i64 (e : Int)) ∧ W' = W.drewN q) := fun q => by rw [he]; exact t_errno tb cell x.most x.pos x.stamp x.err x.moved _ (HT q)
    have H3 : Hid (∀ q, Calls Try.prog 10 #[.pointer (some ⟨tb, 0, none⟩)] (W.drewN q) fun r W' => r = .returned (.bool m) ∧ W' = W.drewN q) := fun q => by rw [hm]; exact t_moved tb cell x.most x.pos x.stamp x.err x.moved _ (HT q)
    rw [← hd] at c11
    rw [← he] at c12
    rw [← hm] at c13
    clear h P T hn hd he hm HT
    go_enter Try.func26, Try.ntmps26
    go_wp2_with fail
    go_quiet (first | (go_at_call 14; refine (H1.out _).mono ?_; rintro x y ⟨rfl, rfl⟩; exact ⟨rfl, _, rfl⟩) | (go_at_call 12; refine (H2.out _).mono ?_; rintro x y ⟨rfl, rfl⟩; exact ⟨rfl, _, rfl⟩) | (go_at_call 10; refine (H3.out _).mono ?_; rintro x y ⟨rfl, rfl⟩; exact ⟨rfl, _, rfl⟩))
    go_wp2_with fail
    go_ret
    exact ⟨by simp, _, rfl⟩
  · have P := h.proc
    have N := h.now
    rw [hn] at P N
    simp only [if_true] at P N
    have c0 : W.cell? ⟨pb, 0, none⟩ = some (.bool true) := cell_of P 0
    have c2 : W.cell? ⟨pb, 2, none⟩ = some (.pointer (some ⟨nb, 0, none⟩)) := cell_of P 2
    have c6 : W.cell? ⟨pb, 6, none⟩ = some (.int .u64 (x.stamp : Int)) := cell_of P 6
    obtain ⟨d, hd⟩ : ∃ d, d = x.stamp := ⟨_, rfl⟩
    have H1 : Hid (∀ q, Calls Try.prog 13 #[.pointer (some ⟨nb, 0, none⟩)] (W.drewN q) fun r W' => r = .returned (.int .u64 (d : Int)) ∧ W' = W.drewN q) := fun q => by rw [hd]; exact n_stamp nb cell x.pos x.stamp _ (N.chg (Goes.drewN W (fun _ => False) q).chg (fun h => h))
    rw [← hd] at c6
    clear h P N hn hd
    go_enter Try.func26, Try.ntmps26
    go_wp2_with fail
    go_quiet (first | (go_at_call 13; refine (H1.out _).mono ?_; rintro x y ⟨rfl, rfl⟩; exact ⟨rfl, _, rfl⟩))
    go_wp2_with fail
    go_ret
    exact ⟨by simp, _, rfl⟩
end Go.Proofs.Ytinhcphhdehmhaa
