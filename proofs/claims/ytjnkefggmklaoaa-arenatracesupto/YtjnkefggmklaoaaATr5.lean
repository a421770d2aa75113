/- 'done', of any access that plays; a memory of a size that is none; which. -/
import Derived.Test.YtjnkefggmklaoaaATr4
namespace Go.Proofs.Ytjnkefggmklaoaa
open Go.RowKit Go.Shelf
set_option linter.unusedVariables false

theorem l_done (g n next next' : Nat) (os cs cs' : List Nat) (x : Acc) (W : World) (ho : IsOwn W g os) (hO : Own os cs n) (hn : 128 ≤ n ∧ n ≤ 4194304) (hnx : 1 ≤ next ∧ next ≤ n) (hP : Ply n cs next x cs' next') (ha : x.addr < 18446744073709551616) (hc : ∀ i, cellN cs i < 18446744073709551616) (hr : W.ownsRow 0 28 1 x.vs x.vals.length (x.vals.map u64V)) (hg : x.vs.ownBlock ≠ some g) (hlen : x.vals.length ≤ 1048576) :
    Calls Try.prog 17 #[.slice (some ⟨g, 0, none⟩) n n, .int .i64 (next : Int), accV x.th x.kind x.addr x.a x.b x.vs x.got x.ok] W fun e W' => e = .returned (.tuple #[.int .i64 (next' : Int), .bool true]) ∧ ∃ os', IsOwn W' g os' ∧ Own os' cs' n ∧ Chg (fun k => k = g) W W' := by
  obtain ⟨p, c, hv⟩ := slice_of hr
  rcases hP with ⟨k, q, rfl, rfl⟩ | ⟨k, rfl, rfl⟩ | ⟨k, q, rfl, rfl⟩ | ⟨k, q, rfl, rfl⟩ | ⟨k, q, rfl, rfl⟩
  · have h := l_done1 g n next' os cs' x p c W ho hO hn (.inl k) q ha hc hv
    simpa only [if_pos k] using h
  · exact l_done2 g n next' os cs x p c W ho hO hn k hv
  · exact l_done3 g n next' os cs x p c W ho hO hn k q hv
  · have h := l_done1 g n next' os cs x p c W ho hO hn (.inr k) q ha hc hv
    simpa only [if_neg (show ¬ x.kind = 1 by omega)] using h
  · exact l_done5 g n next os cs x W ho hO hn hnx k q hr hg hlen

set_option maxRecDepth 100000 in
theorem m_new_out (z : Int) (W : World) (hz : z < 128 ∨ 4194304 < z) : Calls Try.prog 7 #[.int .i64 z, .bool false] W fun e W' => ∃ k : Int, k ≠ 0 ∧ e = .returned (.tuple #[.pointer none, .int .i64 k]) ∧ W' = W := by
  by_cases h1 : z < 128
  · go_enter Try.func7, Try.ntmps7
    go_wp2_with fail
    go_ret2
    refine ⟨_, ?_, by simp; rfl, rfl⟩
    decide
  · have h2 : 4194304 < z := by omega
    go_enter Try.func7, Try.ntmps7
    go_wp2_with fail
    go_ret2
    refine ⟨_, ?_, by simp; rfl, rfl⟩
    decide

set_option maxRecDepth 100000 in
theorem s_which5 (n : Int) (W : World) : Calls Try.prog 10 #[.int .i64 n, .int .i64 5] W fun e W' => ∃ k : Nat, k < 5 ∧ e = .returned (.int .i64 (k : Int)) ∧ W' = W := by
  have hzl : -5 < Int.tmod n 5 ∧ Int.tmod n 5 < 5 := ⟨Int.lt_tmod_of_pos n (by decide), Int.tmod_lt_of_pos n (by decide)⟩
  by_cases h0 : Int.tmod n 5 < 0
  · obtain ⟨k, hk⟩ : ∃ k : Nat, (k : Int) = Int.tmod n 5 + 5 := ⟨(Int.tmod n 5 + 5).toNat, by omega⟩
    have wz2 : IntKind.i64.wrap (Int.tmod n 5 + 5) = (k : Int) := by rw [IntKind.wrap_i64]; omega
    go_enter Try.func10, Try.ntmps10
    go_wp2_with fail
    go_ret
    exact ⟨k, by omega, by simp; omega, rfl⟩
  · obtain ⟨k, hk⟩ : ∃ k : Nat, (k : Int) = Int.tmod n 5 := ⟨(Int.tmod n 5).toNat, by omega⟩
    go_enter Try.func10, Try.ntmps10
    go_wp2_with fail
    go_ret
    exact ⟨k, by omega, by simp [hk], rfl⟩
end Go.Proofs.Ytjnkefggmklaoaa
