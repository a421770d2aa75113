/- A list of ints that came in; a run over one; which. -/
import Derived.Test.YtmckdefijcnhcacSAddR
import Derived.Test.YtmckdefijcnhcacRows
import Derived.WalkKit
import Derived.ProofKit
import Derived.OpenShut
namespace Go.Proofs.Ytmckdefijcnhcac
open Go.RowKit Go.Shelf Go.ChangeShapes Go.WideShapes Go.ChangeAt

def IReads (W : World) (p : Option Addr) (xs : List Int) : Prop :=
  xs = [] ∨ ∃ bk off, p = some ⟨bk, off, none⟩ ∧ bk < W.heap.size ∧ ∀ i x, xs[i]? = some x → W.cell? ⟨bk, off + i, none⟩ = some (.int .i64 x)
theorem IReads.get {W : World} {p : Option Addr} {xs : List Int} (h : IReads W p xs) (i : Nat) (x : Int) (hx : xs[i]? = some x) : ∃ bk off, p = some ⟨bk, off, none⟩ ∧ bk < W.heap.size ∧ W.cell? ⟨bk, off + i, none⟩ = some (.int .i64 x) := by
  rcases h with rfl | ⟨bk, off, rfl, hb, h⟩
  · simp at hx
  · exact ⟨bk, off, rfl, hb, h i x hx⟩
theorem IReads.chg {W X : World} {p : Option Addr} {xs : List Int} (h : IReads W p xs) (hc : Chg (fun _ => False) W X) : IReads X p xs := by
  rcases h with rfl | ⟨bk, off, rfl, hb, h⟩
  · exact .inl rfl
  · exact .inr ⟨bk, off, rfl, Nat.lt_of_lt_of_le hb hc.size, fun i x hx => cell_chg hc (h i x hx) (fun h => h)⟩

theorem i_bulk_one {H : Type} (d : DataW H) : 1 ≤ Rows.uptoBulk d := by
  cases d with
  | lit l => cases l <;> simp [Rows.uptoBulk]
  | nil => simp [Rows.uptoBulk]
  | ptr d => simp [Rows.uptoBulk]
  | slice elems spare => simp [Rows.uptoBulk]
  | agg parts => simp [Rows.uptoBulk]
  | iface t d => simp [Rows.uptoBulk]
  | map entries => simp [Rows.uptoBulk]
  | held h => simp [Rows.uptoBulk]
theorem i_bulk_length {H : Type} (l : List (DataW H)) : l.length ≤ Rows.uptoBulkAll l := by
  induction l with
  | nil => simp [Rows.uptoBulkAll]
  | cons x r ih => have := i_bulk_one x; simp only [Rows.uptoBulkAll, List.length_cons]; omega
theorem coInt : Try.prog.cellsOf 3 = 1 := by kernel_rfl

set_option maxRecDepth 100000 in
theorem ints_open {H : Type} {enc : TypeId × Value → H} {W : World} {sp : Nat → Bool} {held : Bool} {p : Option Addr} {n c : Nat} {d : DataW H} {ps : List MemPlace} (h : DataW.Trod enc Try.prog W 0 sp held 23 (.slice p n c) d ps) :
    ∃ xs : List Int, xs.length = n ∧ IReads W p xs ∧ n ≤ Rows.uptoBulk d ∧ ∀ x ∈ xs, (Lit.int .i64 x).wf = true := by
  obtain ⟨fuel, hf⟩ := h
  rcases open_ints Try.underlying23 Try.underlying3 coInt hf with ⟨hcs, _⟩ | ⟨a, len, cap, zs, hcs, _, hl, hm, hme, hx, hi, hw⟩
  · simp [Value.cells] at hcs
    obtain ⟨rfl, rfl, rfl⟩ := hcs
    exact ⟨[], rfl, .inl rfl, Nat.zero_le _, fun x hx => by simp at hx⟩
  · simp [Value.cells] at hcs
    obtain ⟨rfl, rfl, rfl⟩ := hcs
    have hmn : n ≤ zs.length := by rw [hme]; split <;> omega
    have hb : n ≤ Rows.uptoBulk d := by
      simp only [Prod.mk.injEq] at hx
      rw [hx.1]
      have := i_bulk_length (H := H) (lits .i64 (zs.take n))
      simp only [Rows.uptoBulk]
      have e : (lits (H := H) .i64 (zs.take n)).length = n := by simp [lits]; omega
      omega
    refine ⟨zs.take n, by simp; omega, ?_, hb, fun x hx => hw x (List.mem_of_mem_take hx)⟩
    rcases Nat.eq_zero_or_pos n with h0 | h0
    · exact .inl (by rw [h0]; rfl)
    · obtain ⟨bk, off, spot⟩ := a
      have c0 := hi 0 (by omega)
      have hspot : spot = none := by simpa [Addr.add] using World.cell?_spot c0
      subst hspot
      have hbk : bk < W.heap.size := by
        by_cases cb : bk < W.heap.size
        · exact cb
        · simp [World.cell?, Addr.add, Array.getElem?_eq_none (show W.heap.size ≤ bk by omega)] at c0
      refine .inr ⟨bk, off, rfl, hbk, fun i x hx => ?_⟩
      have hin : i < n := by
        have := (List.getElem?_eq_some_iff.1 hx).1
        simp at this
        omega
      rw [List.getElem?_take, if_pos hin] at hx
      have e := hi i (by omega)
      rw [List.getD_eq_getElem?_getD, hx] at e
      have e3 : (⟨bk, off, none⟩ : Addr).add i = ⟨bk, off + i, none⟩ := by
        unfold Addr.add
        split <;> simp
      rw [← e3]
      simpa using e

theorem ARun.lt {W X : World} {r m b T k : Nat} {vb ps : Nat → Nat} {picks : List Int} (h : ARun W X r m b T vb ps picks k) : Chg (fun _ => False) W X := by
  obtain ⟨G, K, vw, tv, ev, av, ths, evs, ats, s, h⟩ := h
  exact h.chg

set_option maxRecDepth 100000 in
set_option maxHeartbeats 2000000 in
theorem ar_run {W X : World} {r m b T : Nat} {vb ps : Nat → Nat} {picks : List Int} (p : Option Addr) (c : Nat) (h : ARun W X r m b T vb ps picks 0) (hp : IReads W p picks) (hn : picks.length ≤ 1048576) :
    Calls Try.prog 8 #[.pointer (some ⟨r, 0, none⟩), .slice p picks.length c] X fun e X' => e = .returned (.tuple #[]) ∧ ARun W X' r m b T vb ps picks picks.length := by
  have H := keepH h
  have HP := keepH hp
  clear h hp
  go_enter Try.func8, Try.ntmps8
  go_wp2_with fail
  go_loopw [8] (fun s wr => ∃ k : Nat, k ≤ picks.length ∧ s = .int .i64 (k : Int) ∧ Hid (ARun W wr r m b T vb ps picks k)) (fun s _ => picks.length - (intOf s).toNat)
  case atStart => exact ⟨0, by omega, rfl, H⟩
  case round =>
    obtain ⟨k, hk, rfl, HK⟩ := hrel
    by_cases hlt : k < picks.length
    · have t1 : (k : Int) < (picks.length : Int) := by omega
      obtain ⟨x, hx⟩ : ∃ x, picks[k]? = some x := ⟨picks[k], List.getElem?_eq_getElem hlt⟩
      obtain ⟨bk, off, rfl, _, cx⟩ := (HP.out.chg HK.out.lt).get k x hx
      have HX := keepH hx
      obtain ⟨k1, hk1⟩ : ∃ k1, k1 = k + 1 := ⟨_, rfl⟩
      have wk : IntKind.i64.wrap ((k : Int) + 1) = (k1 : Int) := by rw [IntKind.wrap_i64]; omega
      clear hx
      go_wp2_with fail
      refine (ar_pick HK.out x HX.out (by omega)).mono ?_
      rintro e w' ⟨v, rfl, A'⟩
      have HA := keepH A'
      clear A'
      go_wp2_with fail
      refine ⟨⟨k + 1, by omega, by simp, HA⟩, by simp [intOf]; omega⟩
    · have t1 : ¬ (k : Int) < (picks.length : Int) := by omega
      go_wp2_with fail
      go_end0
      obtain rfl : k = picks.length := by omega
      exact ⟨rfl, HK.out⟩

set_option maxRecDepth 100000 in
theorem s_which (n : Int) (W : World) : Calls Try.prog 24 #[.int .i64 n, .int .i64 50] W fun e W' => ∃ k : Nat, k < 50 ∧ e = .returned (.int .i64 (k : Int)) ∧ W' = W := by
  have hzl : -50 < Int.tmod n 50 ∧ Int.tmod n 50 < 50 := ⟨Int.lt_tmod_of_pos n (by decide), Int.tmod_lt_of_pos n (by decide)⟩
  by_cases h0 : Int.tmod n 50 < 0
  · obtain ⟨k, hk⟩ : ∃ k : Nat, (k : Int) = Int.tmod n 50 + 50 := ⟨(Int.tmod n 50 + 50).toNat, by omega⟩
    have wz2 : IntKind.i64.wrap (Int.tmod n 50 + 50) = (k : Int) := by rw [IntKind.wrap_i64]; omega
    go_enter Try.func24, Try.ntmps24
    go_wp2_with fail
    go_ret
    exact ⟨k, by omega, by simp; omega, rfl⟩
  · obtain ⟨k, hk⟩ : ∃ k : Nat, (k : Int) = Int.tmod n 50 := ⟨(Int.tmod n 50).toNat, by omega⟩
    go_enter Try.func24, Try.ntmps24
    go_wp2_with fail
    go_ret
    exact ⟨k, by omega, by simp [hk], rfl⟩
end Go.Proofs.Ytmckdefijcnhcac
