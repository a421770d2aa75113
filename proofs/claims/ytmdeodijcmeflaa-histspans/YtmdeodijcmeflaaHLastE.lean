/- The document's events: the last one of a thread; which may follow. -/
import Derived.Test.YtmdeodijcmeflaaHRefP
import Derived.Test.YtmdeodijcmeflaaHSpans
import Derived.Laws.ResultCell
namespace Go.Proofs.Ytmdeodijcmeflaa
open Go.RowKit Go.Maps

theorem lastEv_no {es : List Evt} {j : Nat} {e : Evt} {th : Int} (he : es[j]? = some e) (hne : e.th ≠ th) : lastEv es (j + 1) th = lastEv es j th := by rw [lastEv_succ he, if_neg hne]
def evV (o : Option Evt) : Value := match o with
  | none => .tuple #[.agg #[.int .i64 0, .int .i64 0, .int .i64 0, .bool false], .bool false]
  | some w => .tuple #[.agg #[.int .i64 w.st, .int .i64 w.th, .int .i64 w.ix, .bool w.ret], .bool true]
set_option maxRecDepth 100000 in
set_option maxHeartbeats 2000000 in
theorem r_last (p : Option Addr) (c k : Nat) (es : List Evt) (th : Int) (W : World) (h : EReads W p es) (hk : k ≤ es.length) (hl : es.length ≤ 4398046511104) :
    Calls Try.prog 39 #[.slice p k c, .int .i64 th] W fun e W' => e = .returned (evV (lastEv es k th)) ∧ Chg (fun _ => False) W W' := by
  have HP := keepH h
  have HK := keepH hk
  obtain ⟨w0, hw0⟩ : ∃ w0, w0 = W.alloc (.cells #[.int .i64 0, .int .i64 0, .int .i64 0, .bool false] 46) := ⟨_, rfl⟩
  have HC0 : Hid (Chg (fun _ => False) W w0) := by rw [hw0]; exact (Chg.refl _ _).alloc _
  have hkl : k ≤ 4398046511104 := by omega
  have HW := keepH hw0
  clear h hw0 hk hl
  go_enter Try.func39, Try.ntmps39
  go_wp2_with fail
  rw [← HW.out]
  go_loopw [6] (fun s wr => ∃ j : Nat, j ≤ k ∧ s = .int .i64 ((j : Int) - 1) ∧ Hid (lastEv es k th = lastEv es j th ∧ wr = w0)) (fun s _ => (intOf s + 1).toNat)
  case atStart => exact ⟨k, by omega, rfl, keepH ⟨rfl, rfl⟩⟩
  case round =>
    obtain ⟨j, hj, rfl, HJ⟩ := hrel
    have e1 : wr = w0 := HJ.out.2
    rw [e1]
    clear e1
    cases j with
    | zero =>
      have t1 : ¬ (0 : Int) ≤ (0 : Int) - 1 := by omega
      have HE : Hid (lastEv es k th = none) := HJ.out.1
      have q0 : w0.cell? ⟨W.heap.size, 0, none⟩ = some (.int .i64 0) := by rw [HW.out]; simp
      have f0 : w0.heap[W.heap.size]? = some (.cells #[.int .i64 0, .int .i64 0, .int .i64 0, .bool false] 46) := by rw [HW.out]; exact heap_alloc_new _ _
      clear q0 f0
      rw [HW.out]
      go_wp2_with fail
      refine bodyPost_ret (v := evV (lastEv es k th)) (by rw [HE.out]; simp [results, Try.results39, go_sem, evV]) rfl ⟨rfl, (Chg.refl _ _).alloc _⟩
    | succ j =>
      have t1 : (0 : Int) ≤ (j : Int) := by omega
      have e1 : ((j + 1 : Nat) : Int) - 1 = (j : Int) := by omega
      rw [e1]
      clear e1
      have t2 : (j : Int) < (k : Int) := by omega
      obtain ⟨e, he⟩ : ∃ e, es[j]? = some e := ⟨es[j]'(by have := HK.out; omega), List.getElem?_eq_getElem _⟩
      obtain ⟨bk, off, rfl, hbk, c0, c1, c2, c3⟩ := (HP.out.chg HC0.out (fun _ _ x => x)).get j e he
      have HE := keepH he
      clear he hbk
      by_cases hth : e.th = th
      · have HV : Hid (lastEv es k th = some e) := by
          show _ = _
          rw [HJ.out.1, lastEv_succ HE.out, if_pos hth]
        rw [HW.out] at c0 c1 c2 c3 ⊢
        go_wp2_with fail
        refine bodyPost_ret (v := evV (lastEv es k th)) (by rw [HV.out]; simp [results, Try.results39, go_sem, evV, hth]) rfl ⟨rfl, (Chg.refl _ _).alloc _⟩
      · go_wp2_with fail
        go_roundw
        case rel => exact ⟨j, by omega, by first | rfl | go_num, keepH ⟨by rw [HJ.out.1, lastEv_no HE.out hth], by first | rfl | trivial⟩⟩
        case measure => simp [intOf]
end Go.Proofs.Ytmdeodijcmeflaa
