/- Check and Memory of both sides, at every number of cells and every trace. -/
import Derived.Test.YtjodechhnobkhaaGreatDoorRvc
namespace Go.Proofs.YtjodechhnobkhaaGreatDoor
open Go.RowKit Go.Shelf
set_option linter.unusedVariables false

theorem chgBel' {w w' : World} (h : Chg (fun _ => False) w w') : Below w.heap.size w w' := ⟨h.os, h.tape, h.output, h.size, fun i hi => h.block i hi (fun x => x)⟩
def MemQ (W : World) (E : Nat) (L : List Nat) (v : Value) (W' : World) : Prop := ∃ (q : Option Addr) (d : Nat), v = .tuple #[.slice q L.length d, .int .i64 (E : Int)] ∧ URd W' q L ∧ Below W.heap.size W W'
theorem outL_err {z : Int} {xs : List Ax} (h : outE z xs ≠ 0) : outL z xs = [] := by unfold outL; rw [if_neg h]
theorem outL_ok {n : Nat} {xs : List Ax} (h : outE (n : Int) xs = 0) : outL (n : Int) xs = cellsL n (msEnd n ⟨1, []⟩ xs).cs := by unfold outL; rw [if_pos h]; simp only [Int.toNat_natCast]
set_option maxRecDepth 100000 in
theorem fcheck_any (z : Int) (p : Option Addr) (c : Nat) (xs : List Ax) (W : World) (h : ARd W p xs) (hok : ∀ x ∈ xs, x.Ok) (hl : xs.length ≤ 1048576) (hvl : ∀ x ∈ xs, x.vals.length ≤ 1048576) :
    Calls Tryz.prog 6 #[.int .i64 z, .slice p xs.length c] W fun e W' => e = .returned (.tuple #[.int .i64 (outE z xs : Int), .int .i64 (outN z xs : Int)]) ∧ Below W.heap.size W W' := by
  have hg := gop z p c xs W h hok hl hvl
  obtain ⟨E, hE⟩ : ∃ E, E = outE z xs := ⟨_, rfl⟩
  obtain ⟨M, hM⟩ : ∃ M, M = outN z xs := ⟨_, rfl⟩
  obtain ⟨N, hN⟩ : ∃ N, N = xs.length := ⟨_, rfl⟩
  rw [← hE, ← hM]
  rw [← hN] at hg ⊢
  have HE := keepH hE
  have HM := keepH hM
  clear h hok hl hvl hE hM hN
  go_enter Tryz.func6, Tryz.ntmps6
  go_wp2_with fail
  refine hg.mono ?_
  rintro e w1 ⟨v, rfl, hB, hv⟩
  rw [← HE.out, ← HM.out] at hv
  rcases hv with ⟨_, rfl⟩ | ⟨h0, n, m, b, F, l, _, _, _, rfl, _⟩
  · clear hg
    go_wp2_with fail
    go_ret2
    exact ⟨rfl, hB⟩
  · subst h0
    clear hg
    go_wp2_with fail
    go_ret2
    exact ⟨rfl, hB⟩
set_option maxRecDepth 100000 in
theorem dcheck_any (z : Int) (p : Option Addr) (c : Nat) (xs : List Ax) (W : World) (h : In W p xs) :
    Calls Tryz.prog 7 #[.int .i64 z, .slice p xs.length c] W fun e W' => e = .returned (.tuple #[.int .i64 (outE z xs : Int), .int .i64 (outN z xs : Int)]) ∧ Below W.heap.size W W' := by
  have hg := god z p c xs W h
  obtain ⟨E, hE⟩ : ∃ E, E = outE z xs := ⟨_, rfl⟩
  obtain ⟨M, hM⟩ : ∃ M, M = outN z xs := ⟨_, rfl⟩
  obtain ⟨N, hN⟩ : ∃ N, N = xs.length := ⟨_, rfl⟩
  rw [← hE, ← hM]
  rw [← hN] at hg ⊢
  have HE := keepH hE
  have HM := keepH hM
  clear h hE hM hN
  go_enter Tryz.func7, Tryz.ntmps7
  go_wp2_with fail
  refine hg.mono ?_
  rintro e w1 ⟨v, rfl, hB, hv⟩
  rw [← HE.out, ← HM.out] at hv
  rcases hv with ⟨_, rfl⟩ | ⟨h0, n, m, b, _, rfl, _⟩
  · clear hg
    go_wp2_with fail
    go_ret2
    exact ⟨rfl, hB⟩
  · subst h0
    clear hg
    go_wp2_with fail
    go_ret2
    exact ⟨rfl, hB⟩
set_option maxRecDepth 100000 in
theorem dmem_any (z : Int) (p : Option Addr) (c : Nat) (xs : List Ax) (W : World) (h : In W p xs) :
    Calls Tryz.prog 9 #[.int .i64 z, .slice p xs.length c] W fun e W' => ∃ v, e = .returned v ∧ MemQ W (outE z xs) (outL z xs) v W' := by
  have hg := god z p c xs W h
  obtain ⟨M, hM⟩ : ∃ M, M = outN z xs := ⟨_, rfl⟩
  obtain ⟨N, hN⟩ : ∃ N, N = xs.length := ⟨_, rfl⟩
  rw [← hN] at hg ⊢
  have HM := keepH hM
  clear h hM hN
  go_enter Tryz.func9, Tryz.ntmps9
  go_wp2_with fail
  refine hg.mono ?_
  rintro e w1 ⟨v, rfl, hB, hv⟩
  rw [← HM.out] at hv
  rcases hv with ⟨h0, rfl⟩ | ⟨h0, n, nm, nc, rfl, rfl, hc, ho⟩
  · have HL := keepH (outL_err h0)
    obtain ⟨E, hE⟩ : ∃ E, E = outE z xs := ⟨_, rfl⟩
    have HE := keepH hE
    rw [← hE] at h0 ⊢
    have q1 : ((E : Int) != 0) = true := by simp; exact h0
    have q2 : ¬ (E : Int) = 0 := by omega
    clear hg hE
    go_wp2_with fail
    go_ret2
    exact ⟨_, rfl, none, 0, by rw [HL.out, ← HE.out]; rfl, by rw [HL.out]; exact Or.inl rfl, hB⟩
  · have HL := keepH (outL_ok h0)
    have HO := keepH ho
    have H0 := keepH h0
    clear hg ho h0
    go_wp2_with fail
    go_ret2
    exact ⟨_, rfl, some ⟨nc, 0, none⟩, n, by rw [HL.out, cellsL_len, H0.out]; rfl, by rw [HL.out]; exact own_rd HO.out, hB⟩
/-- the program's memory, read cell by cell into a row of its own -/
structure RIq (W wr : World) (m b g n : Nat) (F : Nat → Prop) (nx : Nat) (cs : List Nat) (l : List Acc) (os : List Nat) (i : Nat) : Prop where
  bel : Below W.heap.size W wr
  mem : IsMem wr m b
  bank : Bank wr F b n nx cs l
  own : IsOwn wr g os
  len : os.length = n
  up : ∀ j, j < i → cellN os j = cellN cs j
  nF : ¬ F g
  nm : m ≠ g
  ng : W.heap.size ≤ g
theorem RIq.put {W wr : World} {m b g n : Nat} {F : Nat → Prop} {nx : Nat} {cs : List Nat} {l : List Acc} {os : List Nat} {i : Nat} (h : RIq W wr m b g n F nx cs l os i) (hi : i < n) : RIq W (wr.setCell ⟨g, i, none⟩ (.int .u64 (cellN cs i : Int))) m b g n F nx cs l (os.set i (cellN cs i)) (i + 1) := by
  have hc : Chg (fun k => k = g) wr (wr.setCell ⟨g, i, none⟩ (.int .u64 (cellN cs i : Int))) := (Chg.refl (fun k => k = g) wr).setCell (fun _ => rfl) _
  refine ⟨h.bel.setCell h.ng _, h.mem.chg hc h.nm, h.bank.chg hc (fun k hk e => h.nF (e ▸ hk)), h.own.set i _, by rw [List.length_set]; exact h.len, fun j hj => ?_, h.nF, h.nm, h.ng⟩
  rw [cellN_set _ _ _ _ (by rw [h.len]; exact hi)]
  by_cases e : j = i
  · rw [if_pos e, e]
  · rw [if_neg e]; exact h.up j (by omega)
set_option maxRecDepth 100000 in
set_option maxHeartbeats 2000000 in
theorem fmem_any (z : Int) (p : Option Addr) (c : Nat) (xs : List Ax) (W : World) (h : ARd W p xs) (hok : ∀ x ∈ xs, x.Ok) (hl : xs.length ≤ 1048576) (hvl : ∀ x ∈ xs, x.vals.length ≤ 1048576) :
    Calls Tryz.prog 8 #[.int .i64 z, .slice p xs.length c] W fun e W' => ∃ v, e = .returned v ∧ MemQ W (outE z xs) (outL z xs) v W' := by
  have hg := gop z p c xs W h hok hl hvl
  obtain ⟨M, hM⟩ : ∃ M, M = outN z xs := ⟨_, rfl⟩
  obtain ⟨N, hN⟩ : ∃ N, N = xs.length := ⟨_, rfl⟩
  rw [← hN] at hg ⊢
  have HM := keepH hM
  clear h hok hl hvl hM hN
  go_enter Tryz.func8, Tryz.ntmps8
  go_wp2_with fail
  refine hg.mono ?_
  rintro e w1 ⟨v, rfl, hB, hv⟩
  rw [← HM.out] at hv
  rcases hv with ⟨h0, rfl⟩ | ⟨h0, n, m, b, F, l, rfl, hn1, hn2, rfl, hm, hb, hF, hm0⟩
  · have HL := keepH (outL_err h0)
    obtain ⟨E, hE⟩ : ∃ E, E = outE z xs := ⟨_, rfl⟩
    have HE := keepH hE
    rw [← hE] at h0 ⊢
    have q1 : ((E : Int) != 0) = true := by simp; exact h0
    have q2 : ¬ (E : Int) = 0 := by omega
    clear hg hE
    go_wp2_with fail
    go_ret2
    exact ⟨_, rfl, none, 0, by rw [HL.out, ← HE.out]; rfl, by rw [HL.out]; exact Or.inl rfl, hB⟩
  · have HL := keepH (outL_ok h0)
    have H0 := keepH h0
    obtain ⟨cs, hcs⟩ : ∃ cs, cs = (msEnd n ⟨1, []⟩ xs).cs := ⟨_, rfl⟩
    obtain ⟨nx, hnx⟩ : ∃ nx, nx = (msEnd n ⟨1, []⟩ xs).next := ⟨_, rfl⟩
    rw [← hcs, ← hnx] at hb
    rw [← hcs] at HL
    have hce := m_cells m b n nx F cs l w1 hm hb
    obtain ⟨w2, hmk, hOwn, hC2, hS2⟩ := make_u64s n hn2 w1
    obtain ⟨g, hgg⟩ : ∃ g, g = w1.heap.size := ⟨_, rfl⟩
    rw [← hgg] at hmk hOwn
    have H2 : Hid (RIq W w2 m b g n F nx cs l (List.replicate n 0) 0) := keepH (by
      have hlt := hb.lt
      exact ⟨below_chain hB (chgBel' hC2), hm.chg hC2 (fun x => x), hb.chg hC2 (fun _ _ x => x), hOwn, by simp, fun j hj => by omega, fun e => by have := hlt g e; omega, by have := lt_of hm; omega, by have := hB.size; omega⟩)
    have HMK := keepH hmk
    clear hg hcs hnx h0 hm hb hF hm0 hOwn hC2 hS2 hgg hB
    go_wp2_with (first | (go_at_call 18; refine hce.mono ?_; rintro e w9 ⟨rfl, hw9⟩; rw [hw9]; clear hw9 w9) | go_in)
    go_loopw [10, 26] (fun s10 s26 wr => ∃ i : Nat, i ≤ n ∧ s26 = .int .i64 (i : Int) ∧ Hid (∃ os, RIq W wr m b g n F nx cs l os i)) (fun _ s26 _ => n - (intOf s26).toNat)
    case atStart => exact ⟨0, by omega, rfl, keepH ⟨_, H2.out⟩⟩
    case round =>
      clear H2
      obtain ⟨i, hi, rfl, HI⟩ := hrel
      obtain ⟨os, hR⟩ := HI.out
      have HR := keepH hR
      by_cases hlt : i < n
      · have q1 : (i : Int) < (n : Int) := by omega
        have q0 : (0 : Int) ≤ (i : Int) := by omega
        have qu : IntKind.u64.wrap (i : Int) = (i : Int) := by rw [IntKind.wrap_u64]; omega
        have hpk := m_peek m b n nx i F cs l wr hR.mem hR.bank (by omega)
        have x1 : wr.cell? ⟨g, i, none⟩ = some (.int .u64 (cellN os i : Int)) := hR.own.cell i (by rw [hR.len]; exact hlt)
        have z1 := free_of hR.own i
        have HN := keepH (hR.put hlt)
        obtain ⟨cv, hcv⟩ : ∃ cv, cv = cellN cs i := ⟨_, rfl⟩
        rw [← hcv] at hpk HN
        clear hR hcv
        go_wp2_with (first | (go_at_call 19; refine hpk.mono ?_; rintro e w9 ⟨rfl, hw9⟩; rw [hw9]; clear hw9 w9) | go_in)
        go_roundw
        case rel => exact ⟨i + 1, by omega, by first | rfl | go_num, keepH ⟨_, HN.out⟩⟩
        case measure => simp [intOf]; omega
      · obtain rfl : i = n := by omega
        have q1 : ¬ (i : Int) < (i : Int) := by omega
        have HOS := keepH (own_list hR.len hR.up)
        clear hR
        go_wp2_with fail
        go_ret2
        refine ⟨_, rfl, some ⟨g, 0, none⟩, i, ?_, ?_, HR.out.bel⟩
        · rw [HL.out, cellsL_len, H0.out]; rfl
        · rw [HL.out, ← HOS.out]; exact own_rd HR.out.own
end Go.Proofs.YtjodechhnobkhaaGreatDoor
