/- The document's look whether a moment is an edge; two lists of numbers, the same. -/
import Derived.Test.YtjodechhnobkhaaGreatDoorRwd
import Derived.BigQuiet
namespace Go.Proofs.YtjodechhnobkhaaGreatDoor
open Go.RowKit
set_option linter.unusedVariables false

theorem edge_one (m : Int × Int) (d : Dx) : m ∈ edgesOne d ↔ d.th = m.1 ∧ (d.fr = m.2 ∨ (0 ≤ d.til ∧ d.til = m.2)) := by
  obtain ⟨a, b⟩ := m
  unfold edgesOne
  split <;> simp <;> omega
theorem edge_no {m : Int × Int} {ds : List Dx} {k : Nat} {d : Dx} (hd : ds[k]? = some d) (h : m ∉ edgesL (ds.take k)) (hn : m ∉ edgesOne d) : m ∉ edgesL (ds.take (k + 1)) := by
  rw [edgesL_next hd, List.mem_append]
  exact fun x => x.elim h hn
theorem edge_yes {m : Int × Int} {ds : List Dx} {k : Nat} {d : Dx} (hd : ds[k]? = some d) (hn : m ∈ edgesOne d) : m ∈ edgesL ds := by
  unfold edgesL
  exact List.mem_flatMap.2 ⟨d, List.mem_of_getElem? hd, hn⟩
/-- a Result in its box, and what was there stays -/
structure BxSt (W : World) (B : Nat) (row : Array Value) (wr : World) : Prop where
  bx : wr.heap[B]? = some (.cells row 37 (0, 0))
  bel : Below W.heap.size W wr
theorem BxSt.on {W : World} {B : Nat} {row : Array Value} {wr X : World} (h : BxSt W B row wr) (hb : Below wr.heap.size wr X) : BxSt W B row X :=
  ⟨by rw [hb.block B (Array.getElem?_eq_some_iff.1 h.bx).1]; exact h.bx, below_chain h.bel hb⟩

set_option maxRecDepth 100000 in
set_option maxHeartbeats 4000000 in
theorem ends_any (pd : Option Addr) (cd : Nat) (ds : List Dx) (pt : Option Addr) (ct : Nat) (tr : List Ax) (ps : Option Addr) (cs : Nat) (st : List Int) (i : Nat) (W : World) (hd : DRd W pd ds) (ht : ARd W pt tr) (hs : IRd W ps st) (hi : i < tr.length) (hl : tr.length ≤ 1048576) (hl' : st.length ≤ 1048576) (hld : ds.length ≤ 1048576) :
    Calls Tryz.prog 27 #[ResV pd ds.length cd pt tr.length ct ps st.length cs, .int .i64 (i : Int)] W fun e W' => e = .returned (.bool (decide (momAt tr st i ∈ edgesL ds))) ∧ Below W.heap.size W W' := by
  obtain ⟨x, hx⟩ : ∃ x, tr[i]? = some x := ⟨tr[i], List.getElem?_eq_getElem hi⟩
  have HT := keepH ht
  have HD := keepH hd
  have HS := keepH hs
  have HX := keepH hx
  have t0 : (0 : Int) ≤ (i : Int) := by omega
  obtain ⟨n, hn⟩ : ∃ n, n = tr.length := ⟨_, rfl⟩
  have t1 : (i : Int) < (n : Int) := by omega
  rw [← hn] at hl ⊢
  have e1 : (momAt tr st i).1 = x.th := by simp [momAt, hx]
  obtain ⟨k, hk⟩ : ∃ k, k = momAt tr st i := ⟨_, rfl⟩
  have e2 : k.2 = st[i]?.getD (-1) := by rw [hk]; rfl
  rw [← hk] at e1 ⊢
  obtain ⟨th, at_⟩ := k
  simp only at e1 e2
  obtain ⟨m, hm⟩ : ∃ m, m = st.length := ⟨_, rfl⟩
  obtain ⟨nd, hnd⟩ : ∃ nd, nd = ds.length := ⟨_, rfl⟩
  rw [← hm] at hl' ⊢
  rw [← hnd] at hld ⊢
  unfold ResV
  obtain ⟨w1, hw1⟩ : ∃ w1, w1 = W.alloc (.cells #[.slice pd nd cd, .slice pt n ct, .slice ps m cs] 37) := ⟨_, rfl⟩
  obtain ⟨B, hB⟩ : ∃ B, B = W.heap.size := ⟨_, rfl⟩
  have S1 : BxSt W B #[.slice pd nd cd, .slice pt n ct, .slice ps m cs] w1 := by
    rw [hw1, hB]
    exact ⟨heap_alloc_new _ _, below_alloc _ _⟩
  have HS1 := keepH S1
  have HW1 := keepH hw1
  have HB := keepH hB
  have HND := keepH hnd
  have b0 : w1.cell? ⟨B, 0, none⟩ = some (.slice pd nd cd) := cell_of S1.bx 0
  have b1 : w1.cell? ⟨B, 1, none⟩ = some (.slice pt n ct) := cell_of S1.bx 1
  have b2 : w1.cell? ⟨B, 2, none⟩ = some (.slice ps m cs) := cell_of S1.bx 2
  have HE1 := keepH e1
  have HM := keepH hm
  clear hd ht hs hx hn hk S1 hw1 hB hnd e1 hm
  by_cases hlt : i < m
  · have t2 : (i : Int) < (m : Int) := by omega
    obtain ⟨z, hz⟩ : ∃ z, st[i]? = some z := ⟨st[i]'(by have := HM.out; omega), List.getElem?_eq_getElem _⟩
    obtain ⟨bs, os, rfl, hbs, c0⟩ := (HS.out.on HS1.out.bel).get i z hz
    obtain rfl : at_ = z := by rw [e2, hz]; rfl
    clear e2 hz
    go_enter Tryz.func27, Tryz.ntmps27
    go_upto_region 1 with fail
    rw [← HW1.out, ← HB.out]
    go_wp2_with fail
    clear b0 b1 b2
    go_loopw [6] (fun s wr => ∃ k : Nat, k ≤ nd ∧ s = .int .i64 (k : Int) ∧ Hid (BxSt W B #[.slice pd nd cd, .slice pt n ct, .slice (some ⟨bs, os, none⟩) m cs] wr ∧ (th, at_) ∉ edgesL (ds.take k))) (fun s _ => nd - (intOf s).toNat)
    case atStart => exact ⟨0, by omega, rfl, keepH ⟨HS1.out, by simp [edgesL]⟩⟩
    case round =>
      obtain ⟨k, hk, rfl, HK⟩ := hrel
      have b0 : wr.cell? ⟨B, 0, none⟩ = some (.slice pd nd cd) := cell_of HK.out.1.bx 0
      have b1 : wr.cell? ⟨B, 1, none⟩ = some (.slice pt n ct) := cell_of HK.out.1.bx 1
      by_cases hlt2 : k < nd
      · have q1 : (k : Int) < (nd : Int) := by omega
        have q0 : (0 : Int) ≤ (k : Int) := by omega
        obtain ⟨d, hdk⟩ : ∃ d, ds[k]? = some d := ⟨ds[k]'(by have := HND.out; omega), List.getElem?_eq_getElem _⟩
        obtain ⟨bd, od, rfl, hbd, hc⟩ := (HD.out.on HK.out.1.bel).get k d hdk
        obtain ⟨bt, ot, vp, vc, rfl, hbt, a0, -⟩ := (HT.out.on HK.out.1.bel).get i x HX.out
        rw [← HE1.out] at a0
        have HNO := keepH (fun hn => edge_no (m := (th, at_)) hdk HK.out.2 hn)
        have HYS := keepH (edge_yes (m := (th, at_)) hdk)
        have HEO := keepH (edge_one (th, at_) d)
        obtain ⟨dth, didx, dfr, dtil, rest⟩ := d
        have d0 : wr.cell? ⟨bd, od + k * 22, none⟩ = some (.int .i64 dth) := hc 0 _ rfl
        have d1 : wr.cell? ⟨bd, od + k * 22 + 1, none⟩ = some (.int .i64 didx) := hc 1 _ rfl
        have d2 : wr.cell? ⟨bd, od + k * 22 + 2, none⟩ = some (.int .i64 dfr) := hc 2 _ rfl
        have d3 : wr.cell? ⟨bd, od + k * 22 + 3, none⟩ = some (.int .i64 dtil) := hc 3 _ rfl
        obtain ⟨w2, hw2⟩ : ∃ w2, w2 = wr.alloc (.cells #[.int .i64 dth, .int .i64 didx, .int .i64 dfr, .int .i64 dtil] 95) := ⟨_, rfl⟩
        have C2 : Below wr.heap.size wr w2 := by rw [hw2]; exact below_alloc _ _
        have X2 : w2.heap[wr.heap.size]? = some (.cells #[.int .i64 dth, .int .i64 didx, .int .i64 dfr, .int .i64 dtil] 95 (0, 0)) := by rw [hw2]; exact heap_alloc_new _ _
        have f0 : w2.cell? ⟨wr.heap.size, 0, none⟩ = some (.int .i64 dth) := cell_of X2 0
        have f2 : w2.cell? ⟨wr.heap.size, 2, none⟩ = some (.int .i64 dfr) := cell_of X2 2
        have f3 : w2.cell? ⟨wr.heap.size, 3, none⟩ = some (.int .i64 dtil) := cell_of X2 3
        have g1 : w2.cell? ⟨B, 1, none⟩ = some (.slice (some ⟨bt, ot, none⟩) n ct) := cell_below b1 C2
        have g2 : w2.cell? ⟨bt, ot + i * 8, none⟩ = some (.int .i64 th) := cell_below a0 C2
        have HS2 := keepH (HK.out.1.on C2)
        have HW2 := keepH hw2
        clear hc hdk C2 X2 hw2
        go_upto_region 8 with fail
        rw [← HW2.out]
        clear b0 b1 d0 d1 d2 d3 a0
        by_cases u1 : dth = th
        · have v1 : (dth == th) = true := by simpa using u1
          by_cases u2 : dfr = at_
          · have v2 : (dfr == at_) = true := by simpa using u2
            have HY1 : Hid ((th, at_) ∈ edgesL ds) := keepH (HYS.out (HEO.out.2 (by simp only; omega)))
            go_quiet (fail)
            go_wp2_with fail
            go_ret
            exact ⟨by simp [HY1.out], below_drewN HS2.out.bel _⟩
          · have v2 : (dfr == at_) = false := by simpa using u2
            by_cases u3 : 0 ≤ dtil
            · by_cases u4 : dtil = at_
              · have v4 : (dtil == at_) = true := by simpa using u4
                have u5 : 0 ≤ at_ := by omega
                have HY1 : Hid ((th, at_) ∈ edgesL ds) := keepH (HYS.out (HEO.out.2 (by simp only; omega)))
                go_quiet (fail)
                go_wp2_with fail
                go_ret
                exact ⟨by simp [HY1.out], below_drewN HS2.out.bel _⟩
              · have v4 : (dtil == at_) = false := by simpa using u4
                have HN1 : Hid (BxSt W B #[.slice (some ⟨bd, od, none⟩) nd cd, .slice (some ⟨bt, ot, none⟩) n ct, .slice (some ⟨bs, os, none⟩) m cs] w2 ∧ (th, at_) ∉ edgesL (ds.take (k + 1))) := keepH ⟨HS2.out, HNO.out (fun hm => by have := HEO.out.1 hm; simp only at this; omega)⟩
                go_quiet (fail)
                go_wp2_with fail
                go_roundw
                case rel => exact ⟨k + 1, by omega, by first | rfl | go_num, keepH ⟨HN1.out.1.on (below_drewN (Below.refl _ _) _), HN1.out.2⟩⟩
                case measure => simp [intOf]; omega
            · 
              have HN1 : Hid (BxSt W B #[.slice (some ⟨bd, od, none⟩) nd cd, .slice (some ⟨bt, ot, none⟩) n ct, .slice (some ⟨bs, os, none⟩) m cs] w2 ∧ (th, at_) ∉ edgesL (ds.take (k + 1))) := keepH ⟨HS2.out, HNO.out (fun hm => by have := HEO.out.1 hm; simp only at this; omega)⟩
              go_quiet (fail)
              go_wp2_with fail
              go_roundw
              case rel => exact ⟨k + 1, by omega, by first | rfl | go_num, keepH ⟨HN1.out.1.on (below_drewN (Below.refl _ _) _), HN1.out.2⟩⟩
              case measure => simp [intOf]; omega
        · have v1 : (dth == th) = false := by simpa using u1
          have HN1 : Hid (BxSt W B #[.slice (some ⟨bd, od, none⟩) nd cd, .slice (some ⟨bt, ot, none⟩) n ct, .slice (some ⟨bs, os, none⟩) m cs] w2 ∧ (th, at_) ∉ edgesL (ds.take (k + 1))) := keepH ⟨HS2.out, HNO.out (fun hm => by have := HEO.out.1 hm; simp only at this; omega)⟩
          go_quiet (fail)
          go_wp2_with fail
          go_roundw
          case rel => exact ⟨k + 1, by omega, by first | rfl | go_num, keepH ⟨HN1.out.1.on (below_drewN (Below.refl _ _) _), HN1.out.2⟩⟩
          case measure => simp [intOf]; omega
      · obtain rfl : k = nd := by omega
        have q1 : ¬ (k : Int) < (k : Int) := by omega
        go_wp2_with fail
        go_ret
        have hf := HK.out.2
        rw [HND.out, List.take_length] at hf
        exact ⟨by simp [hf], HK.out.1.bel⟩
  · have t2 : ¬ (i : Int) < (m : Int) := by omega
    have hz : st[i]? = none := List.getElem?_eq_none (by have := HM.out; omega)
    obtain rfl : at_ = -1 := by rw [e2, hz]; rfl
    clear e2 hz
    go_enter Tryz.func27, Tryz.ntmps27
    go_upto_region 1 with fail
    rw [← HW1.out, ← HB.out]
    go_wp2_with fail
    clear b0 b1 b2
    go_loopw [6] (fun s wr => ∃ k : Nat, k ≤ nd ∧ s = .int .i64 (k : Int) ∧ Hid (BxSt W B #[.slice pd nd cd, .slice pt n ct, .slice ps m cs] wr ∧ (th, (-1)) ∉ edgesL (ds.take k))) (fun s _ => nd - (intOf s).toNat)
    case atStart => exact ⟨0, by omega, rfl, keepH ⟨HS1.out, by simp [edgesL]⟩⟩
    case round =>
      obtain ⟨k, hk, rfl, HK⟩ := hrel
      have b0 : wr.cell? ⟨B, 0, none⟩ = some (.slice pd nd cd) := cell_of HK.out.1.bx 0
      have b1 : wr.cell? ⟨B, 1, none⟩ = some (.slice pt n ct) := cell_of HK.out.1.bx 1
      by_cases hlt2 : k < nd
      · have q1 : (k : Int) < (nd : Int) := by omega
        have q0 : (0 : Int) ≤ (k : Int) := by omega
        obtain ⟨d, hdk⟩ : ∃ d, ds[k]? = some d := ⟨ds[k]'(by have := HND.out; omega), List.getElem?_eq_getElem _⟩
        obtain ⟨bd, od, rfl, hbd, hc⟩ := (HD.out.on HK.out.1.bel).get k d hdk
        obtain ⟨bt, ot, vp, vc, rfl, hbt, a0, -⟩ := (HT.out.on HK.out.1.bel).get i x HX.out
        rw [← HE1.out] at a0
        have HNO := keepH (fun hn => edge_no (m := (th, (-1))) hdk HK.out.2 hn)
        have HYS := keepH (edge_yes (m := (th, (-1))) hdk)
        have HEO := keepH (edge_one (th, (-1)) d)
        obtain ⟨dth, didx, dfr, dtil, rest⟩ := d
        have d0 : wr.cell? ⟨bd, od + k * 22, none⟩ = some (.int .i64 dth) := hc 0 _ rfl
        have d1 : wr.cell? ⟨bd, od + k * 22 + 1, none⟩ = some (.int .i64 didx) := hc 1 _ rfl
        have d2 : wr.cell? ⟨bd, od + k * 22 + 2, none⟩ = some (.int .i64 dfr) := hc 2 _ rfl
        have d3 : wr.cell? ⟨bd, od + k * 22 + 3, none⟩ = some (.int .i64 dtil) := hc 3 _ rfl
        obtain ⟨w2, hw2⟩ : ∃ w2, w2 = wr.alloc (.cells #[.int .i64 dth, .int .i64 didx, .int .i64 dfr, .int .i64 dtil] 95) := ⟨_, rfl⟩
        have C2 : Below wr.heap.size wr w2 := by rw [hw2]; exact below_alloc _ _
        have X2 : w2.heap[wr.heap.size]? = some (.cells #[.int .i64 dth, .int .i64 didx, .int .i64 dfr, .int .i64 dtil] 95 (0, 0)) := by rw [hw2]; exact heap_alloc_new _ _
        have f0 : w2.cell? ⟨wr.heap.size, 0, none⟩ = some (.int .i64 dth) := cell_of X2 0
        have f2 : w2.cell? ⟨wr.heap.size, 2, none⟩ = some (.int .i64 dfr) := cell_of X2 2
        have f3 : w2.cell? ⟨wr.heap.size, 3, none⟩ = some (.int .i64 dtil) := cell_of X2 3
        have g1 : w2.cell? ⟨B, 1, none⟩ = some (.slice (some ⟨bt, ot, none⟩) n ct) := cell_below b1 C2
        have g2 : w2.cell? ⟨bt, ot + i * 8, none⟩ = some (.int .i64 th) := cell_below a0 C2
        have HS2 := keepH (HK.out.1.on C2)
        have HW2 := keepH hw2
        clear hc hdk C2 X2 hw2
        go_upto_region 8 with fail
        rw [← HW2.out]
        clear b0 b1 d0 d1 d2 d3 a0
        by_cases u1 : dth = th
        · have v1 : (dth == th) = true := by simpa using u1
          by_cases u2 : dfr = (-1)
          · have v2 : (dfr == (-1)) = true := by simpa using u2
            have HY1 : Hid ((th, (-1)) ∈ edgesL ds) := keepH (HYS.out (HEO.out.2 (by simp only; omega)))
            go_quiet (fail)
            go_wp2_with fail
            go_ret
            exact ⟨by simp [HY1.out], below_drewN HS2.out.bel _⟩
          · have v2 : (dfr == (-1)) = false := by simpa using u2
            by_cases u3 : 0 ≤ dtil
            · by_cases u4 : dtil = (-1)
              · have v4 : (dtil == (-1)) = true := by simpa using u4
                have u5 : 0 ≤ (-1) := by omega
                exfalso; omega
              · have v4 : (dtil == (-1)) = false := by simpa using u4
                have HN1 : Hid (BxSt W B #[.slice (some ⟨bd, od, none⟩) nd cd, .slice (some ⟨bt, ot, none⟩) n ct, .slice ps m cs] w2 ∧ (th, (-1)) ∉ edgesL (ds.take (k + 1))) := keepH ⟨HS2.out, HNO.out (fun hm => by have := HEO.out.1 hm; simp only at this; omega)⟩
                go_quiet (fail)
                go_wp2_with fail
                go_roundw
                case rel => exact ⟨k + 1, by omega, by first | rfl | go_num, keepH ⟨HN1.out.1.on (below_drewN (Below.refl _ _) _), HN1.out.2⟩⟩
                case measure => simp [intOf]; omega
            · 
              have HN1 : Hid (BxSt W B #[.slice (some ⟨bd, od, none⟩) nd cd, .slice (some ⟨bt, ot, none⟩) n ct, .slice ps m cs] w2 ∧ (th, (-1)) ∉ edgesL (ds.take (k + 1))) := keepH ⟨HS2.out, HNO.out (fun hm => by have := HEO.out.1 hm; simp only at this; omega)⟩
              go_quiet (fail)
              go_wp2_with fail
              go_roundw
              case rel => exact ⟨k + 1, by omega, by first | rfl | go_num, keepH ⟨HN1.out.1.on (below_drewN (Below.refl _ _) _), HN1.out.2⟩⟩
              case measure => simp [intOf]; omega
        · have v1 : (dth == th) = false := by simpa using u1
          have HN1 : Hid (BxSt W B #[.slice (some ⟨bd, od, none⟩) nd cd, .slice (some ⟨bt, ot, none⟩) n ct, .slice ps m cs] w2 ∧ (th, (-1)) ∉ edgesL (ds.take (k + 1))) := keepH ⟨HS2.out, HNO.out (fun hm => by have := HEO.out.1 hm; simp only at this; omega)⟩
          go_quiet (fail)
          go_wp2_with fail
          go_roundw
          case rel => exact ⟨k + 1, by omega, by first | rfl | go_num, keepH ⟨HN1.out.1.on (below_drewN (Below.refl _ _) _), HN1.out.2⟩⟩
          case measure => simp [intOf]; omega
      · obtain rfl : k = nd := by omega
        have q1 : ¬ (k : Int) < (k : Int) := by omega
        go_wp2_with fail
        go_ret
        have hf := HK.out.2
        rw [HND.out, List.take_length] at hf
        exact ⟨by simp [hf], HK.out.1.bel⟩
end Go.Proofs.YtjodechhnobkhaaGreatDoor
