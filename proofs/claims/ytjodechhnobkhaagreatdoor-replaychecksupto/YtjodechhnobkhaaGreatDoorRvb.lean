/- The document's check. -/
import Derived.Test.YtjodechhnobkhaaGreatDoorRva
import Derived.Test.YtjodechhnobkhaaGreatDoorRuc
import Derived.Test.YtjodechhnobkhaaGreatDoorRpq
import Derived.Test.YtjodechhnobkhaaGreatDoorRpr
namespace Go.Proofs.YtjodechhnobkhaaGreatDoor
open Go.RowKit Go.Shelf
set_option linter.unusedVariables false

theorem again_any {W : World} {nm n : Nat} {s : Ms} {k : Nat} {R : Nat → Prop} {w : World} (h : DE W nm n s k R w) (hk : k ≤ 1000000000) (x : Ax) (hr : RightA x) (ho : x.Ok) (hvl : x.vals.length ≤ 1048576) (p : Option Addr) (c : Nat) (hu : URd w p x.vals) (hpb : ∀ ad, p = some ad → x.vals ≠ [] → ad.block < W.heap.size) :
    Calls Tryz.prog 35 #[.pointer (some ⟨nm, 0, none⟩), .agg (bxA x (.slice p x.vals.length c))] w fun e w' => ∃ v, e = .returned v ∧ AgQ W nm n s k x v w' := by
  have hxk := right_kind hr
  obtain ⟨xth, xk, xad, xa, xb, xvals, xgot, xok⟩ := x
  simp only at hxk hvl hu hpb
  have o1 := ho.addr
  have o2 := ho.a
  have o3 := ho.b
  have o5 := ho.vals
  simp only at o1 o2 o3 o5
  have hk' : xk = 1 ∨ xk = 2 ∨ xk = 3 ∨ xk = 4 ∨ xk = 5 := by omega
  rcases hk' with rfl | rfl | rfl | rfl | rfl
  · exact again_1 h hk xth xad xa xb xgot _ c p xok xvals rfl hu hpb o1 o2 o3 o5 hvl hr
  · exact again_2 h hk xth xad xa xb xgot _ c p xok xvals rfl hu hpb o1 o2 o3 o5 hvl hr
  · exact again_3 h hk xth xad xa xb xgot _ c p xok xvals rfl hu hpb o1 o2 o3 o5 hvl hr
  · exact again_4 h hk xth xad xa xb xgot _ c p xok xvals rfl hu hpb o1 o2 o3 o5 hvl hr
  · exact again_5 h hk xth xad xa xb xgot _ c p xok xvals rfl hu hpb o1 o2 o3 o5 hvl hr
theorem rd_block {W : World} {p : Option Addr} {xs : List Ax} {i : Nat} {x : Ax} (h : ARd W p xs) (hx : xs[i]? = some x) {bk off : Nat} (hp : p = some ⟨bk, off, none⟩) {wr : World} (hb : Below W.heap.size W wr) {vp : Option Addr} {n vc : Nat} (a5 : wr.cell? ⟨bk, off + i * 8 + 5, none⟩ = some (.slice vp n vc)) : ∀ ad, vp = some ad → x.vals ≠ [] → ad.block < W.heap.size := by
  intro q hq hne
  obtain ⟨_, _, vp0, vc0, e1, _, _, _, _, _, _, a50, _, _, hu0⟩ := h.get i x hx
  rw [hp] at e1
  injection e1 with e1
  injection e1 with e1 e2
  subst e1 e2
  have e5 := a5.symm.trans (cell_below a50 hb)
  injection e5 with e5
  injection e5 with e5
  subst e5
  rcases hu0 with hu0 | ⟨b1, o1', e6, hb1, _⟩
  · exact absurd hu0 hne
  · rw [hq] at e6
    injection e6 with e6
    rw [e6]
    exact hb1
def DEx (W : World) (nm n : Nat) (s : Ms) (k : Nat) (wr : World) : Prop := ∃ R, DE W nm n s k R wr
/-- how the document goes through a trace -/
structure DThr (W : World) (n : Nat) (xs : List Ax) (v : Value) (W' : World) : Prop where
  bel : Below W.heap.size W W'
  res : (∃ nm R l, v = .tuple #[.pointer (some ⟨nm, 0, none⟩), .int .i64 0, .int .i64 (xs.length : Int)] ∧ (∀ x ∈ xs, RightA x) ∧ msBad n ⟨1, []⟩ xs = xs.length ∧ RMem W' R nm n (msEnd n ⟨1, []⟩ xs).next (msEnd n ⟨1, []⟩ xs).cs l ∧ ∀ j, R j → W.heap.size ≤ j) ∨
    ((∀ x ∈ xs, RightA x) ∧ msBad n ⟨1, []⟩ xs < xs.length ∧ v = .tuple #[.pointer none, .int .i64 210, .int .i64 (msBad n ⟨1, []⟩ xs : Int)]) ∨
    (¬ (∀ x ∈ xs, RightA x) ∧ v = .tuple #[.pointer none, .int .i64 52, .int .i64 (wrongI xs : Int)])

set_option maxRecDepth 100000 in
set_option maxHeartbeats 4000000 in
theorem dcheck (n : Nat) (hn : 128 ≤ n ∧ n ≤ 4194304) (p : Option Addr) (c : Nat) (xs : List Ax) (W : World) (h : In W p xs) :
    Calls Tryz.prog 17 #[.int .i64 (n : Int), .slice p xs.length c] W fun e W' => ∃ v, e = .returned v ∧ DThr W n xs v W' := by
  have hnew := r_new n W hn
  obtain ⟨N, hN⟩ : ∃ N, N = xs.length := ⟨_, rfl⟩
  have hlen := h.len
  rw [← hN] at hlen ⊢
  have HN := keepH hN
  have HIN := keepH h
  obtain ⟨nm, hnm⟩ : ∃ nm, nm = W.heap.size + 1 := ⟨_, rfl⟩
  rw [← hnm] at hnew
  have HNM := keepH hnm
  clear hN h hnm
  go_enter Tryz.func17, Tryz.ntmps17
  go_wp2_with fail
  refine hnew.mono ?_
  rintro e w1 ⟨rfl, hM, hC, hS⟩
  have H1 : Hid (DEx W nm n ⟨1, []⟩ 0 w1) := keepH ⟨_, ⟨hC.os, hC.tape, hC.output, hC.size, fun i hi => hC.block i hi (fun x => x)⟩, ⟨[], by simp, hM⟩, fun j hj => by have := HNM.out; rcases hj with q | q <;> omega, by simp only; omega⟩
  clear hM hC hS hnew
  go_wp2_with fail
  go_loopw [9] (fun s9 wr => ∃ i : Nat, i ≤ N ∧ s9 = .int .i64 (i : Int) ∧ Hid (DEx W nm n ⟨1, []⟩ 0 wr ∧ ∀ j y, j < i → xs[j]? = some y → RightA y)) (fun s9 _ => N - (intOf s9).toNat)
  case atStart => exact ⟨0, by omega, rfl, keepH ⟨H1.out, fun j y hj => by omega⟩⟩
  case round =>
    clear H1
    obtain ⟨i, hi, rfl, HI⟩ := hrel
    by_cases hlt : i < N
    · have q1 : (i : Int) < (N : Int) := by omega
      have q0 : (0 : Int) ≤ (i : Int) := by omega
      obtain ⟨x, hx⟩ : ∃ x, xs[i]? = some x := ⟨xs[i]'(by rw [← HN.out]; exact hlt), List.getElem?_eq_getElem _⟩
      have hmem := List.mem_of_getElem? hx
      have hvl := HIN.out.vl x hmem
      obtain ⟨R0, hDE⟩ := HI.out.1
      obtain ⟨bk, off, vp, vc, rfl, hbk, a0, a1, a2, a3, a4, a5, a6, a7, hu⟩ := (HIN.out.rd.on hDE.bel).get i x hx
      have hrt := d_right x vp vc wr hu hvl
      have HX := keepH hx
      have HDE : Hid (∀ w', Below wr.heap.size wr w' → DEx W nm n ⟨1, []⟩ 0 w') := keepH (fun w' hb => ⟨R0, hDE.on hb⟩)
      obtain ⟨xth, xk, xad, xa, xb, xvals, xgot, xok⟩ := x
      simp only at a0 a1 a2 a3 a4 a5 a6 a7 hrt
      obtain ⟨vn, hvn⟩ : ∃ vn, vn = xvals.length := ⟨_, rfl⟩
      rw [← hvn] at a5 hrt
      clear hx hvn hmem hu hbk hvl hDE
      go_wp2_with fail
      refine hrt.mono ?_
      rintro e w2 ⟨v, rfl, ⟨r, rfl, hr⟩, C2⟩
      have H2 := keepH (HDE.out w2 C2)
      clear C2 hrt HDE
      cases r
      · have HNO : Hid (¬ RightA ⟨xth, xk, xad, xa, xb, xvals, xgot, xok⟩) := keepH (fun h => by have := hr.mpr h; cases this)
        clear hr
        go_wp2_with fail
        go_ret3
        obtain ⟨R2, hD2⟩ := H2.out
        refine ⟨_, rfl, hD2.bel, Or.inr (Or.inr ⟨fun hall => HNO.out (hall _ (List.mem_of_getElem? HX.out)), ?_⟩)⟩
        rw [wrongI_at HX.out HI.out.2 HNO.out]
        rfl
      · have HYE : Hid (RightA ⟨xth, xk, xad, xa, xb, xvals, xgot, xok⟩) := keepH (hr.mp rfl)
        clear hr
        go_wp2_with fail
        go_roundw
        case rel => exact ⟨i + 1, by omega, by first | rfl | go_num, keepH ⟨H2.out, fun j y hj hy => by
          rcases Nat.lt_or_ge j i with q | q
          · exact HI.out.2 j y q hy
          · obtain rfl : j = i := by omega
            have e2 := HX.out.symm.trans hy
            injection e2 with e2
            rw [← e2]
            exact HYE.out⟩⟩
        case measure => simp [intOf]; omega
    · obtain rfl : i = N := by omega
      have q1 : ¬ (i : Int) < (i : Int) := by omega
      have HALL : Hid (∀ x ∈ xs, RightA x) := keepH (fun x hx => by
        obtain ⟨j, hj, rfl⟩ := List.getElem_of_mem hx
        exact HI.out.2 j _ (by rw [HN.out]; exact hj) (List.getElem?_eq_getElem hj))
      go_wp2_with fail
      go_loopw [10] (fun s10 wr => ∃ j : Nat, j ≤ i ∧ s10 = .int .i64 (j : Int) ∧ Hid (DEx W nm n (msAt n ⟨1, []⟩ xs j) j wr ∧ ∀ k y, k < j → xs[k]? = some y → msTell n (msAt n ⟨1, []⟩ xs k) y = true)) (fun s10 _ => i - (intOf s10).toNat)
      case atStart => exact ⟨0, by omega, rfl, keepH ⟨HI.out.1, fun k y hk => by omega⟩⟩
      case round =>
        clear HI
        obtain ⟨j, hj, rfl, HJ⟩ := hrel
        by_cases hlt : j < i
        · have q2 : (j : Int) < (i : Int) := by omega
          have q0 : (0 : Int) ≤ (j : Int) := by omega
          obtain ⟨x, hx⟩ : ∃ x, xs[j]? = some x := ⟨xs[j]'(by rw [← HN.out]; exact hlt), List.getElem?_eq_getElem _⟩
          have hmem := List.mem_of_getElem? hx
          have hvl := HIN.out.vl x hmem
          obtain ⟨R0, hDE⟩ := HJ.out.1
          obtain ⟨bk, off, vp, vc, hp, hbk, a0, a1, a2, a3, a4, a5, a6, a7, hu⟩ := (HIN.out.rd.on hDE.bel).get j x hx
          have hpb := rd_block HIN.out.rd hx hp hDE.bel a5
          have hag := again_any hDE (by omega) x (HALL.out x hmem) (HIN.out.ok x hmem) hvl vp vc hu hpb
          have HX := keepH hx
          have HMB : Hid (msTell n (msAt n ⟨1, []⟩ xs j) x = false → msBad n ⟨1, []⟩ xs = j) := keepH (fun e => msBad_is hx HJ.out.2 e)
          have HMG : Hid (msTell n (msAt n ⟨1, []⟩ xs j) x = true → ∀ k y, k < j + 1 → xs[k]? = some y → msTell n (msAt n ⟨1, []⟩ xs k) y = true) := keepH (fun e k y hk hy => by
            rcases Nat.lt_or_ge k j with q | q
            · exact HJ.out.2 k y q hy
            · obtain rfl : k = j := by omega
              have e2 := hx.symm.trans hy
              injection e2 with e2
              subst e2
              exact e)
          have HST : Hid (msStep n (msAt n ⟨1, []⟩ xs j) x = msAt n ⟨1, []⟩ xs (j + 1)) := keepH (msAt_succ hx).symm
          subst hp
          obtain ⟨s, hs⟩ : ∃ s, s = msAt n ⟨1, []⟩ xs j := ⟨_, rfl⟩
          rw [← hs] at HMB HMG HST hag
          obtain ⟨xth, xk, xad, xa, xb, xvals, xgot, xok⟩ := x
          simp only at a0 a1 a2 a3 a4 a5 a6 a7 hag
          obtain ⟨vn, hvn⟩ : ∃ vn, vn = xvals.length := ⟨_, rfl⟩
          rw [← hvn] at a5 hag
          clear hx hvn hmem hu hbk hvl hDE hpb hs
          go_wp2_with fail
          refine hag.mono ?_
          rintro e w2 ⟨v, rfl, hv⟩
          obtain ⟨r, R2, rfl, hr, hD2⟩ := hv
          rw [HST.out] at hD2
          have H2 : Hid (DEx W nm n (msAt n ⟨1, []⟩ xs (j + 1)) (j + 1) w2) := keepH ⟨R2, hD2⟩
          have HB2 := keepH hD2.bel
          clear hD2 hag
          cases r
          · have HNO : Hid (msTell n s ⟨xth, xk, xad, xa, xb, xvals, xgot, xok⟩ = false) := keepH (by
              cases q : msTell n s ⟨xth, xk, xad, xa, xb, xvals, xgot, xok⟩ with
              | false => rfl
              | true => have := hr.mpr q; cases this)
            clear hr
            go_wp2_with fail
            go_ret3
            refine ⟨_, rfl, HB2.out, Or.inr (Or.inl ⟨HALL.out, ?_, ?_⟩)⟩
            · rw [HMB.out HNO.out, ← HN.out]; exact hlt
            · rw [HMB.out HNO.out]; rfl
          · have HYE := keepH (hr.mp rfl)
            clear hr
            go_wp2_with fail
            go_roundw
            case rel => exact ⟨j + 1, by omega, by first | rfl | go_num, keepH ⟨H2.out, HMG.out HYE.out⟩⟩
            case measure => simp [intOf]; omega
        · obtain rfl : j = i := by omega
          have q2 : ¬ (j : Int) < (j : Int) := by omega
          go_wp2_with fail
          go_ret3
          obtain ⟨R2, hD2⟩ := HJ.out.1
          obtain ⟨l, _, hM⟩ := hD2.mem
          refine ⟨_, rfl, hD2.bel, Or.inl ⟨nm, R2, l, by rw [← HN.out]; rfl, HALL.out, ?_, ?_, hD2.new⟩⟩
          · rw [← HN.out]
            have := msBad_all (most := n) (xs := xs) (s := ⟨1, []⟩) (fun k y hk hy => HJ.out.2 k y (by rw [HN.out]; exact hk) hy)
            rw [this, HN.out]
          · have e : msAt n ⟨1, []⟩ xs j = msEnd n ⟨1, []⟩ xs := by unfold msAt; rw [HN.out, List.take_length]
            rw [← e]
            exact hM
end Go.Proofs.YtjodechhnobkhaaGreatDoor
