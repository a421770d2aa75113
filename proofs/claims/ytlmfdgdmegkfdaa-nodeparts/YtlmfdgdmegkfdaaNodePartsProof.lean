/- Whatever the two children, their mixed keys and the level: a Fork alone ends with ErrKnown and no access where they never part, and else in so many accesses as the document says, with branches in which both mixed keys' digits lead to the two children and nothing else lies (shutterlaw10.NodeParts is true for every input). -/
import Derived.Test.YtlmfdgdmegkfdaaRows
import Derived.WalkKit
import Derived.ProofKit
import Derived.OpenShut
import Derived.JoinedCond
import Derived.Carry
import Derived.Lib.SmallJoins
import Derived.Test.YtlmfdgdmegkfdaaNdW
import Derived.Test.YtlmfdgdmegkfdaaNdO
namespace Go.Proofs.Ytlmfdgdmegkfdaa.nodeParts
open Go.ChangeShapes Go.WideShapes Go.ChangeAt Go.RowKit Go.Joins Go.Shelf
set_option linter.unusedVariables false

theorem own : ownKnob Try.prog.godebug = none := by kernel_rfl
theorem laidOut : laidOutB Try.prog = true := by kernel_rfl

def ovI : Option Nat → Int
  | none => -1
  | some x => (x : Int)
def verN (J : Nat) : Nat := if J = 0 then 1 else 4 + 67 * J
theorem fm_at {cs : List Nat} {aw bw ha hb L N J : Nat} (h : FM cs aw bw ha hb L N) (hJ : J ≤ N) : cellN cs (verN J) = wdN aw J ∧ cellN cs (verN J + 1) = 1 ∧ cellN cs (verN J + 2) = 0 := by
  unfold verN wdN
  by_cases c : J = 0
  · rw [if_pos c, if_pos c]
    exact h.a0
  · rw [if_neg c, if_neg c]
    have e := h.ver J (by omega) hJ
    unfold wdN at e
    rw [if_neg c] at e
    exact e
theorem cellN_set64 (l : List Nat) (i v j : Nat) (hi : i < l.length) : cellN (l.set i v) j = if j = i then v else cellN l j := by
  simp only [cellN, List.getD_eq_getElem?_getD, List.getElem?_set]
  by_cases e : i = j
  · subst e
    simp [hi]
  · rw [if_neg e, if_neg (fun x => e x.symm)]
theorem cellN_zeros (d : Nat) : cellN (List.replicate 64 0) d = 0 := by
  simp only [cellN, List.getD_eq_getElem?_getD, List.getElem?_replicate]
  split <;> simp
theorem br_x {ha hb L : Nat} (J : Nat) (hne : dgN ha L ≠ dgN hb L) : cellN (brL ha hb L J) (dgN ha (L - J)) = verN J := by
  unfold brL verN
  have d1 := dgN_lt ha (L - J)
  have d2 := dgN_lt hb L
  have d3 := dgN_lt ha L
  by_cases c : J = 0
  · subst c
    rw [Nat.sub_zero, if_pos rfl, if_pos rfl, cellN_set64 _ _ _ _ (by simp; omega), if_neg hne, cellN_set64 _ _ _ _ (by simp; omega), if_pos rfl]
  · rw [if_neg c, if_neg c, cellN_set64 _ _ _ _ (by simp; omega), if_pos rfl]
theorem br_y {ha hb L : Nat} : cellN (brL ha hb L 0) (dgN hb L) = 4 := by
  have d2 := dgN_lt hb L
  unfold brL
  rw [if_pos rfl, cellN_set64 _ _ _ _ (by simp; omega), if_pos rfl]
theorem br_0 {ha hb L : Nat} (J d : Nat) (h1 : d ≠ dgN ha (L - J)) (h2 : d ≠ dgN hb (L - J)) : cellN (brL ha hb L J) d = 0 := by
  have d1 := dgN_lt ha (L - J)
  have d2 := dgN_lt hb L
  have d3 := dgN_lt ha L
  unfold brL
  by_cases c : J = 0
  · subst c
    rw [Nat.sub_zero] at h1 h2
    rw [if_pos rfl, cellN_set64 _ _ _ _ (by simp; omega), if_neg h2, cellN_set64 _ _ _ _ (by simp; omega), if_neg h1]
    exact cellN_zeros d
  · rw [if_neg c, cellN_set64 _ _ _ _ (by simp; omega), if_neg h1]
    exact cellN_zeros d

theorem coParting : Try.prog.cellsOf 76 = 5 := by kernel_rfl
theorem coI3 : Try.prog.cellsOf 3 = 1 := by kernel_rfl
theorem list5 {α : Type} {cs : List α} (h : cs.length = 5) : ∃ c0 c1 c2 c3 c4, cs = [c0, c1, c2, c3, c4] := by
  match cs, h with
  | [c0, c1, c2, c3, c4], _ => exact ⟨c0, c1, c2, c3, c4, rfl⟩
theorem parting_open {H : Type} {enc : TypeId × Value → H} {W : World} {sp : Nat → Bool} {held : Bool} {cs : Array Value} {d : DataW H} {ps : List MemPlace} (h : DataW.Trod enc Try.prog W 0 sp held 76 (.agg cs) d ps) :
    ∃ (aw ha bw hb : Nat) (lv : Int), cs = #[.int .u64 (aw : Int), .int .u64 (ha : Int), .int .u64 (bw : Int), .int .u64 (hb : Int), .int .i64 lv] ∧ aw < 18446744073709551616 ∧ ha < 18446744073709551616 ∧ bw < 18446744073709551616 ∧ hb < 18446744073709551616 ∧ -9223372036854775808 ≤ lv ∧ lv < 9223372036854775808 := by
  obtain ⟨fuel, hf⟩ := h
  obtain ⟨xs, n, hn, hx, hl, hlen, hh⟩ := DataW.trod_struct Try.underlying76 hf
  subst hn
  rw [coParting] at hl
  obtain ⟨c0, c1, c2, c3, c4, hc⟩ := list5 hl
  obtain ⟨y0, y1, y2, y3, y4, rfl⟩ := list5 (show xs.length = 5 from hlen)
  rw [hc] at hh
  have h0 : DataW.trod enc Try.prog W 0 sp held n 38 [c0] = some y0 := by have := hh 0 _ rfl; simpa [coU] using this
  have h1 : DataW.trod enc Try.prog W 0 sp held n 38 [c1] = some y1 := by have := hh 1 _ rfl; simpa [coU] using this
  have h2 : DataW.trod enc Try.prog W 0 sp held n 38 [c2] = some y2 := by have := hh 2 _ rfl; simpa [coU] using this
  have h3 : DataW.trod enc Try.prog W 0 sp held n 38 [c3] = some y3 := by have := hh 3 _ rfl; simpa [coU] using this
  have h4 : DataW.trod enc Try.prog W 0 sp held n 3 [c4] = some y4 := by have := hh 4 _ rfl; simpa [coU, coI3] using this
  obtain ⟨z0, e0, _, w0⟩ := DataW.trod_int Try.underlying38 h0
  obtain ⟨z1, e1, _, w1⟩ := DataW.trod_int Try.underlying38 h1
  obtain ⟨z2, e2, _, w2⟩ := DataW.trod_int Try.underlying38 h2
  obtain ⟨z3, e3, _, w3⟩ := DataW.trod_int Try.underlying38 h3
  obtain ⟨z4, e4, _, w4⟩ := DataW.trod_int Try.underlying3 h4
  obtain ⟨aw, rfl, b0⟩ := nat_u64 w0
  obtain ⟨ha, rfl, b1⟩ := nat_u64 w1
  obtain ⟨bw, rfl, b2⟩ := nat_u64 w2
  obtain ⟨hb, rfl, b3⟩ := nat_u64 w3
  have b4 := bounds_i64 w4
  simp at e0 e1 e2 e3 e4
  subst e0 e1 e2 e3 e4
  exact ⟨aw, ha, bw, hb, z4, by apply Array.ext'; exact hc, b0, b1, b2, b3, by omega, by omega⟩


set_option maxRecDepth 100000 in
set_option maxHeartbeats 8000000 in
theorem walk (aw ha bw hb : Nat) (lv : Int) (w : World) (hA : aw < 18446744073709551616) (h0' : ha < 18446744073709551616) (hB : bw < 18446744073709551616) (h1' : hb < 18446744073709551616) (hl0 : -9223372036854775808 ≤ lv) (hl1 : lv < 9223372036854775808) :
    Calls Try.prog 5 #[.agg #[.int .u64 (aw : Int), .int .u64 (ha : Int), .int .u64 (bw : Int), .int .u64 (hb : Int), .int .i64 lv]] w fun e w' => e = .returned (.bool true) ∧ Below w.heap.size w w' := by
  obtain ⟨tp, ht⟩ : ∃ tp : Nat, (tp : Int) = max lv 0 := ⟨(max lv 0).toNat, by omega⟩
  have htb : tp < 9223372036854775808 := by omega
  obtain ⟨x1, hx1⟩ : ∃ x1, x1 = w.alloc (.cells #[.int .u64 (aw : Int), .int .u64 (ha : Int), .int .u64 (bw : Int), .int .u64 (hb : Int), .int .i64 lv] 76) := ⟨_, rfl⟩
  have HB0 : Hid (x1.heap[w.heap.size]? = some (.cells #[.int .u64 (aw : Int), .int .u64 (ha : Int), .int .u64 (bw : Int), .int .u64 (hb : Int), .int .i64 lv] 76 (0, 0))) := by rw [hx1]; exact heap_alloc_new _ _
  have HX1 : Hid (Chg (fun _ => False) w x1) := by rw [hx1]; exact (Chg.refl _ _).alloc _
  have HT := keepH ht
  clear ht
  go_enter Try.func5, Try.ntmps5
  go_upto_region 1 with fail
  rw [← hx1]
  clear hx1
  go_wp2_with fail
  refine (nd_live x1).mono ?_
  rintro e W1 ⟨rfl, C1⟩
  have HB1 := keepH ((C1.block _ (lt_of HB0.out) (fun x => x)).trans HB0.out)
  have HX2 : Hid (Chg (fun _ => False) w W1) := HX1.out.trans C1 (fun _ _ x => x) (fun _ _ x => x)
  have c0 : W1.cell? ⟨w.heap.size, 0, none⟩ = some (.int .u64 (aw : Int)) := cell_of HB1.out 0
  have c1 : W1.cell? ⟨w.heap.size, 1, none⟩ = some (.int .u64 (ha : Int)) := cell_of HB1.out 1
  have c2 : W1.cell? ⟨w.heap.size, 2, none⟩ = some (.int .u64 (bw : Int)) := cell_of HB1.out 2
  have c3 : W1.cell? ⟨w.heap.size, 3, none⟩ = some (.int .u64 (hb : Int)) := cell_of HB1.out 3
  have c4 : W1.cell? ⟨w.heap.size, 4, none⟩ = some (.int .i64 lv) := cell_of HB1.out 4
  clear C1 HB0 HX1
  go_upto_if 39 with fail
  go_cut [7] from 39 to 39 (fun s7 wz => s7 = .int .i64 (tp : Int) ∧ wz = W1)
  case first =>
    by_cases hneg : lv < 0
    · have e0 : (tp : Int) = 0 := by have := HT.out; omega
      go_wp2_with fail
      go_meet
      exact ⟨by rw [e0], by first | rfl | trivial⟩
    · have e0 : (tp : Int) = lv := by have := HT.out; omega
      go_wp2_with fail
      go_meet
      exact ⟨by rw [e0], by first | rfl | trivial⟩
  case rest =>
  obtain ⟨rfl, hwc⟩ := hcut
  subst hwc
  clear c0 c1 c2 c3 c4 HB1
  go_wp2_with fail
  refine (m_new 4000 wc (by omega)).mono ?_
  rintro e W2 ⟨rfl, M2, B2, C2, S2⟩
  have HM2 := keepH M2
  have S3 := keepH (St.new0 (th := 0) M2 B2 C2 S2)
  clear M2 B2 C2 S2
  go_wp2_with fail
  refine (m_view _ wc.heap.size 0 _ HM2.out).mono ?_
  rintro e w2 ⟨rfl, rfl⟩
  obtain ⟨w3, hw3⟩ : ∃ w3, w3 = W2.alloc (.cells #[.iface 92 (.pointer (some ⟨wc.heap.size, 0, none⟩)), .int .i64 0, .int .i64 0] 106) := ⟨_, rfl⟩
  rw [← hw3] at S3 ⊢
  clear hw3 HM2
  obtain ⟨v, hv⟩ : ∃ v, v = W2.heap.size := ⟨_, rfl⟩
  rw [← hv] at S3 ⊢
  clear hv
  obtain ⟨m, hm⟩ : ∃ m, m = wc.heap.size + 1 := ⟨_, rfl⟩
  rw [← hm] at S3 ⊢
  clear hm
  obtain ⟨b, hb0⟩ : ∃ b, b = wc.heap.size := ⟨_, rfl⟩
  have HS3 : Hid (∃ F, St wc w3 m b v F 0 4000 1 0 [] [] ∧ ∀ k, F k → k < w3.heap.size) := by
    rw [← hb0] at S3
    exact ⟨_, S3.out, fun k e => S3.out.bank.lt' k e⟩
  clear hb0 S3
  go_wp2_with fail
  refine (fork_new aw ha bw hb (tp : Int) tp _ (by omega)).mono ?_
  rintro e w4 ⟨rfl, P4, C4, Z4⟩
  have HXC := HX2
  have HSP : Hid (SP wc m b v w3.heap.size w4 1 0 []) := by
    obtain ⟨F, S, lt⟩ := HS3.out
    have z1 := S.view.lt
    have z2 := S.mem.lt
    exact ⟨F, [], S.chg' C4, rfl, fun x => Nat.lt_irrefl _ (lt _ x), S.chg.size, by omega, by omega⟩
  have HP4 := keepH P4
  clear P4 C4 Z4 HS3
  obtain ⟨p, hp⟩ : ∃ p, p = w3.heap.size := ⟨_, rfl⟩
  rw [← hp] at HSP HP4 ⊢
  clear hp
  cases hopt : partN (ha : Int) (hb : Int) tp with
  | none =>
    have HOPT := keepH hopt
    clear hopt
    go_wp2_with fail
    go_loopw [12] (fun s12 wr => s12 = .int .i64 1 ∧ wr = w4) (fun _ _ => 0)
    case atStart => exact ⟨rfl, rfl⟩
    case round =>
      obtain ⟨rfl, rfl⟩ := hrel
      go_wp2_with fail
      refine (fork_known (.pointer (some ⟨v, 0, none⟩)) HP4.out h0' h1' htb HOPT.out).mono ?_
      rintro e w5 ⟨rfl, P5, C5⟩
      have HPD := keepH P5
      have HSD : Hid (∃ F, IsView w5 v b 0 0 ∧ IsMem w5 m b ∧ Bank w5 F b 4000 1 [] [] ∧ Chg (fun k => w.heap.size ≤ k) w w5) := by
        obtain ⟨F, l, S, hl, nF, q1, q2, q3⟩ := HSP.out
        obtain rfl : l = [] := List.length_eq_zero_iff.1 hl
        exact ⟨F, S.view.chg C5 (Ne.symm q2), S.mem.chg C5 q3, S.bank.putC nF C5, (HXC.out.trans S.chg (H := fun _ => False) (fun _ _ x => x) (fun _ _ x => x)).trans C5 (fun _ _ x => x.elim) (fun i hi e => by have := HXC.out.size; omega)⟩
      obtain ⟨F, VD, MD, BD, CD⟩ := HSD.out
      have HVD := keepH VD
      have HMD := keepH MD
      have HBD := keepH BD
      have HCD := keepH CD
      clear P5 C5 HSD VD MD BD CD HSP HP4
      go_wp2_with fail
      go_loopw [13, 14] (fun s13 s14 wr => ∃ j : Nat, j ≤ 11 ∧ (tp ≤ j ∨ j = 11) ∧ s14 = .int .i64 ((j : Int) - 1) ∧ s13 = .int .i64 (ovI (partN ha hb j)) ∧ wr = w5) (fun _ s _ => (intOf s + 1).toNat)
      case atStart => exact ⟨11, by omega, .inr rfl, rfl, by rw [partN_big _ _ 11 (by omega)]; rfl, rfl⟩
      case round =>
        obtain ⟨j, hj, hj2, rfl, rfl, rfl⟩ := hrel
        by_cases hge : tp < j
        · obtain ⟨i, rfl⟩ : ∃ i, j = i + 1 := ⟨j - 1, by omega⟩
          have e1 : ((i + 1 : Nat) : Int) - 1 = (i : Int) := by omega
          rw [e1]
          have g1 : (tp : Int) ≤ (i : Int) := by omega
          have hi11 : i < 11 := by omega
          obtain ⟨ov, hov⟩ : ∃ ov, ov = ovI (partN ha hb (i + 1)) := ⟨_, rfl⟩
          rw [← hov]
          have HOV := keepH hov
          clear hov
          by_cases hd : dig ha (i : Int) = dig hb (i : Int)
          · go_wp2_with fail
            refine (digit_any ha i _ (by omega) (by omega) (by omega) (by omega)).mono ?_
            rintro e z1 ⟨rfl, rfl⟩
            go_wp2_with fail
            refine (digit_any hb i _ (by omega) (by omega) (by omega) (by omega)).mono ?_
            rintro e z1 ⟨rfl, rfl⟩
            go_wp2_with fail
            go_roundw
            case rel => exact ⟨i, by omega, .inl (by omega), by first | rfl | go_num, by rw [HOV.out, partN_same _ _ i hi11 hd], by trivial⟩
            case measure => simp [intOf] <;> omega
          · have n1 : (dig ha (i : Int) != dig hb (i : Int)) = true := bne_iff_ne.2 hd
            go_wp2_with fail
            refine (digit_any ha i _ (by omega) (by omega) (by omega) (by omega)).mono ?_
            rintro e z1 ⟨rfl, rfl⟩
            go_wp2_with fail
            refine (digit_any hb i _ (by omega) (by omega) (by omega) (by omega)).mono ?_
            rintro e z1 ⟨rfl, rfl⟩
            go_wp2_with fail
            go_roundw
            case rel => exact ⟨i, by omega, .inl (by omega), by first | rfl | go_num, by rw [partN_part _ _ i hi11 hd]; rfl, by trivial⟩
            case measure => simp [intOf] <;> omega
        · have hpj : partN ha hb j = none := by
            rw [← HOPT.out]
            rcases hj2 with h | h
            · obtain rfl : j = tp := by omega
              rfl
            · rw [partN_big _ _ j (by omega), partN_big _ _ tp (by omega)]
          have g1 : ¬ (tp : Int) ≤ (j : Int) - 1 := by omega
          rw [hpj]
          clear hpj
          have e5 : ovI none = -1 := rfl
          rw [e5]
          go_wp2_with fail
          refine (fork_errno HPD.out).mono ?_
          rintro e z1 ⟨rfl, rfl⟩
          go_wp2_with fail
          refine (fork_word HPD.out).mono ?_
          rintro e z1 ⟨rfl, rfl⟩
          go_wp2_with fail
          refine (v_accesses _ _ _ _ _ HVD.out).mono ?_
          rintro e z1 ⟨rfl, rfl⟩
          go_wp2_with fail
          refine (m_left _ _ 4000 1 _ _ _ _ HMD.out HBD.out).mono ?_
          rintro e z2 ⟨rfl, q, rfl⟩
          have t1 : ((4000 - 1 : Nat) : Int) = 3999 := by decide
          go_wp2_with fail
          go_ret
          exact ⟨by simp, (HCD.out.trans (Goes.drewN _ (fun _ => False) q).chg (H := fun k => w.heap.size ≤ k) (fun _ _ x => x) (fun _ _ x => x.elim)).below (Nat.le_refl _)⟩
  | some L =>
    obtain ⟨q1, q2, q3, q4⟩ := partF_some _ _ _ _ _ hopt
    have HOPT := keepH hopt
    have HLL : Hid (tp ≤ L ∧ L < 11) := by show _ ∧ _; omega
    have HNE : Hid (dgN ha L ≠ dgN hb L) := fun e => q3 (by rw [← dgN_eq, ← dgN_eq, e])
    have HF0 : Hid (FInv wc m b v p aw ha bw hb tp L 0 w4) := .inl ⟨rfl, HSP.out, HP4.out⟩
    obtain ⟨nn, hnn⟩ : ∃ nn, nn = 2 * (L - tp) + 3 := ⟨_, rfl⟩
    have HNN := keepH hnn
    have hnb : nn ≤ 25 := by omega
    clear hopt q1 q2 q3 q4 hnn HSP HP4
    go_wp2_with fail
    go_loopw [12] (fun s12 wr => ∃ s : Nat, s < nn ∧ s12 = .int .i64 ((s + 1 : Nat) : Int) ∧ Hid (FInv wc m b v p aw ha bw hb tp L s wr)) (fun s _ => nn + 1 - (intOf s).toNat)
    case atStart => exact ⟨0, by have := HNN.out; omega, rfl, HF0⟩
    case round =>
      obtain ⟨s, hs, rfl, HFI⟩ := hrel
      obtain ⟨n1, hn1⟩ : ∃ n1, n1 = s + 1 := ⟨_, rfl⟩
      rw [← hn1]
      have HN1 := keepH hn1
      have n100 : (n1 : Int) < 100 := by omega
      clear hn1
      go_wp2_with fail
      refine (finv_step HFI.out HOPT.out h0' h1' hA hB).mono ?_
      rintro e w5 ⟨d, rfl, hc⟩
      rcases hc with ⟨rfl, hF, hlt⟩ | ⟨rfl, heq, hD⟩
      · have HF2 := keepH hF
        have HLT : Hid (s + 1 < nn) := by show s + 1 < nn; rw [HNN.out]; exact hlt
        clear hF hlt
        go_wp2_with fail
        go_roundw
        case rel => exact ⟨s + 1, HLT.out, by rw [HN1.out]; go_num, HF2⟩
        case measure => have := HN1.out; have := HLT.out; simp [intOf]; omega
      · obtain rfl : nn = n1 := by rw [HN1.out, HNN.out]; exact heq.symm
        have HDN := keepH hD
        clear hD heq HFI HN1
        go_wp2_with fail
        go_loopw [13, 14] (fun s13 s14 wr => ∃ j : Nat, j ≤ 11 ∧ (tp ≤ j ∨ j = 11) ∧ s14 = .int .i64 ((j : Int) - 1) ∧ s13 = .int .i64 (ovI (partN ha hb j)) ∧ wr = w5) (fun _ s _ => (intOf s + 1).toNat)
        case atStart => exact ⟨11, by omega, .inr rfl, rfl, by rw [partN_big _ _ 11 (by omega)]; rfl, rfl⟩
        case round =>
          obtain ⟨j, hj, hj2, rfl, rfl, rfl⟩ := hrel
          by_cases hge : tp < j
          · obtain ⟨i, rfl⟩ : ∃ i, j = i + 1 := ⟨j - 1, by omega⟩
            have e1 : ((i + 1 : Nat) : Int) - 1 = (i : Int) := by omega
            rw [e1]
            have g1 : (tp : Int) ≤ (i : Int) := by omega
            have hi11 : i < 11 := by omega
            obtain ⟨ov, hov⟩ : ∃ ov, ov = ovI (partN ha hb (i + 1)) := ⟨_, rfl⟩
            rw [← hov]
            have HOV := keepH hov
            clear hov
            by_cases hd : dig ha (i : Int) = dig hb (i : Int)
            · go_wp2_with fail
              refine (digit_any ha i _ (by omega) (by omega) (by omega) (by omega)).mono ?_
              rintro e z1 ⟨rfl, rfl⟩
              go_wp2_with fail
              refine (digit_any hb i _ (by omega) (by omega) (by omega) (by omega)).mono ?_
              rintro e z1 ⟨rfl, rfl⟩
              go_wp2_with fail
              go_roundw
              case rel => exact ⟨i, by omega, .inl (by omega), by first | rfl | go_num, by rw [HOV.out, partN_same _ _ i hi11 hd], by trivial⟩
              case measure => simp [intOf] <;> omega
            · have n1 : (dig ha (i : Int) != dig hb (i : Int)) = true := bne_iff_ne.2 hd
              go_wp2_with fail
              refine (digit_any ha i _ (by omega) (by omega) (by omega) (by omega)).mono ?_
              rintro e z1 ⟨rfl, rfl⟩
              go_wp2_with fail
              refine (digit_any hb i _ (by omega) (by omega) (by omega) (by omega)).mono ?_
              rintro e z1 ⟨rfl, rfl⟩
              go_wp2_with fail
              go_roundw
              case rel => exact ⟨i, by omega, .inl (by omega), by first | rfl | go_num, by rw [partN_part _ _ i hi11 hd]; rfl, by trivial⟩
              case measure => simp [intOf] <;> omega
          · have hpj : partN ha hb j = (some L) := by
              rw [← HOPT.out]
              rcases hj2 with h | h
              · obtain rfl : j = tp := by omega
                rfl
              · rw [partN_big _ _ j (by omega), partN_big _ _ tp (by omega)]
            have g1 : ¬ (tp : Int) ≤ (j : Int) - 1 := by omega
            rw [hpj]
            clear hpj
            have e5 : ovI (some L) = (L : Int) := rfl
            rw [e5]
            obtain ⟨cs, nx, SPE, FME, BRE, PE⟩ := HDN.out
            obtain ⟨F, tr, SE, trl, nFp, q1, q2, q3⟩ := SPE
            have HVE0 := keepH SE.view
            have HME0 := keepH SE.mem
            have HBE0 := keepH SE.bank
            have HPE := keepH PE
            have HFM := keepH FME
            have HBR := keepH BRE
            have HSE := keepH SE.chg
            clear FME BRE PE SE trl nFp q1 q2 q3 HDN
            have n3 : ¬ (L : Int) < 0 := by omega
            have k1 : IntKind.i64.wrap ((L : Int) - (tp : Int)) = (L : Int) - (tp : Int) := by rw [IntKind.wrap_i64]; have := HLL.out; omega
            have k2 : IntKind.i64.wrap (2 * ((L : Int) - (tp : Int))) = 2 * ((L : Int) - (tp : Int)) := by rw [IntKind.wrap_i64]; have := HLL.out; omega
            have k3 : IntKind.i64.wrap (3 + 2 * ((L : Int) - (tp : Int))) = (nn : Int) := by rw [IntKind.wrap_i64]; have := HLL.out; have := HNN.out; omega
            obtain ⟨ww, hww⟩ : ∃ ww, ww = 2 * (7 + 67 * (L - tp)) := ⟨_, rfl⟩
            rw [← hww] at HPE
            have HWW := keepH hww
            have HVE : Hid (IsView wr v b 0 nn) := by
              have e := HVE0.out
              rw [← HNN.out] at e
              exact e
            clear hww HVE0
            go_wp2_with fail
            refine (fork_errno HPE.out).mono ?_
            rintro e z1 ⟨rfl, rfl⟩
            go_wp2_with fail
            refine (v_accesses _ _ _ _ _ HVE.out).mono ?_
            rintro e z1 ⟨rfl, rfl⟩
            go_wp2_with fail
            refine (fork_word HPE.out).mono ?_
            rintro e wE ⟨rfl, rfl⟩
            clear HVE
            have HCE : Hid (Chg (fun k => w.heap.size ≤ k) w wE) := HXC.out.trans HSE.out (fun _ _ x => x.elim) (fun _ _ x => x.elim)
            go_wp2_with fail
            go_loopw [15, 16] (fun s15 s16 wr => ∃ J i : Nat, J ≤ L - tp ∧ Hid (i = L - J) ∧ s16 = .int .i64 (i : Int) ∧ s15 = .int .u64 ((2 * (7 + 67 * J) : Nat) : Int) ∧ Hid (Chg (fun _ => False) wE wr)) (fun _ s _ => L + 1 - (intOf s).toNat)
            case atStart => exact ⟨L - tp, tp, by omega, by show tp = _; have := HLL.out; omega, rfl, by rw [HWW.out], Chg.refl _ _⟩
            case round =>
              obtain ⟨J, i, hJ, HIE, rfl, rfl, HCr⟩ := hrel
              have HMr := keepH (HME0.out.chg HCr.out (fun x => x))
              have HBr := keepH (HBE0.out.chg HCr.out (fun _ _ x => x))
              have g2 : (i : Int) ≤ (L : Int) := by have := HIE.out; omega
              have hi11 : i < 11 := by have := HIE.out; have := HLL.out; omega
              obtain ⟨a, ha'⟩ : ∃ a, a = 7 + 67 * J := ⟨_, rfl⟩
              obtain ⟨wd, hwd⟩ : ∃ wd, wd = 2 * (7 + 67 * J) := ⟨_, rfl⟩
              rw [← hwd]
              have HAE := keepH ha'
              have HAB : Hid (a + 64 < 4000) := by show a + 64 < 4000; have := HLL.out; omega
              have HWD : Hid (wd = 2 * a) := by show wd = 2 * a; omega
              obtain ⟨x, hx⟩ : ∃ x, x = dgN ha i := ⟨_, rfl⟩
              obtain ⟨y, hy⟩ : ∃ y, y = dgN hb i := ⟨_, rfl⟩
              have HXE : Hid (x = dgN ha (L - J)) := by show x = _; rw [hx, HIE.out]
              have HYE : Hid (y = dgN hb (L - J)) := by show y = _; rw [hy, HIE.out]
              have HXL : Hid (x < 64) := by show x < 64; rw [hx]; exact dgN_lt _ _
              have HYL : Hid (y < 64) := by show y < 64; rw [hy]; exact dgN_lt _ _
              have HDX : Hid (∀ w, Calls Try.prog 29 #[.int .u64 (ha : Int), .int .i64 (i : Int)] w fun e W' => e = .returned (.int .i64 (x : Int)) ∧ W' = w) := fun w => by rw [hx, dgN_eq]; exact digit_any ha i w (by omega) (by omega) (by omega) (by omega)
              have HDY : Hid (∀ w, Calls Try.prog 29 #[.int .u64 (hb : Int), .int .i64 (i : Int)] w fun e W' => e = .returned (.int .i64 (y : Int)) ∧ W' = w) := fun w => by rw [hy, dgN_eq]; exact digit_any hb i w (by omega) (by omega) (by omega) (by omega)
              clear ha' hwd hx hy
              go_wp2_with fail
              refine (split_branch a wd _ HWD.out (by have := HAE.out; omega) (by have := HAB.out; omega)).mono ?_
              rintro e z1 ⟨rfl, rfl⟩
              go_wp2_with fail
              refine (HDX.out _).mono ?_
              rintro e z1 ⟨rfl, rfl⟩
              go_wp2_with fail
              refine (HDY.out _).mono ?_
              rintro e z1 ⟨rfl, rfl⟩
              clear HDX HDY
              go_wp2_with fail
              go_loopw [21] (fun s21 wd => ∃ d : Nat, d ≤ 64 ∧ s21 = .int .i64 (d : Int) ∧ wd = z1) (fun s _ => 64 - (intOf s).toNat)
              case atStart => exact ⟨0, by omega, rfl, rfl⟩
              case round =>
                obtain ⟨d, hd, rfl, hwr⟩ := hrel
                subst hwr
                by_cases hd64 : d < 64
                · have i1 : (d : Int) < 64 := by omega
                  have dw : IntKind.u64.wrap (d : Int) = (d : Int) := u64_lt (by omega)
                  by_cases hdx : d = x
                  · subst hdx
                    have n1 : ((d : Int) != (d : Int)) = false := by simp
                    go_wp2_with fail
                    go_roundw
                    case rel => exact ⟨d + 1, by omega, by first | rfl | go_num, by trivial⟩
                    case measure => simp [intOf] <;> omega
                  · have n1 : ((d : Int) != (x : Int)) = true := bne_iff_ne.2 (by omega)
                    by_cases hdy : d = y
                    · subst hdy
                      have n2 : ((d : Int) != (d : Int)) = false := by simp
                      go_wp2_with fail
                      go_roundw
                      case rel => exact ⟨d + 1, by omega, by first | rfl | go_num, by trivial⟩
                      case measure => simp [intOf]; omega
                    · have n2 : ((d : Int) != (y : Int)) = true := bne_iff_ne.2 (by omega)
                      obtain ⟨ob, hob⟩ : ∃ ob, ob = a + d := ⟨_, rfl⟩
                      have kw : IntKind.u64.wrap ((a : Int) + (d : Int)) = (ob : Int) := by rw [IntKind.wrap_u64]; have := HAB.out; omega
                      have HZ0 : Hid (cellN cs ob = 0) := by
                        show cellN cs ob = 0
                        rw [hob, HAE.out]
                        exact (HBR.out J hJ d hd64).trans (br_0 J d (by rw [← HXE.out]; exact hdx) (by rw [← HYE.out]; exact hdy))
                      have bob : ob < 18446744073709551616 := by have := HAB.out; omega
                      clear hob
                      go_wp2_with fail
                      refine (m_peek m b 4000 nx ob F cs tr _ HMr.out HBr.out bob).mono ?_
                      rintro e z1 ⟨rfl, rfl⟩
                      rw [HZ0.out]
                      go_wp2_with fail
                      go_roundw
                      case rel => exact ⟨d + 1, by omega, by first | rfl | go_num, by trivial⟩
                      case measure => simp [intOf]; omega
                · obtain rfl : d = 64 := by omega
                  clear hd hd64
                  obtain ⟨ob, hob⟩ : ∃ ob, ob = a + x := ⟨_, rfl⟩
                  have kw : IntKind.u64.wrap ((a : Int) + (x : Int)) = (ob : Int) := by rw [IntKind.wrap_u64]; have := HAB.out; have := HXL.out; omega
                  have xw : IntKind.u64.wrap (x : Int) = (x : Int) := u64_lt (by have := HXL.out; omega)
                  have bob : ob < 18446744073709551616 := by have := HAB.out; have := HXL.out; omega
                  have HOB : Hid (cellN cs ob = verN J) := by
                    show cellN cs ob = verN J
                    rw [hob, HAE.out, HXE.out]
                    exact (HBR.out J hJ _ (dgN_lt _ _)).trans (br_x J HNE.out)
                  have HVE := keepH (fm_at HFM.out hJ)
                  have hvb : verN J ≠ 0 ∧ verN J + 2 < 4000 := by have hh := HLL.out; unfold verN; split <;> omega
                  obtain ⟨nw, hnw⟩ : ∃ nw, nw = wdN aw J := ⟨_, rfl⟩
                  have HNW := keepH hnw
                  clear hob hnw
                  go_wp2_with fail
                  refine (down_any m b 4000 nx ob (verN J) nw F cs tr _ HMr.out HBr.out bob (by omega) HOB.out hvb.1 hvb.2 (by rw [HNW.out]; exact HVE.out.1) HVE.out.2.1 HVE.out.2.2).mono ?_
                  rintro e y1 ⟨rfl, CY⟩
                  have HMy := keepH (HMr.out.chg CY (fun x => x))
                  have HBy := keepH (HBr.out.chg CY (fun _ _ x => x))
                  have HCy : Hid (Chg (fun _ => False) wE y1) := HCr.out.trans CY (fun _ _ x => x) (fun _ _ x => x)
                  clear CY HMr HBr HCr
                  by_cases hJ0 : J = 0
                  · subst hJ0
                    have e7 : ((i : Int) == (L : Int)) = true := beq_iff_eq.2 (by have := HIE.out; omega)
                    have e8 : (i : Int) = (L : Int) := by have := HIE.out; omega
                    obtain ⟨oc, hoc⟩ : ∃ oc, oc = a + y := ⟨_, rfl⟩
                    have kv : IntKind.u64.wrap ((a : Int) + (y : Int)) = (oc : Int) := by rw [IntKind.wrap_u64]; have := HAB.out; have := HYL.out; omega
                    have yw : IntKind.u64.wrap (y : Int) = (y : Int) := u64_lt (by have := HYL.out; omega)
                    have boc : oc < 18446744073709551616 := by have := HAB.out; have := HYL.out; omega
                    have HOC : Hid (cellN cs oc = 4) := by
                      show cellN cs oc = 4
                      rw [hoc, HAE.out, HYE.out]
                      exact (HBR.out 0 hJ _ (dgN_lt _ _)).trans (by rw [Nat.sub_zero]; exact br_y)
                    have HNA : Hid (nw = aw) := HNW.out
                    have hna : nw = aw := HNA.out
                    clear hoc
                    go_wp2_with fail
                    refine (down_any m b 4000 nx oc 4 bw F cs tr _ HMy.out HBy.out boc (by omega) HOC.out (by omega) (by omega) HFM.out.b0.1 HFM.out.b0.2.1 HFM.out.b0.2.2).mono ?_
                    rintro e y2 ⟨rfl, CY2⟩
                    have HCy2 : Hid (Chg (fun _ => False) wE y2) := HCy.out.trans CY2 (fun _ _ x => x) (fun _ _ x => x)
                    clear CY2
                    subst hna
                    go_wp2_with fail
                    go_ret
                    exact ⟨by simp, (HCE.out.trans HCy2.out (H := fun k => w.heap.size ≤ k) (fun _ _ x => x) (fun _ _ x => x.elim)).below (Nat.le_refl _)⟩
                  · have e7 : ((i : Int) == (L : Int)) = false := beq_eq_false_iff_ne.2 (by have := HIE.out; omega)
                    have e8 : ¬ (i : Int) = (L : Int) := by have := HIE.out; omega
                    have hi10 : (i : Int) + 1 ≤ 11 := by have := HIE.out; have := HLL.out; omega
                    go_wp2_with fail
                    go_roundw
                    case rel => exact ⟨J - 1, i + 1, by omega, by have := HIE.out; show i + 1 = _; omega, by first | rfl | go_num, by rw [HNW.out, show wdN aw J = 2 * (7 + 67 * (J - 1)) from if_neg hJ0], HCy⟩
                    case measure => simp [intOf]; have := HIE.out; omega

set_option maxRecDepth 100000 in
theorem lifted (os : Os) (started : os.Started) (H : Type) (enc : TypeId × Value → H) :
    ReturnsInHanded {} Try.checked os 5 .any (Rows.nodePartsSpec.pre6 enc Try.prog Try.f5 Rows.nodePartsRow.domain false) (Rows.nodePartsSpec.post enc Try.prog Try.f5 false true false false) := by
  refine returnsInHanded_of_change_sized (C := Try.checked) own started (by kernel_rfl) Try.func5
    (ChangeSpec.witness6 (enc := enc) (C := Try.checked) false ⟨#[], #[.agg #[.int .u64 0, .int .u64 0, .int .u64 0, .int .u64 0, .int .i64 0]], []⟩ 8 (by kernel_rfl) (by kernel_rfl) (by kernel_rfl) (by kernel_rfl)) ?_
  intro W base args ds gs before hval0 hW hcnd hsz0 _
  have hval : ∀ (j : Nat) t v, Try.f5.params[j]? = some t → args[j]? = some v → Value.okWide Try.prog W .any base t v := hval0
  have hsz : (DataW.weightsEach Try.prog (Try.f5.params.toList ++ Rows.nodePartsSpec.plain.varTypes Try.prog) (ds ++ gs)).all (· ≤ reachBytes) = true := hsz0
  clear hsz0
  have hW' := hW
  obtain ⟨p, q, hA0, hV, rfl, hfz, hnd⟩ := hW
  have hA : DataW.TrodAll enc Try.prog W 0 (fun _ => true) true Try.f5.params.toList args.toList ds p := hA0
  rw [Try.params5] at hA hval hsz
  obtain ⟨v0, vs0, d0, ds0, p0, q0, hargs, rfl, rfl, h0, r0⟩ := trodAll_cons hA
  obtain ⟨rfl, rfl, rfl⟩ := trodAll_nil r0
  obtain rfl : args = #[v0] := by cases args; simp_all
  obtain ⟨rfl, rfl⟩ := trodVars_none hV
  have k0 := h0
  have lt0 : ∀ x ∈ p0, x.block < W.heap.size := by obtain ⟨m, hm⟩ := k0; exact DataW.trod_lt m _ _ _ hm
  obtain ⟨cs0, rfl, _⟩ := okWide_struct Try.underlying76 (hval 0 76 v0 rfl rfl)
  obtain ⟨aw, ha, bw, hb, lv, rfl, hA, h0', hB, h1', hl0, hl1⟩ := parting_open h0
  clear hA0 hval0
  refine (walk aw ha bw hb lv W hA h0' hB h1' hl0 hl1).mono fun e W' ⟨he, bel⟩ => ?_
  subst he
  exact ⟨_, rfl, _, _, _, [], _, [], hW', trodAll_mk1 (shut_bool Try.underlying4 _), (trodAll_cons_mk (Below.trod laidOut (by kernel_rfl) (of_decide_eq_true (by kernel_rfl)) k0 bel lt0) trodAll_mk0), rfl, bel.frame _, fun h => by cases h⟩

theorem over : Rows.nodePartsRow.holds Try.pinned (OpenSpec.ofChange Rows.nodePartsSpec) :=
  OpenClaim.holds_of_wide 5 Try.f5 rfl rfl rfl rfl rfl rfl rfl ⟨rfl, rfl, rfl, rfl, rfl⟩ rfl rfl rfl rfl rfl (by kernel_rfl) Try.func5 (by kernel_rfl)
    (of_decide_eq_true (by kernel_rfl)) (by unfold Func.isWrapper; first | (rw [if_pos (by decide +kernel)]; kernel_rfl) | (rw [if_neg (by decide +kernel)]; exact ⟨rfl, rfl⟩))
    (fun os started H enc _ => lifted os started H enc)
end Go.Proofs.Ytlmfdgdmegkfdaa.nodeParts
namespace Go.Proofs.Ytlmfdgdmegkfdaa
theorem nodeParts_holds : Rows.NodePartsSaid := nodeParts.over
end Go.Proofs.Ytlmfdgdmegkfdaa
