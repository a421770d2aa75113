/- The way down from a branch: leads. -/
import Derived.Test.YtmhflmjhphhppabTp
import Derived.Test.YtmhflmjhphhppabMixF
import Derived.Test.YtmhflmjhphhppabNum3F
namespace Go.Proofs.Ytmhflmjhphhppab
open Go.RowKit Go.Shelf
set_option linter.unusedVariables false

set_option maxRecDepth 100000 in
theorem split_leaf (a wd : Nat) (W : World) (hwd : wd = 2 * a + 1) (hb : a < 18446744073709551616) : Calls Try.prog 45 #[.int .u64 (wd : Int)] W fun e W' => e = .returned (.tuple #[.int .u8 1, .int .u64 (a : Int)]) ∧ W' = W := by
  have n1 : ((wd : Int) == 0) = false := beq_eq_false_iff_ne.2 (by omega)
  have n2 : (wd : Int) % 2 = 1 := by omega
  have n3 : (wd : Int) / 2 = (a : Int) := by omega
  have n4 : (wd : Int).tmod 2 = 1 := by rw [Int.tmod_eq_emod_of_nonneg (by omega)]; exact n2
  have n5 : (wd : Int).tdiv 2 = (a : Int) := by rw [Int.tdiv_eq_ediv_of_nonneg (by omega)]; exact n3
  have n6 := u64_lt hb
  clear hwd
  go_enter Try.func45, Try.ntmps45
  go_wp2_with fail
  go_ret2
  exact ⟨by simp, rfl⟩
set_option maxRecDepth 100000 in
theorem split_branch (a wd : Nat) (W : World) (hwd : wd = 2 * a) (h0 : 0 < a) (hb : a < 18446744073709551616) : Calls Try.prog 45 #[.int .u64 (wd : Int)] W fun e W' => e = .returned (.tuple #[.int .u8 2, .int .u64 (a : Int)]) ∧ W' = W := by
  have n1 : ((wd : Int) == 0) = false := beq_eq_false_iff_ne.2 (by omega)
  have n2 : (wd : Int) % 2 = 0 := by omega
  have n3 : (wd : Int) / 2 = (a : Int) := by omega
  have n4 : (wd : Int).tmod 2 = 0 := by rw [Int.tmod_eq_emod_of_nonneg (by omega)]; exact n2
  have n5 : (wd : Int).tdiv 2 = (a : Int) := by rw [Int.tdiv_eq_ediv_of_nonneg (by omega)]; exact n3
  have n6 := u64_lt hb
  clear hwd
  go_enter Try.func45, Try.ntmps45
  go_wp2_with fail
  go_ret2
  exact ⟨by simp, rfl⟩

set_option maxRecDepth 100000 in
theorem begin_known {p : Nat} {aw am bw bm top level : Nat} {cells : List Nat} {pos wd : Nat} {W : World} (V : Value) (hp : IsFork W p false 0 aw am bw bm top level cells pos wd) (h0 : am < 18446744073709551616) (h1 : bm < 18446744073709551616) (h2 : top < 9223372036854775808) (hn : partN am bm top = none) : Calls Try.prog 73 #[.pointer (some ⟨p, 0, none⟩), V] W fun e W' => e = .returned (.bool true) ∧ IsFork W' p true 5 aw am bw bm top level cells pos wd ∧ Chg (fun k => k = p) W W' := by
  have c3 : W.cell? ⟨p, 3, none⟩ = some (.int .u64 (am : Int)) := cell_of hp.2 3
  have c5 : W.cell? ⟨p, 5, none⟩ = some (.int .u64 (bm : Int)) := cell_of hp.2 5
  have c6 : W.cell? ⟨p, 6, none⟩ = some (.int .i64 (top : Int)) := cell_of hp.2 6
  have HPT : Hid (∀ w, Calls Try.prog 92 #[.int .u64 (am : Int), .int .u64 (bm : Int), .int .i64 (top : Int)] w fun e W' => e = .returned (.tuple #[.int .i64 0, .bool false]) ∧ W' = w) := fun w => by
    have q := parting_any am bm top w h0 h1 h2
    rw [hn] at q
    exact q
  have HP := keepH hp
  clear hp hn
  go_enter Try.func73, Try.ntmps73
  go_upto_region 1 with fail
  go_quiet (first | (go_at_call 92; refine (HPT.out _).mono ?_; rintro x y ⟨rfl, rfl⟩; exact ⟨rfl, _, rfl⟩))
  obtain ⟨w1, hw1⟩ : ∃ w1, w1 = W.drewN nq := ⟨_, rfl⟩
  have C1 : Chg (fun _ => False) W w1 := by rw [hw1]; exact (Goes.drewN W (fun _ => False) nq).chg
  rw [← hw1]
  clear hw1 c3 c5 c6 HPT
  have HP1 := keepH (HP.out.chg C1 (fun h => h))
  have HC1 := keepH C1
  clear C1
  go_wp2_with fail
  refine (fork_end HP1.out 5).mono ?_
  rintro e w2 ⟨rfl, P2, C2⟩
  have HP2 := keepH P2
  have HC2 : Hid (Chg (fun k => k = p) W w2) := HC1.out.trans C2 (fun _ _ x => x.elim) (fun _ _ x => x)
  clear P2 C2
  go_wp2_with fail
  go_ret
  exact ⟨by simp, HP2.out, HC2.out⟩
set_option maxRecDepth 100000 in
theorem fork_known {p : Nat} {aw am bw bm top level : Nat} {cells : List Nat} {wd : Nat} {W : World} (V : Value) (hp : IsFork W p false 0 aw am bw bm top level cells 0 wd) (h0 : am < 18446744073709551616) (h1 : bm < 18446744073709551616) (h2 : top < 9223372036854775808) (hn : partN am bm top = none) : Calls Try.prog 38 #[.pointer (some ⟨p, 0, none⟩), V] W fun e W' => e = .returned (.bool true) ∧ IsFork W' p true 5 aw am bw bm top level cells 0 wd ∧ Chg (fun k => k = p) W W' := by
  have c0 : W.cell? ⟨p, 0, none⟩ = some (.bool false) := cell_of hp.2 0
  have c72 : W.cell? ⟨p, 72, none⟩ = some (.int .i64 0) := (cell_of hp.2 72).trans (fork_pos hp.1)
  have HIN := keepH (begin_known V hp h0 h1 h2 hn)
  clear hp
  go_enter Try.func38, Try.ntmps38
  go_wp2_with fail
  refine HIN.out.mono ?_
  rintro e w1 ⟨rfl, P1, C1⟩
  have HP1 := keepH P1
  have HC1 := keepH C1
  clear P1 C1
  go_wp2_with fail
  go_ret
  exact ⟨by simp, HP1.out, HC1.out⟩

set_option maxRecDepth 100000 in
theorem split_0 (W : World) : Calls Try.prog 45 #[.int .u64 0] W fun e W' => e = .returned (.tuple #[.int .u8 0, .int .u64 0]) ∧ W' = W := by
  go_enter Try.func45, Try.ntmps45
  go_wp2_with fail
  go_ret2
  exact ⟨by simp, rfl⟩
theorem SR.add {W : World} {m b v : Nat} {th : Int} {most : Nat} {w w' : World} {next made : Nat} {cs : List Nat} {n : Nat} {D : Nat → Prop} {p : Nat} (h : SR W m b v th most w next made cs n D) (c : Chg (fun _ => False) w w') (hp : w.heap.size ≤ p) (hl : p < w'.heap.size) : SR W m b v th most w' next made cs n (own2 D p none) := by
  obtain ⟨F, l, S, L, A⟩ := h
  have z1 := S.view.lt
  have z2 := S.mem.lt
  have z3 := S.chg.size
  refine ⟨F, l, S.chg' c, L, fun k e => ?_⟩
  rcases e with e | e | e
  · exact ⟨(A k e).1, (A k e).2.1, (A k e).2.2.1, (A k e).2.2.2.1, Nat.lt_of_lt_of_le (A k e).2.2.2.2 c.size⟩
  · subst e
    exact ⟨fun x => by have := S.bank.lt' _ x; omega, by omega, by omega, by omega, hl⟩
  · cases e
def Path (cs : List Nat) (B h L leaf : Nat) : Prop := ∀ J, J ≤ L → ∃ V, One cs (B + 6 + 67 * J + dgN h (L - J)) V (if J = 0 then leaf else 2 * (B + 6 + 67 * (J - 1)))
def atV (st x : Nat) : Nat := if 1 ≤ st then x else 0
set_option maxRecDepth 100000 in
/-- One level: an At that is made and done. -/
theorem at_one {W : World} {m b v nx made : Nat} {cs : List Nat} {D : Nat → Prop} {w : World} {obj st V x : Nat} (S : SR W m b v 0 4096 w nx made cs made D) (hO : One cs obj V x) (ho : obj < 18446744073709551616) (hm : made ≤ 1000000) (hDl : ∀ k, D k → k < w.heap.size) :
    Calls Try.prog 18 #[.int .u64 1, .int .u64 (obj : Int), .int .u64 (st : Int)] w fun e w1 => ∃ p, e = .returned (.pointer (some ⟨p, 0, none⟩)) ∧ Calls Try.prog 49 #[.pointer (some ⟨v, 0, none⟩), .iface 26 (.pointer (some ⟨p, 0, none⟩)), .int .i64 10] w1 fun e w2 => e = .returned (.bool true) ∧ Calls Try.prog 16 #[.pointer (some ⟨p, 0, none⟩)] w2 fun e w3 => e = .returned (.int .u64 (atV st x : Int)) ∧ w3 = w2 ∧ SR W m b v 0 4096 w2 nx (made + 4) cs (made + 4) D ∧ ∀ k, D k → w2.heap[k]? = w.heap[k]? := by
  refine (at_new 1 obj st w).mono ?_
  rintro e w1 ⟨p, hp, rfl, P, C, Z⟩
  refine ⟨p, rfl, ?_⟩
  have cs1 : CS W m b v 4096 w1 nx made cs made D p 115 (atL 1 0 0 obj 0 0 st 0 0) none 1 0 0 := ⟨S.add C hp (by omega), fun e => by have := hDl p e; omega, fun k e => (by cases e), P⟩
  refine (at_alone hO ho hm cs1).mono ?_
  rintro e w2 ⟨rfl, ⟨hd, hc⟩, hk⟩
  refine ⟨rfl, ?_⟩
  refine (at_value (x := atV st x) hc.blk rfl).mono ?_
  rintro e w3 ⟨rfl, rfl⟩
  exact ⟨rfl, rfl, hc.sr.mono (fun k e => .inl e), fun k e => (hk k e).trans (C.block k (hDl k e) (fun z => z))⟩

set_option maxRecDepth 100000 in
set_option maxHeartbeats 2000000 in
theorem leads_any {W : World} {m b v nx made B h L leaf st xx : Nat} {cs : List Nat} {D : Nat → Prop} {w : World} (S : SR W m b v 0 4096 w nx made cs made D) (P : Path cs B h L leaf) (hL : L < 11) (hB : 1 ≤ B ∧ B ≤ 1000) (hh : h < 18446744073709551616) (hlf : leaf = 2 * xx + 1) (hxx : xx < 4611686018427387904) (hst : st < 18446744073709551616) (hm : made ≤ 1000) (ww : Nat) (hww : ww = 2 * (B + 6 + 67 * L)) :
    Calls Try.prog 51 #[.pointer (some ⟨v, 0, none⟩), .int .u64 1, .int .u64 (ww : Int), .int .u64 (h : Int), .int .u64 (leaf : Int), .int .u64 (st : Int)] w fun e w' => e = .returned (.bool true) ∧ ∃ made', made' ≤ made + 44 ∧ SR W m b v 0 4096 w' nx made' cs made' D ∧ ∀ k, D k → w'.heap[k]? = w.heap[k]? := by
  have HS := keepH S
  have HP := keepH P
  have HWW := keepH hww
  have HLF := keepH hlf
  have lb : leaf < 18446744073709551616 := by omega
  clear S P hww hlf
  by_cases h0 : st = 0
  · have n0 : ((st : Int) == 0) = true := beq_iff_eq.2 (by omega)
    have HEV0 : Hid (∀ x, atV st x = 0) := fun x => if_neg (by omega)
    clear h0
    go_enter Try.func51, Try.ntmps51
    go_wp2_with fail
    go_loopw [2, 13] (fun s2 s13 wr => ∃ tt wd : Nat, tt ≤ 1 ∧ s13 = .int .i64 (tt : Int) ∧ s2 = .int .u64 (wd : Int) ∧ Hid ((tt = 0 ∧ wd = ww ∧ wr = w) ∨ (tt = 1 ∧ wd = 0 ∧ SR W m b v 0 4096 wr nx (made + 4) cs (made + 4) D ∧ ∀ k, D k → wr.heap[k]? = w.heap[k]?))) (fun _ s _ => 2 - (intOf s).toNat)
    case atStart => exact ⟨0, ww, by omega, rfl, rfl, .inl ⟨rfl, rfl, rfl⟩⟩
    case round =>
      obtain ⟨tt, wd, htt, rfl, rfl, HQ⟩ := hrel
      rcases HQ.out with ⟨rfl, hwd0, rfl⟩ | ⟨rfl, rfl, HK1⟩
      · obtain rfl : ww = wd := hwd0.symm
        clear hwd0 HQ
        obtain ⟨V, hO⟩ := HP.out L (Nat.le_refl _)
        rw [Nat.sub_self] at hO
        obtain ⟨a, ha⟩ : ∃ a, a = B + 6 + 67 * L := ⟨_, rfl⟩
        obtain ⟨d, hd⟩ : ∃ d, d = dgN h 0 := ⟨_, rfl⟩
        obtain ⟨ob, hob⟩ : ∃ ob, ob = a + d := ⟨_, rfl⟩
        have hdl : d < 64 := by rw [hd]; exact dgN_lt _ _
        have HDG : Hid (∀ w, Calls Try.prog 44 #[.int .u64 (h : Int), .int .i64 0] w fun e W' => e = .returned (.int .i64 (d : Int)) ∧ W' = w) := fun w => by rw [hd, dgN_eq]; exact digit_any h 0 w (by omega) (by omega) (by omega) (by omega)
        have dw : IntKind.u64.wrap (d : Int) = (d : Int) := u64_lt (by omega)
        have kw : IntKind.u64.wrap ((a : Int) + (d : Int)) = (ob : Int) := by rw [IntKind.wrap_u64]; omega
        rw [← ha, ← hd, ← hob] at hO
        have HAW : Hid (ww = 2 * a) := by show ww = 2 * a; rw [HWW.out, ha]
        have ab : 0 < a ∧ a < 18446744073709551616 := by omega
        have HO1 := keepH (at_one (st := st) HS.out hO (by omega) (by omega) (fun k e => HS.out.lt k e))
        clear ha hd hob hO hdl
        go_wp2_with fail
        refine (split_branch a ww _ HAW.out ab.1 ab.2).mono ?_
        rintro e z1 ⟨rfl, rfl⟩
        go_wp2_with fail
        refine (HDG.out _).mono ?_
        rintro e z1 ⟨rfl, rfl⟩
        go_wp2_with fail
        refine HO1.out.mono ?_
        rintro e z2 ⟨p, rfl, hA⟩
        have HA := keepH hA
        clear hA
        go_wp2_with fail
        refine HA.out.mono ?_
        rintro e z3 ⟨rfl, hA⟩
        have HA2 := keepH hA
        clear hA
        go_wp2_with fail
        refine HA2.out.mono ?_
        rintro e z4 ⟨rfl, rfl, hS, hK⟩
        have HK := keepH (And.intro hS hK)
        rw [HEV0.out]
        clear hS hK
        go_wp2_with fail
        go_roundw
        case rel => exact ⟨1, 0, by omega, by first | rfl | go_num, by first | rfl | simp, .inr ⟨rfl, rfl, HK.out⟩⟩
        case measure => simp [intOf]
      · have HK := keepH HK1
        clear HK1 HQ
        go_wp2_with fail
        refine (split_0 _).mono ?_
        rintro e z1 ⟨rfl, rfl⟩
        go_wp2_with fail
        go_ret
        exact ⟨by simp, made + 4, by omega, HK.out.1, HK.out.2⟩
  · have n0 : ((st : Int) == 0) = false := beq_eq_false_iff_ne.2 (by omega)
    have ev : ∀ x, atV st x = x := fun x => if_pos (by omega)
    have HEV := keepH ev
    clear ev
    go_enter Try.func51, Try.ntmps51
    go_wp2_with fail
    go_loopw [2, 13] (fun s2 s13 wr => ∃ i wd : Nat, i ≤ L + 1 ∧ s13 = .int .i64 (i : Int) ∧ s2 = .int .u64 (wd : Int) ∧ Hid (wd = if i ≤ L then 2 * (B + 6 + 67 * (L - i)) else leaf) ∧ Hid (SR W m b v 0 4096 wr nx (made + 4 * i) cs (made + 4 * i) D ∧ ∀ k, D k → wr.heap[k]? = w.heap[k]?)) (fun _ s _ => L + 2 - (intOf s).toNat)
    case atStart => exact ⟨0, ww, by omega, rfl, rfl, by show ww = _; rw [if_pos (by omega), HWW.out, Nat.sub_zero], keepH ⟨HS.out, fun _ _ => rfl⟩⟩
    case round =>
      obtain ⟨i, wd, hi, rfl, rfl, HWD, HK⟩ := hrel
      by_cases hiL : i ≤ L
      · have i1 : (i : Int) < 11 := by omega
        obtain ⟨V, hO⟩ := HP.out (L - i) (by omega)
        rw [show L - (L - i) = i by omega] at hO
        obtain ⟨a, ha⟩ : ∃ a, a = B + 6 + 67 * (L - i) := ⟨_, rfl⟩
        obtain ⟨d, hd⟩ : ∃ d, d = dgN h i := ⟨_, rfl⟩
        obtain ⟨ob, hob⟩ : ∃ ob, ob = a + d := ⟨_, rfl⟩
        obtain ⟨nw, hnw⟩ : ∃ nw, nw = if L - i = 0 then leaf else 2 * (B + 6 + 67 * (L - i - 1)) := ⟨_, rfl⟩
        have hdl : d < 64 := by rw [hd]; exact dgN_lt _ _
        have HDG : Hid (∀ w, Calls Try.prog 44 #[.int .u64 (h : Int), .int .i64 (i : Int)] w fun e W' => e = .returned (.int .i64 (d : Int)) ∧ W' = w) := fun w => by rw [hd, dgN_eq]; exact digit_any h i w (by omega) (by omega) (by omega) (by omega)
        have dw : IntKind.u64.wrap (d : Int) = (d : Int) := u64_lt (by omega)
        have kw : IntKind.u64.wrap ((a : Int) + (d : Int)) = (ob : Int) := by rw [IntKind.wrap_u64]; omega
        rw [← ha, ← hd, ← hob, ← hnw] at hO
        have HAW : Hid (wd = 2 * a) := by show wd = 2 * a; rw [HWD.out, if_pos hiL, ha]
        have ab : 0 < a ∧ a < 18446744073709551616 := by omega
        have HNW : Hid (nw = if i + 1 ≤ L then 2 * (B + 6 + 67 * (L - (i + 1))) else leaf) := by
          show nw = _
          rw [hnw]
          by_cases c : i + 1 ≤ L
          · rw [if_pos c, if_neg (by omega), show L - i - 1 = L - (i + 1) by omega]
          · rw [if_neg c, if_pos (by omega)]
        have HO1 := keepH (at_one (st := st) HK.out.1 hO (by omega) (by omega) (fun k e => HK.out.1.lt k e))
        have HK0 := HK
        clear ha hd hob hO hdl hnw HK
        go_wp2_with fail
        refine (split_branch a wd _ HAW.out ab.1 ab.2).mono ?_
        rintro e z1 ⟨rfl, rfl⟩
        go_wp2_with fail
        refine (HDG.out _).mono ?_
        rintro e z1 ⟨rfl, rfl⟩
        go_wp2_with fail
        refine HO1.out.mono ?_
        rintro e z2 ⟨p, rfl, hA⟩
        have HA := keepH hA
        clear hA
        go_wp2_with fail
        refine HA.out.mono ?_
        rintro e z3 ⟨rfl, hA⟩
        have HA2 := keepH hA
        clear hA
        go_wp2_with fail
        refine HA2.out.mono ?_
        rintro e z4 ⟨rfl, rfl, hS, hK⟩
        have HK2 : Hid (SR W m b v 0 4096 z4 nx (made + 4 * (i + 1)) cs (made + 4 * (i + 1)) D ∧ ∀ k, D k → z4.heap[k]? = w.heap[k]?) := ⟨by rw [show made + 4 * (i + 1) = made + 4 * i + 4 by omega]; exact hS, fun k e => (hK k e).trans (HK0.out.2 k e)⟩
        rw [HEV.out nw]
        clear hS hK
        go_wp2_with fail
        go_roundw
        case rel => exact ⟨i + 1, nw, by omega, by first | rfl | go_num, rfl, HNW, HK2⟩
        case measure => simp [intOf]; omega
      · obtain rfl : i = L + 1 := by omega
        have hwl : wd = leaf := by have e := HWD.out; rw [if_neg (by omega)] at e; exact e
        subst hwl
        by_cases h11 : L + 1 < 11
        · have i1 : ((L + 1 : Nat) : Int) < 11 := by omega
          go_wp2_with fail
          refine (split_leaf xx wd _ HLF.out (by omega)).mono ?_
          rintro e z1 ⟨rfl, rfl⟩
          go_wp2_with fail
          go_ret
          exact ⟨by simp, made + 4 * (L + 1), by omega, HK.out.1, HK.out.2⟩
        · have i1 : ¬ ((L + 1 : Nat) : Int) < 11 := by omega
          go_wp2_with fail
          go_ret
          exact ⟨by simp, made + 4 * (L + 1), by omega, HK.out.1, HK.out.2⟩
end Go.Proofs.Ytmhflmjhphhppab
