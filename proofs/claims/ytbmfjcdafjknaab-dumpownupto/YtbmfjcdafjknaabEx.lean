/- Pairs and changes side by side: the iterator. -/
import Derived.Test.YtbmfjcdafjknaabEf
import Derived.Test.YtbmfjcdafjknaabEg
namespace Go.Proofs.Ytbmfjcdafjknaab
open Go.RowKit Go.Shelf
set_option linter.unusedVariables false
attribute [local go_sem] Oper.semAt_some

theorem key_c (k : Nat) (had has : Bool) (old new : Nat) (w : World) : Calls Try.prog 22 #[.agg #[.int .u64 (k : Int), .bool had, .bool has, .int .u64 (old : Int), .int .u64 (new : Int)]] w fun e w' => e = .returned (.int .u64 (k : Int)) ∧ Below w.heap.size w w' := by
  go_enter Try.func22, Try.ntmps22
  go_wp2_with fail
  go_ret
  exact ⟨rfl, (Below.refl _ w).alloc (Nat.le_refl _) _⟩
theorem tail_C (bk off m c : Nat) (hm : m + 1 ≤ c) (hc : c ≤ 9223372036854775807) : ∃ ad : Addr, (∀ w, (Instr.slice 73 (.slice (some ⟨bk, off, none⟩) (m + 1) c) (some (.int .i64 1)) none none).run Try.prog w = .ok (.slice (some ad) m (c - 1)) w) ∧ (0 < m → ad = ⟨bk, off + 5, none⟩) := by
  by_cases e : c = 1
  · refine ⟨⟨bk, off, none⟩, fun w => ?_, fun h => by omega⟩
    obtain rfl : m = 0 := by omega
    have hb := run_sliceBound (P := Try.prog) (w := w) .i64 (1 : Int) (0 + 1) .sliceB (by omega) (by omega)
    simp [Instr.slice, run_underlying Try.underlying73, Instr.sliceBounds, Result.andThen, e, hb]
  · refine ⟨⟨bk, off + 5, none⟩, fun w => ?_, fun _ => rfl⟩
    have hb := run_sliceBound (P := Try.prog) (w := w) .i64 (1 : Int) (m + 1) .sliceB (by omega) (by omega)
    simp [Instr.slice, run_underlying Try.underlying73, Instr.sliceBounds, Result.andThen, e, hb, Addr.add]

set_option maxRecDepth 100000 in
set_option maxHeartbeats 4000000 in
theorem sbsC_in (n l B1 B2 B3 B4 bka offa bkb offb ca cb : Nat) (pa pb : Option Addr) (la : List (Nat × Nat)) (lb : List Ch) (F : Nat → Prop) (J Jx : List (IxP la.length lb.length) → World → Prop) (hn : 3 ≤ n)
    (hY : ∀ pre x W, J pre W → pre.length < la.length + lb.length → YieldAt Fence.wide (n - 1) Try.prog l #[ptP bka offa 2 x.1.1, ptP bkb offb 5 x.1.2] W fun e W' =>
      (e = .returned (.bool true) ∧ J (pre ++ [x]) W' ∧ Chg F W W') ∨ (e = .returned (.bool false) ∧ Jx (pre ++ [x]) W'))
    (W : World) (hJ : AbidesFrom W.heap.size J)
    (h1 : W.cell? ⟨B1, 0, none⟩ = some (.slice pa la.length ca)) (h2 : W.cell? ⟨B2, 0, none⟩ = some (.slice pb lb.length cb))
    (h3 : W.cell? ⟨B3, 0, none⟩ = some (.func (.func 21) #[] #[])) (h4 : W.cell? ⟨B4, 0, none⟩ = some (.func (.func 22) #[] #[])) (f3 : ¬ F B3) (f4 : ¬ F B4)
    (hpa : 0 < la.length → pa = some ⟨bka, offa, none⟩) (hpb : 0 < lb.length → pb = some ⟨bkb, offb, none⟩) (hca : la.length ≤ ca ∧ ca ≤ 9223372036854775807) (hcb : lb.length ≤ cb ∧ cb ≤ 9223372036854775807)
    (hA : ∀ (i k x : Nat), la[i]? = some (k, x) → ¬ F bka ∧ W.cell? ⟨bka, offa + i * 2, none⟩ = some (.int .u64 (k : Int)) ∧ W.cell? ⟨bka, offa + i * 2 + 1, none⟩ = some (.int .u64 (x : Int)))
    (hB : ∀ (i : Nat) (c : Ch), lb[i]? = some c → ¬ F bkb ∧ W.cell? ⟨bkb, offb + i * 5, none⟩ = some (.int .u64 (c.k : Int)) ∧ W.cell? ⟨bkb, offb + i * 5 + 1, none⟩ = some (.bool c.had) ∧ W.cell? ⟨bkb, offb + i * 5 + 2, none⟩ = some (.bool c.has) ∧ W.cell? ⟨bkb, offb + i * 5 + 3, none⟩ = some (.int .u64 (c.old : Int)) ∧ W.cell? ⟨bkb, offb + i * 5 + 4, none⟩ = some (.int .u64 (c.new : Int)))
    (h0 : J [] W) :
    CallsIn Fence.wide n Try.prog 51 #[.func (.yield l) #[] #[], .pointer (some ⟨B1, 0, none⟩), .pointer (some ⟨B2, 0, none⟩), .pointer (some ⟨B3, 0, none⟩), .pointer (some ⟨B4, 0, none⟩)] W fun e W' => (∃ v, e = .returned v) ∧
      ((∃ xs : List (IxP la.length lb.length), xs.map (valX la lb) = mrg (fun y : Ch => y.k) la lb ∧ J xs W') ∨ (∃ pre : List (IxP la.length lb.length), (∃ r, pre.map (valX la lb) ++ r = mrg (fun y : Ch => y.k) la lb) ∧ Jx pre W')) := by
  have hn1 : 1 ≤ n := by omega
  have hn2 : 1 ≤ n - 1 := by omega
  have HJ := keepH hJ
  have HA := keepH hA
  have HB := keepH hB
  have HY := keepH hY
  have HP : Hid ((0 < la.length → pa = some ⟨bka, offa, none⟩) ∧ (0 < lb.length → pb = some ⟨bkb, offb, none⟩)) := keepH ⟨hpa, hpb⟩
  have H34 : Hid ((W.cell? ⟨B3, 0, none⟩ = some (.func (.func 21) #[] #[]) ∧ ¬ F B3) ∧ (W.cell? ⟨B4, 0, none⟩ = some (.func (.func 22) #[] #[]) ∧ ¬ F B4)) := keepH ⟨⟨h3, f3⟩, h4, f4⟩
  clear hJ hA hB hY hpa hpb h3 h4 f3 f4
  refine callsIn_of_wp Try.func51 rfl trivial ?_ rfl
  simp only [Try.ntmps51, List.size_toArray, List.length_cons, List.length_nil, Nat.reduceAdd, Nat.reduceSub, Array.replicate_succ, Array.replicate_zero, List.push_toArray, List.append_toArray, List.nil_append, List.cons_append]
  have k1 := cell_regrown h1
  have k2 := cell_regrown h2
  gi_wp2
  refine wpIn_region_quiet_below rfl (by kernel_rfl) (by kernel_rfl) ?_
  repeat (refine wpQuietIn_step (fun _ _ _ _ => trivial) (fun K hK => ?_); go_simp; first | (refine hK _ ?_; clear hK K) | (apply Exists.intro; refine ⟨fun _ => ?_, hK _ ?_⟩; (first | exact ⟨hn1, KA.out _ _⟩ | exact ⟨hn1, KB.out _ _⟩ | exact KA.out _ _ | exact KB.out _ _); clear hK K))
  refine wpQuietIn_nil ?_
  intro _ hw'
  obtain ⟨⟨dq, osq⟩, hw''⟩ := hw'
  subst hw''
  obtain ⟨X0, hX0⟩ : ∃ X, X = Sort.grow (redrawn W dq) osq := ⟨_, rfl⟩
  have HX0 : Hid (Below W.heap.size W X0) := keepH (by rw [hX0]; exact below_regrown W dq osq)
  rw [← hX0]
  clear hX0 k1 k2 h1 h2
  gi_wp2
  gi_loopw [6, 7] (fun s t wr => ∃ (i k m r ca' cb' : Nat) (pa' pb' : Option Addr) (pre : List (IxP la.length lb.length)), s = .slice pa' m ca' ∧ t = .slice pb' r cb' ∧ (m + i = la.length ∧ r + k = lb.length ∧ m ≤ ca' ∧ ca' ≤ 9223372036854775807 ∧ r ≤ cb' ∧ cb' ≤ 9223372036854775807) ∧ Hid ((0 < m → pa' = some ⟨bka, offa + i * 2, none⟩) ∧ (0 < r → pb' = some ⟨bkb, offb + k * 5, none⟩) ∧ pre.length ≤ i + k ∧ pre.map (valX la lb) ++ mrg (fun y : Ch => y.k) (la.drop i) (lb.drop k) = mrg (fun y : Ch => y.k) la lb ∧ J pre wr ∧ Chg F W wr)) (fun s t _ => lenV s + lenV t)
  case atStart => exact ⟨0, 0, la.length, lb.length, ca, cb, pa, pb, [], rfl, rfl, ⟨by omega, by omega, hca.1, hca.2, hcb.1, hcb.2⟩, keepH ⟨fun h => by simpa using HP.out.1 h, fun h => by simpa using HP.out.2 h, by simp, by simp, HJ.out _ _ _ none h0 (grown_none HX0.out) (fun r e => by cases e), (below_chgE HX0.out).mono (fun _ _ x => x.elim)⟩⟩
  case round =>
    obtain ⟨i, k, m, r, ca', cb', pa', pb', pre, rfl, rfl, hm, HX⟩ := hrel
    cases m with
    | zero =>
      cases r with
      | zero =>
        gi_wp2
        go_end0
        refine ⟨⟨_, rfl⟩, .inl ⟨pre, ?_, HX.out.2.2.2.2.1⟩⟩
        have e := HX.out.2.2.2.1
        rw [List.drop_eq_nil_of_le (by omega), List.drop_eq_nil_of_le (by omega), mrg_nil, List.append_nil] at e
        exact e
      | succ r =>
        have Hwr : Hid (J pre wr ∧ Chg F W wr) := keepH HX.out.2.2.2.2
        obtain ⟨⟨kb, hd, hs, od, nw⟩, hxb⟩ : ∃ y : Ch, lb[k]? = some y := ⟨lb[k]'(by omega), List.getElem?_eq_getElem _⟩
        have hk : k < lb.length := by omega
        have HLB := keepH hxb
        obtain rfl := HX.out.2.1 (by omega)
        obtain ⟨bd, bsl, hbd⟩ := tail_C bkb (offb + k * 5) r cb' (by omega) (by omega)
        have HBD := keepH hbd
        have tr : (0 : Int) < (r : Int) + 1 := by omega
        have tr0 : ((r : Int) + 1 == 0) = false := by simp; omega
        have tr1 : ¬ (r : Int) + 1 = 0 := by omega
        clear hxb hbd
        gi_wp2
        refine wpIn_region_quiet_below rfl (by kernel_rfl) (by kernel_rfl) ?_
        repeat (refine wpQuietIn_step (fun _ _ _ _ => trivial) (fun K hK => ?_); go_simp; first | (refine hK _ ?_; clear hK K) | (apply Exists.intro; refine ⟨fun _ => ?_, hK _ ?_⟩; (first | exact ⟨hn1, KA.out _ _⟩ | exact ⟨hn1, KB.out _ _⟩ | exact KA.out _ _ | exact KB.out _ _); clear hK K))
        refine wpQuietIn_nil ?_
        intro _ hw'
        obtain ⟨⟨dq, osq⟩, hw''⟩ := hw'
        subst hw''
        obtain ⟨X4, hX0⟩ : ∃ X, X = Sort.grow (redrawn wr dq) osq := ⟨_, rfl⟩
        have HX4 : Hid (J pre X4 ∧ Chg F W X4) := keepH (by rw [hX0]; exact ⟨HJ.out _ _ _ none Hwr.out.1 (grown_none (below_regrown wr dq osq)) (fun r e => by cases e), Hwr.out.2.trans (below_chgE (below_regrown wr dq osq)) (fun _ _ x => x) (fun _ _ x => x.elim)⟩)
        rw [← hX0]
        clear hX0
        gi_wp2
        refine wpIn_region_quiet_below rfl (by kernel_rfl) (by kernel_rfl) ?_
        repeat (refine wpQuietIn_step (fun _ _ _ _ => trivial) (fun K hK => ?_); go_simp; first | (refine hK _ ?_; clear hK K) | (apply Exists.intro; refine ⟨fun _ => ?_, hK _ ?_⟩; (first | exact ⟨hn1, KA.out _ _⟩ | exact ⟨hn1, KB.out _ _⟩ | exact KA.out _ _ | exact KB.out _ _); clear hK K))
        refine wpQuietIn_nil ?_
        intro _ hw'
        obtain ⟨⟨dq, osq⟩, hw''⟩ := hw'
        subst hw''
        obtain ⟨X5, hX0⟩ : ∃ X, X = Sort.grow (redrawn X4 dq) osq := ⟨_, rfl⟩
        have HX5 : Hid (J pre X5 ∧ Chg F W X5) := keepH (by rw [hX0]; exact ⟨HJ.out _ _ _ none HX4.out.1 (grown_none (below_regrown X4 dq osq)) (fun r e => by cases e), HX4.out.2.trans (below_chgE (below_regrown X4 dq osq)) (fun _ _ x => x) (fun _ _ x => x.elim)⟩)
        rw [← hX0]
        clear hX0
        gi_wp2
        refine wpIn_region_quiet_below rfl (by kernel_rfl) (by kernel_rfl) ?_
        repeat (refine wpQuietIn_step (fun _ _ _ _ => trivial) (fun K hK => ?_); go_simp; first | (refine hK _ ?_; clear hK K) | (apply Exists.intro; refine ⟨fun _ => ?_, hK _ ?_⟩; (first | exact ⟨hn1, KA.out _ _⟩ | exact ⟨hn1, KB.out _ _⟩ | exact KA.out _ _ | exact KB.out _ _); clear hK K))
        refine wpQuietIn_nil ?_
        intro _ hw'
        obtain ⟨⟨dq, osq⟩, hw''⟩ := hw'
        subst hw''
        obtain ⟨X9, hX0⟩ : ∃ X, X = Sort.grow (redrawn X5 dq) osq := ⟨_, rfl⟩
        have HX9 : Hid (J pre X9 ∧ Chg F W X9) := keepH (by rw [hX0]; exact ⟨HJ.out _ _ _ none HX5.out.1 (grown_none (below_regrown X5 dq osq)) (fun r e => by cases e), HX5.out.2.trans (below_chgE (below_regrown X5 dq osq)) (fun _ _ x => x) (fun _ _ x => x.elim)⟩)
        rw [← hX0]
        clear hX0
        obtain ⟨fn, tmps, assign, body, hy, hR⟩ := HY.out pre (ixB la.length lb.length k hk) X9 HX9.out.1 (by have := HX.out.2.2.1; omega)
        dsimp only [ixB, ptP, Option.map] at hy
        gi_wp2
        refine hR.mono ?_
        rintro e W3 (⟨rfl, hJ3, hk3⟩ | ⟨rfl, hJx3⟩)
        · have HR3 : Hid (J (pre ++ [ixB la.length lb.length k hk]) W3 ∧ Chg F W W3) := keepH ⟨hJ3, HX9.out.2.trans hk3 (fun _ _ x => x) (fun _ _ x => x)⟩
          clear hJ3 hk3
          gi_wp2
          go_roundw
          case rel => exact ⟨i, k + 1, 0, r, ca', (cb' - 1), pa', (some bd), pre ++ [ixB la.length lb.length k hk], rfl, rfl, ⟨by omega, by omega, by omega, by omega, by omega, by omega⟩, keepH ⟨HX.out.1, fun h => by rw [HBD.out h]; first | (simp; done) | (simp; omega), by have := HX.out.2.2.1; simp; omega, by rw [← HX.out.2.2.2.1, drop_of HLB.out, List.drop_eq_nil_of_le (show la.length ≤ i by omega), mrg_right]; simp [ixB, valX, HLB.out], HR3.out⟩⟩
          case measure => first | (simp [lenV]; done) | (simp [lenV]; omega)
        · gi_wp2
          refine bodyPost_ret (results_none rfl _ _ _) rfl ?_
          exact ⟨⟨_, rfl⟩, .inr ⟨pre ++ [ixB la.length lb.length k hk], ⟨mrg (fun y : Ch => y.k) (la.drop (i)) (lb.drop (k + 1)), by rw [← HX.out.2.2.2.1, drop_of HLB.out, List.drop_eq_nil_of_le (show la.length ≤ i by omega), mrg_right]; simp [ixB, valX, HLB.out]⟩, hJx3⟩⟩
    | succ m =>
      cases r with
      | zero =>
        have Hwr : Hid (J pre wr ∧ Chg F W wr) := keepH HX.out.2.2.2.2
        obtain ⟨⟨ka, xa⟩, hxa⟩ : ∃ y, la[i]? = some y := ⟨la[i]'(by omega), List.getElem?_eq_getElem _⟩
        have hi : i < la.length := by omega
        have HLA := keepH hxa
        obtain rfl := HX.out.1 (by omega)
        obtain ⟨ad, hsl, had⟩ := tail_P bka (offa + i * 2) m ca' (by omega) (by omega)
        have HAD := keepH had
        have tm : (0 : Int) < (m : Int) + 1 := by omega
        have tm0 : ((m : Int) + 1 == 0) = false := by simp; omega
        have tm1 : ¬ (m : Int) + 1 = 0 := by omega
        clear hxa had
        gi_wp2
        refine wpIn_region_quiet_below rfl (by kernel_rfl) (by kernel_rfl) ?_
        repeat (refine wpQuietIn_step (fun _ _ _ _ => trivial) (fun K hK => ?_); go_simp; first | (refine hK _ ?_; clear hK K) | (apply Exists.intro; refine ⟨fun _ => ?_, hK _ ?_⟩; (first | exact ⟨hn1, KA.out _ _⟩ | exact ⟨hn1, KB.out _ _⟩ | exact KA.out _ _ | exact KB.out _ _); clear hK K))
        refine wpQuietIn_nil ?_
        intro _ hw'
        obtain ⟨⟨dq, osq⟩, hw''⟩ := hw'
        subst hw''
        obtain ⟨X4, hX0⟩ : ∃ X, X = Sort.grow (redrawn wr dq) osq := ⟨_, rfl⟩
        have HX4 : Hid (J pre X4 ∧ Chg F W X4) := keepH (by rw [hX0]; exact ⟨HJ.out _ _ _ none Hwr.out.1 (grown_none (below_regrown wr dq osq)) (fun r e => by cases e), Hwr.out.2.trans (below_chgE (below_regrown wr dq osq)) (fun _ _ x => x) (fun _ _ x => x.elim)⟩)
        rw [← hX0]
        clear hX0
        gi_wp2
        refine wpIn_region_quiet_below rfl (by kernel_rfl) (by kernel_rfl) ?_
        repeat (refine wpQuietIn_step (fun _ _ _ _ => trivial) (fun K hK => ?_); go_simp; first | (refine hK _ ?_; clear hK K) | (apply Exists.intro; refine ⟨fun _ => ?_, hK _ ?_⟩; (first | exact ⟨hn1, KA.out _ _⟩ | exact ⟨hn1, KB.out _ _⟩ | exact KA.out _ _ | exact KB.out _ _); clear hK K))
        refine wpQuietIn_nil ?_
        intro _ hw'
        obtain ⟨⟨dq, osq⟩, hw''⟩ := hw'
        subst hw''
        obtain ⟨X5, hX0⟩ : ∃ X, X = Sort.grow (redrawn X4 dq) osq := ⟨_, rfl⟩
        have HX5 : Hid (J pre X5 ∧ Chg F W X5) := keepH (by rw [hX0]; exact ⟨HJ.out _ _ _ none HX4.out.1 (grown_none (below_regrown X4 dq osq)) (fun r e => by cases e), HX4.out.2.trans (below_chgE (below_regrown X4 dq osq)) (fun _ _ x => x) (fun _ _ x => x.elim)⟩)
        rw [← hX0]
        clear hX0
        gi_wp2
        refine wpIn_region_quiet_below rfl (by kernel_rfl) (by kernel_rfl) ?_
        repeat (refine wpQuietIn_step (fun _ _ _ _ => trivial) (fun K hK => ?_); go_simp; first | (refine hK _ ?_; clear hK K) | (apply Exists.intro; refine ⟨fun _ => ?_, hK _ ?_⟩; (first | exact ⟨hn1, KA.out _ _⟩ | exact ⟨hn1, KB.out _ _⟩ | exact KA.out _ _ | exact KB.out _ _); clear hK K))
        refine wpQuietIn_nil ?_
        intro _ hw'
        obtain ⟨⟨dq, osq⟩, hw''⟩ := hw'
        subst hw''
        obtain ⟨X7, hX0⟩ : ∃ X, X = Sort.grow (redrawn X5 dq) osq := ⟨_, rfl⟩
        have HX7 : Hid (J pre X7 ∧ Chg F W X7) := keepH (by rw [hX0]; exact ⟨HJ.out _ _ _ none HX5.out.1 (grown_none (below_regrown X5 dq osq)) (fun r e => by cases e), HX5.out.2.trans (below_chgE (below_regrown X5 dq osq)) (fun _ _ x => x) (fun _ _ x => x.elim)⟩)
        rw [← hX0]
        clear hX0
        obtain ⟨fn, tmps, assign, body, hy, hR⟩ := HY.out pre (ixA la.length lb.length i hi) X7 HX7.out.1 (by have := HX.out.2.2.1; omega)
        dsimp only [ixA, ptP, Option.map] at hy
        gi_wp2
        refine hR.mono ?_
        rintro e W3 (⟨rfl, hJ3, hk3⟩ | ⟨rfl, hJx3⟩)
        · have HR3 : Hid (J (pre ++ [ixA la.length lb.length i hi]) W3 ∧ Chg F W W3) := keepH ⟨hJ3, HX7.out.2.trans hk3 (fun _ _ x => x) (fun _ _ x => x)⟩
          clear hJ3 hk3
          gi_wp2
          go_roundw
          case rel => exact ⟨i + 1, k, m, 0, (ca' - 1), cb', (some ad), pb', pre ++ [ixA la.length lb.length i hi], rfl, rfl, ⟨by omega, by omega, by omega, by omega, by omega, by omega⟩, keepH ⟨fun h => by rw [HAD.out h]; first | (simp; done) | (simp; omega), HX.out.2.1, by have := HX.out.2.2.1; simp; omega, by rw [← HX.out.2.2.2.1, drop_of HLA.out, List.drop_eq_nil_of_le (show lb.length ≤ k by omega), mrg_left]; simp [ixA, valX, HLA.out], HR3.out⟩⟩
          case measure => first | (simp [lenV]; done) | (simp [lenV]; omega)
        · gi_wp2
          refine bodyPost_ret (results_none rfl _ _ _) rfl ?_
          exact ⟨⟨_, rfl⟩, .inr ⟨pre ++ [ixA la.length lb.length i hi], ⟨mrg (fun y : Ch => y.k) (la.drop (i + 1)) (lb.drop (k)), by rw [← HX.out.2.2.2.1, drop_of HLA.out, List.drop_eq_nil_of_le (show lb.length ≤ k by omega), mrg_left]; simp [ixA, valX, HLA.out]⟩, hJx3⟩⟩
      | succ r =>
        have Hwr : Hid (J pre wr ∧ Chg F W wr) := keepH HX.out.2.2.2.2
        obtain ⟨⟨ka, xa⟩, hxa⟩ : ∃ y, la[i]? = some y := ⟨la[i]'(by omega), List.getElem?_eq_getElem _⟩
        have hi : i < la.length := by omega
        have HLA := keepH hxa
        obtain rfl := HX.out.1 (by omega)
        obtain ⟨ad, hsl, had⟩ := tail_P bka (offa + i * 2) m ca' (by omega) (by omega)
        have HAD := keepH had
        have tm : (0 : Int) < (m : Int) + 1 := by omega
        have tm0 : ((m : Int) + 1 == 0) = false := by simp; omega
        have tm1 : ¬ (m : Int) + 1 = 0 := by omega
        clear hxa had
        obtain ⟨⟨kb, hd, hs, od, nw⟩, hxb⟩ : ∃ y : Ch, lb[k]? = some y := ⟨lb[k]'(by omega), List.getElem?_eq_getElem _⟩
        have hk : k < lb.length := by omega
        have HLB := keepH hxb
        obtain rfl := HX.out.2.1 (by omega)
        obtain ⟨bd, bsl, hbd⟩ := tail_C bkb (offb + k * 5) r cb' (by omega) (by omega)
        have HBD := keepH hbd
        have tr : (0 : Int) < (r : Int) + 1 := by omega
        have tr0 : ((r : Int) + 1 == 0) = false := by simp; omega
        have tr1 : ¬ (r : Int) + 1 = 0 := by omega
        clear hxb hbd
        rcases Nat.lt_trichotomy ka kb with t | t | t
        · have t1 : decide ((ka : Int) ≤ (kb : Int)) = true := decide_eq_true (by omega)
          have t2 : decide ((kb : Int) ≤ (ka : Int)) = false := decide_eq_false (by omega)
          have t3 : (ka : Int) ≤ (kb : Int) := by omega
          have t4 : ¬ (kb : Int) ≤ (ka : Int) := by omega
          have HT := keepH t
          clear t
          obtain ⟨_, c0, c1⟩ := HA.out i ka xa HLA.out
          obtain ⟨_, d0, d1, d2, d3, d4⟩ := HB.out k _ HLB.out
          have k0 := cell_regrown (cell_chg Hwr.out.2 c0 (HA.out i ka xa HLA.out).1)
          have k1 := cell_regrown (cell_chg Hwr.out.2 c1 (HA.out i ka xa HLA.out).1)
          have k2 := cell_regrown (cell_chg Hwr.out.2 d0 (HB.out k _ HLB.out).1)
          have k3 := cell_regrown (cell_chg Hwr.out.2 d1 (HB.out k _ HLB.out).1)
          have k6 := cell_regrown (cell_chg Hwr.out.2 d2 (HB.out k _ HLB.out).1)
          have k7 := cell_regrown (cell_chg Hwr.out.2 d3 (HB.out k _ HLB.out).1)
          have k8 := cell_regrown (cell_chg Hwr.out.2 d4 (HB.out k _ HLB.out).1)
          have k4 := cell_regrown (cell_chg Hwr.out.2 H34.out.1.1 H34.out.1.2)
          have k5 := cell_regrown (cell_chg Hwr.out.2 H34.out.2.1 H34.out.2.2)
          have KA := keepH (fun dd os => CallsIn.regrown_of (F := Fence.wide) (r := n - 1) (w := wr) (d := dd) (os := os) (callsIn_wide.2 (key_p ka xa _)))
          have KB := keepH (fun dd os => CallsIn.regrown_of (F := Fence.wide) (r := n - 1) (w := wr) (d := dd) (os := os) (callsIn_wide.2 (key_c kb hd hs od nw _)))
          clear c0 c1 d0 d1 d2 d3 d4
          gi_wp2
          refine wpIn_region_quiet_below rfl (by kernel_rfl) (by kernel_rfl) ?_
          repeat (refine wpQuietIn_step (fun _ _ _ _ => trivial) (fun K hK => ?_); go_simp; first | (refine hK _ ?_; clear hK K) | (apply Exists.intro; refine ⟨fun _ => ?_, hK _ ?_⟩; (first | exact ⟨hn1, KA.out _ _⟩ | exact ⟨hn1, KB.out _ _⟩ | exact KA.out _ _ | exact KB.out _ _); clear hK K))
          refine wpQuietIn_nil ?_
          intro _ hw'
          obtain ⟨⟨dq, osq⟩, hw''⟩ := hw'
          subst hw''
          clear k0 k1 k2 k3 k4 k5 k6 k7 k8 KA KB
          obtain ⟨X4, hX0⟩ : ∃ X, X = Sort.grow (redrawn wr dq) osq := ⟨_, rfl⟩
          have HX4 : Hid (J pre X4 ∧ Chg F W X4) := keepH (by rw [hX0]; exact ⟨HJ.out _ _ _ none Hwr.out.1 (grown_none (below_regrown wr dq osq)) (fun r e => by cases e), Hwr.out.2.trans (below_chgE (below_regrown wr dq osq)) (fun _ _ x => x) (fun _ _ x => x.elim)⟩)
          rw [← hX0]
          clear hX0
          obtain ⟨_, c0, c1⟩ := HA.out i ka xa HLA.out
          obtain ⟨_, d0, d1, d2, d3, d4⟩ := HB.out k _ HLB.out
          have k0 := cell_regrown (cell_chg HX4.out.2 c0 (HA.out i ka xa HLA.out).1)
          have k1 := cell_regrown (cell_chg HX4.out.2 c1 (HA.out i ka xa HLA.out).1)
          have k2 := cell_regrown (cell_chg HX4.out.2 d0 (HB.out k _ HLB.out).1)
          have k3 := cell_regrown (cell_chg HX4.out.2 d1 (HB.out k _ HLB.out).1)
          have k6 := cell_regrown (cell_chg HX4.out.2 d2 (HB.out k _ HLB.out).1)
          have k7 := cell_regrown (cell_chg HX4.out.2 d3 (HB.out k _ HLB.out).1)
          have k8 := cell_regrown (cell_chg HX4.out.2 d4 (HB.out k _ HLB.out).1)
          have k4 := cell_regrown (cell_chg HX4.out.2 H34.out.1.1 H34.out.1.2)
          have k5 := cell_regrown (cell_chg HX4.out.2 H34.out.2.1 H34.out.2.2)
          have KA := keepH (fun dd os => CallsIn.regrown_of (F := Fence.wide) (r := n - 1) (w := X4) (d := dd) (os := os) (callsIn_wide.2 (key_p ka xa _)))
          have KB := keepH (fun dd os => CallsIn.regrown_of (F := Fence.wide) (r := n - 1) (w := X4) (d := dd) (os := os) (callsIn_wide.2 (key_c kb hd hs od nw _)))
          clear c0 c1 d0 d1 d2 d3 d4
          gi_wp2
          refine wpIn_region_quiet_below rfl (by kernel_rfl) (by kernel_rfl) ?_
          repeat (refine wpQuietIn_step (fun _ _ _ _ => trivial) (fun K hK => ?_); go_simp; first | (refine hK _ ?_; clear hK K) | (apply Exists.intro; refine ⟨fun _ => ?_, hK _ ?_⟩; (first | exact ⟨hn1, KA.out _ _⟩ | exact ⟨hn1, KB.out _ _⟩ | exact KA.out _ _ | exact KB.out _ _); clear hK K))
          refine wpQuietIn_nil ?_
          intro _ hw'
          obtain ⟨⟨dq, osq⟩, hw''⟩ := hw'
          subst hw''
          clear k0 k1 k2 k3 k4 k5 k6 k7 k8 KA KB
          obtain ⟨X5, hX0⟩ : ∃ X, X = Sort.grow (redrawn X4 dq) osq := ⟨_, rfl⟩
          have HX5 : Hid (J pre X5 ∧ Chg F W X5) := keepH (by rw [hX0]; exact ⟨HJ.out _ _ _ none HX4.out.1 (grown_none (below_regrown X4 dq osq)) (fun r e => by cases e), HX4.out.2.trans (below_chgE (below_regrown X4 dq osq)) (fun _ _ x => x) (fun _ _ x => x.elim)⟩)
          rw [← hX0]
          clear hX0
          gi_wp2
          refine wpIn_region_quiet_below rfl (by kernel_rfl) (by kernel_rfl) ?_
          repeat (refine wpQuietIn_step (fun _ _ _ _ => trivial) (fun K hK => ?_); go_simp; first | (refine hK _ ?_; clear hK K) | (apply Exists.intro; refine ⟨fun _ => ?_, hK _ ?_⟩; (first | exact ⟨hn1, KA.out _ _⟩ | exact ⟨hn1, KB.out _ _⟩ | exact KA.out _ _ | exact KB.out _ _); clear hK K))
          refine wpQuietIn_nil ?_
          intro _ hw'
          obtain ⟨⟨dq, osq⟩, hw''⟩ := hw'
          subst hw''
          obtain ⟨X7, hX0⟩ : ∃ X, X = Sort.grow (redrawn X5 dq) osq := ⟨_, rfl⟩
          have HX7 : Hid (J pre X7 ∧ Chg F W X7) := keepH (by rw [hX0]; exact ⟨HJ.out _ _ _ none HX5.out.1 (grown_none (below_regrown X5 dq osq)) (fun r e => by cases e), HX5.out.2.trans (below_chgE (below_regrown X5 dq osq)) (fun _ _ x => x) (fun _ _ x => x.elim)⟩)
          rw [← hX0]
          clear hX0
          obtain ⟨fn, tmps, assign, body, hy, hR⟩ := HY.out pre (ixA la.length lb.length i hi) X7 HX7.out.1 (by have := HX.out.2.2.1; omega)
          dsimp only [ixA, ptP, Option.map] at hy
          gi_wp2
          refine hR.mono ?_
          rintro e W3 (⟨rfl, hJ3, hk3⟩ | ⟨rfl, hJx3⟩)
          · have HR3 : Hid (J (pre ++ [ixA la.length lb.length i hi]) W3 ∧ Chg F W W3) := keepH ⟨hJ3, HX7.out.2.trans hk3 (fun _ _ x => x) (fun _ _ x => x)⟩
            clear hJ3 hk3
            gi_wp2
            go_roundw
            case rel => exact ⟨i + 1, k, m, (r + 1), (ca' - 1), cb', (some ad), (some ⟨bkb, offb + k * 5, none⟩), pre ++ [ixA la.length lb.length i hi], rfl, rfl, ⟨by omega, by omega, by omega, by omega, by omega, by omega⟩, keepH ⟨fun h => by rw [HAD.out h]; first | (simp; done) | (simp; omega), fun _ => rfl, by have := HX.out.2.2.1; simp; omega, by rw [← HX.out.2.2.2.1, drop_of HLA.out, drop_of HLB.out, mrg_lt _ HT.out]; simp [ixA, valX, HLA.out], HR3.out⟩⟩
            case measure => first | (simp [lenV]; done) | (simp [lenV]; omega)
          · gi_wp2
            refine bodyPost_ret (results_none rfl _ _ _) rfl ?_
            exact ⟨⟨_, rfl⟩, .inr ⟨pre ++ [ixA la.length lb.length i hi], ⟨mrg (fun y : Ch => y.k) (la.drop (i + 1)) (lb.drop (k)), by rw [← HX.out.2.2.2.1, drop_of HLA.out, drop_of HLB.out, mrg_lt _ HT.out]; simp [ixA, valX, HLA.out]⟩, hJx3⟩⟩
        · have t1 : decide ((ka : Int) ≤ (kb : Int)) = true := decide_eq_true (by omega)
          have t2 : decide ((kb : Int) ≤ (ka : Int)) = true := decide_eq_true (by omega)
          have t3 : (ka : Int) ≤ (kb : Int) := by omega
          have t4 : (kb : Int) ≤ (ka : Int) := by omega
          have HT := keepH t
          clear t
          obtain ⟨_, c0, c1⟩ := HA.out i ka xa HLA.out
          obtain ⟨_, d0, d1, d2, d3, d4⟩ := HB.out k _ HLB.out
          have k0 := cell_regrown (cell_chg Hwr.out.2 c0 (HA.out i ka xa HLA.out).1)
          have k1 := cell_regrown (cell_chg Hwr.out.2 c1 (HA.out i ka xa HLA.out).1)
          have k2 := cell_regrown (cell_chg Hwr.out.2 d0 (HB.out k _ HLB.out).1)
          have k3 := cell_regrown (cell_chg Hwr.out.2 d1 (HB.out k _ HLB.out).1)
          have k6 := cell_regrown (cell_chg Hwr.out.2 d2 (HB.out k _ HLB.out).1)
          have k7 := cell_regrown (cell_chg Hwr.out.2 d3 (HB.out k _ HLB.out).1)
          have k8 := cell_regrown (cell_chg Hwr.out.2 d4 (HB.out k _ HLB.out).1)
          have k4 := cell_regrown (cell_chg Hwr.out.2 H34.out.1.1 H34.out.1.2)
          have k5 := cell_regrown (cell_chg Hwr.out.2 H34.out.2.1 H34.out.2.2)
          have KA := keepH (fun dd os => CallsIn.regrown_of (F := Fence.wide) (r := n - 1) (w := wr) (d := dd) (os := os) (callsIn_wide.2 (key_p ka xa _)))
          have KB := keepH (fun dd os => CallsIn.regrown_of (F := Fence.wide) (r := n - 1) (w := wr) (d := dd) (os := os) (callsIn_wide.2 (key_c kb hd hs od nw _)))
          clear c0 c1 d0 d1 d2 d3 d4
          gi_wp2
          refine wpIn_region_quiet_below rfl (by kernel_rfl) (by kernel_rfl) ?_
          repeat (refine wpQuietIn_step (fun _ _ _ _ => trivial) (fun K hK => ?_); go_simp; first | (refine hK _ ?_; clear hK K) | (apply Exists.intro; refine ⟨fun _ => ?_, hK _ ?_⟩; (first | exact ⟨hn1, KA.out _ _⟩ | exact ⟨hn1, KB.out _ _⟩ | exact KA.out _ _ | exact KB.out _ _); clear hK K))
          refine wpQuietIn_nil ?_
          intro _ hw'
          obtain ⟨⟨dq, osq⟩, hw''⟩ := hw'
          subst hw''
          clear k0 k1 k2 k3 k4 k5 k6 k7 k8 KA KB
          obtain ⟨X4, hX0⟩ : ∃ X, X = Sort.grow (redrawn wr dq) osq := ⟨_, rfl⟩
          have HX4 : Hid (J pre X4 ∧ Chg F W X4) := keepH (by rw [hX0]; exact ⟨HJ.out _ _ _ none Hwr.out.1 (grown_none (below_regrown wr dq osq)) (fun r e => by cases e), Hwr.out.2.trans (below_chgE (below_regrown wr dq osq)) (fun _ _ x => x) (fun _ _ x => x.elim)⟩)
          rw [← hX0]
          clear hX0
          obtain ⟨_, c0, c1⟩ := HA.out i ka xa HLA.out
          obtain ⟨_, d0, d1, d2, d3, d4⟩ := HB.out k _ HLB.out
          have k0 := cell_regrown (cell_chg HX4.out.2 c0 (HA.out i ka xa HLA.out).1)
          have k1 := cell_regrown (cell_chg HX4.out.2 c1 (HA.out i ka xa HLA.out).1)
          have k2 := cell_regrown (cell_chg HX4.out.2 d0 (HB.out k _ HLB.out).1)
          have k3 := cell_regrown (cell_chg HX4.out.2 d1 (HB.out k _ HLB.out).1)
          have k6 := cell_regrown (cell_chg HX4.out.2 d2 (HB.out k _ HLB.out).1)
          have k7 := cell_regrown (cell_chg HX4.out.2 d3 (HB.out k _ HLB.out).1)
          have k8 := cell_regrown (cell_chg HX4.out.2 d4 (HB.out k _ HLB.out).1)
          have k4 := cell_regrown (cell_chg HX4.out.2 H34.out.1.1 H34.out.1.2)
          have k5 := cell_regrown (cell_chg HX4.out.2 H34.out.2.1 H34.out.2.2)
          have KA := keepH (fun dd os => CallsIn.regrown_of (F := Fence.wide) (r := n - 1) (w := X4) (d := dd) (os := os) (callsIn_wide.2 (key_p ka xa _)))
          have KB := keepH (fun dd os => CallsIn.regrown_of (F := Fence.wide) (r := n - 1) (w := X4) (d := dd) (os := os) (callsIn_wide.2 (key_c kb hd hs od nw _)))
          clear c0 c1 d0 d1 d2 d3 d4
          gi_wp2
          refine wpIn_region_quiet_below rfl (by kernel_rfl) (by kernel_rfl) ?_
          repeat (refine wpQuietIn_step (fun _ _ _ _ => trivial) (fun K hK => ?_); go_simp; first | (refine hK _ ?_; clear hK K) | (apply Exists.intro; refine ⟨fun _ => ?_, hK _ ?_⟩; (first | exact ⟨hn1, KA.out _ _⟩ | exact ⟨hn1, KB.out _ _⟩ | exact KA.out _ _ | exact KB.out _ _); clear hK K))
          refine wpQuietIn_nil ?_
          intro _ hw'
          obtain ⟨⟨dq, osq⟩, hw''⟩ := hw'
          subst hw''
          clear k0 k1 k2 k3 k4 k5 k6 k7 k8 KA KB
          obtain ⟨X5, hX0⟩ : ∃ X, X = Sort.grow (redrawn X4 dq) osq := ⟨_, rfl⟩
          have HX5 : Hid (J pre X5 ∧ Chg F W X5) := keepH (by rw [hX0]; exact ⟨HJ.out _ _ _ none HX4.out.1 (grown_none (below_regrown X4 dq osq)) (fun r e => by cases e), HX4.out.2.trans (below_chgE (below_regrown X4 dq osq)) (fun _ _ x => x) (fun _ _ x => x.elim)⟩)
          rw [← hX0]
          clear hX0
          gi_wp2
          refine wpIn_region_quiet_below rfl (by kernel_rfl) (by kernel_rfl) ?_
          repeat (refine wpQuietIn_step (fun _ _ _ _ => trivial) (fun K hK => ?_); go_simp; first | (refine hK _ ?_; clear hK K) | (apply Exists.intro; refine ⟨fun _ => ?_, hK _ ?_⟩; (first | exact ⟨hn1, KA.out _ _⟩ | exact ⟨hn1, KB.out _ _⟩ | exact KA.out _ _ | exact KB.out _ _); clear hK K))
          refine wpQuietIn_nil ?_
          intro _ hw'
          obtain ⟨⟨dq, osq⟩, hw''⟩ := hw'
          subst hw''
          obtain ⟨X7, hX0⟩ : ∃ X, X = Sort.grow (redrawn X5 dq) osq := ⟨_, rfl⟩
          have HX7 : Hid (J pre X7 ∧ Chg F W X7) := keepH (by rw [hX0]; exact ⟨HJ.out _ _ _ none HX5.out.1 (grown_none (below_regrown X5 dq osq)) (fun r e => by cases e), HX5.out.2.trans (below_chgE (below_regrown X5 dq osq)) (fun _ _ x => x) (fun _ _ x => x.elim)⟩)
          rw [← hX0]
          clear hX0
          gi_wp2
          refine wpIn_region_quiet_below rfl (by kernel_rfl) (by kernel_rfl) ?_
          repeat (refine wpQuietIn_step (fun _ _ _ _ => trivial) (fun K hK => ?_); go_simp; first | (refine hK _ ?_; clear hK K) | (apply Exists.intro; refine ⟨fun _ => ?_, hK _ ?_⟩; (first | exact ⟨hn1, KA.out _ _⟩ | exact ⟨hn1, KB.out _ _⟩ | exact KA.out _ _ | exact KB.out _ _); clear hK K))
          refine wpQuietIn_nil ?_
          intro _ hw'
          obtain ⟨⟨dq, osq⟩, hw''⟩ := hw'
          subst hw''
          obtain ⟨X9, hX0⟩ : ∃ X, X = Sort.grow (redrawn X7 dq) osq := ⟨_, rfl⟩
          have HX9 : Hid (J pre X9 ∧ Chg F W X9) := keepH (by rw [hX0]; exact ⟨HJ.out _ _ _ none HX7.out.1 (grown_none (below_regrown X7 dq osq)) (fun r e => by cases e), HX7.out.2.trans (below_chgE (below_regrown X7 dq osq)) (fun _ _ x => x) (fun _ _ x => x.elim)⟩)
          rw [← hX0]
          clear hX0
          obtain ⟨fn, tmps, assign, body, hy, hR⟩ := HY.out pre (ixAB la.length lb.length i k hi hk) X9 HX9.out.1 (by have := HX.out.2.2.1; omega)
          dsimp only [ixAB, ptP, Option.map] at hy
          gi_wp2
          refine hR.mono ?_
          rintro e W3 (⟨rfl, hJ3, hk3⟩ | ⟨rfl, hJx3⟩)
          · have HR3 : Hid (J (pre ++ [ixAB la.length lb.length i k hi hk]) W3 ∧ Chg F W W3) := keepH ⟨hJ3, HX9.out.2.trans hk3 (fun _ _ x => x) (fun _ _ x => x)⟩
            clear hJ3 hk3
            gi_wp2
            go_roundw
            case rel => exact ⟨i + 1, k + 1, m, r, (ca' - 1), (cb' - 1), (some ad), (some bd), pre ++ [ixAB la.length lb.length i k hi hk], rfl, rfl, ⟨by omega, by omega, by omega, by omega, by omega, by omega⟩, keepH ⟨fun h => by rw [HAD.out h]; first | (simp; done) | (simp; omega), fun h => by rw [HBD.out h]; first | (simp; done) | (simp; omega), by have := HX.out.2.2.1; simp; omega, by rw [← HX.out.2.2.2.1, drop_of HLA.out, drop_of HLB.out, mrg_eq _ HT.out]; simp [ixAB, valX, HLA.out, HLB.out], HR3.out⟩⟩
            case measure => first | (simp [lenV]; done) | (simp [lenV]; omega)
          · gi_wp2
            refine bodyPost_ret (results_none rfl _ _ _) rfl ?_
            exact ⟨⟨_, rfl⟩, .inr ⟨pre ++ [ixAB la.length lb.length i k hi hk], ⟨mrg (fun y : Ch => y.k) (la.drop (i + 1)) (lb.drop (k + 1)), by rw [← HX.out.2.2.2.1, drop_of HLA.out, drop_of HLB.out, mrg_eq _ HT.out]; simp [ixAB, valX, HLA.out, HLB.out]⟩, hJx3⟩⟩
        · have t1 : decide ((ka : Int) ≤ (kb : Int)) = false := decide_eq_false (by omega)
          have t2 : decide ((kb : Int) ≤ (ka : Int)) = true := decide_eq_true (by omega)
          have t3 : ¬ (ka : Int) ≤ (kb : Int) := by omega
          have t4 : (kb : Int) ≤ (ka : Int) := by omega
          have HT := keepH t
          clear t
          obtain ⟨_, c0, c1⟩ := HA.out i ka xa HLA.out
          obtain ⟨_, d0, d1, d2, d3, d4⟩ := HB.out k _ HLB.out
          have k0 := cell_regrown (cell_chg Hwr.out.2 c0 (HA.out i ka xa HLA.out).1)
          have k1 := cell_regrown (cell_chg Hwr.out.2 c1 (HA.out i ka xa HLA.out).1)
          have k2 := cell_regrown (cell_chg Hwr.out.2 d0 (HB.out k _ HLB.out).1)
          have k3 := cell_regrown (cell_chg Hwr.out.2 d1 (HB.out k _ HLB.out).1)
          have k6 := cell_regrown (cell_chg Hwr.out.2 d2 (HB.out k _ HLB.out).1)
          have k7 := cell_regrown (cell_chg Hwr.out.2 d3 (HB.out k _ HLB.out).1)
          have k8 := cell_regrown (cell_chg Hwr.out.2 d4 (HB.out k _ HLB.out).1)
          have k4 := cell_regrown (cell_chg Hwr.out.2 H34.out.1.1 H34.out.1.2)
          have k5 := cell_regrown (cell_chg Hwr.out.2 H34.out.2.1 H34.out.2.2)
          have KA := keepH (fun dd os => CallsIn.regrown_of (F := Fence.wide) (r := n - 1) (w := wr) (d := dd) (os := os) (callsIn_wide.2 (key_p ka xa _)))
          have KB := keepH (fun dd os => CallsIn.regrown_of (F := Fence.wide) (r := n - 1) (w := wr) (d := dd) (os := os) (callsIn_wide.2 (key_c kb hd hs od nw _)))
          clear c0 c1 d0 d1 d2 d3 d4
          gi_wp2
          refine wpIn_region_quiet_below rfl (by kernel_rfl) (by kernel_rfl) ?_
          repeat (refine wpQuietIn_step (fun _ _ _ _ => trivial) (fun K hK => ?_); go_simp; first | (refine hK _ ?_; clear hK K) | (apply Exists.intro; refine ⟨fun _ => ?_, hK _ ?_⟩; (first | exact ⟨hn1, KA.out _ _⟩ | exact ⟨hn1, KB.out _ _⟩ | exact KA.out _ _ | exact KB.out _ _); clear hK K))
          refine wpQuietIn_nil ?_
          intro _ hw'
          obtain ⟨⟨dq, osq⟩, hw''⟩ := hw'
          subst hw''
          clear k0 k1 k2 k3 k4 k5 k6 k7 k8 KA KB
          obtain ⟨X4, hX0⟩ : ∃ X, X = Sort.grow (redrawn wr dq) osq := ⟨_, rfl⟩
          have HX4 : Hid (J pre X4 ∧ Chg F W X4) := keepH (by rw [hX0]; exact ⟨HJ.out _ _ _ none Hwr.out.1 (grown_none (below_regrown wr dq osq)) (fun r e => by cases e), Hwr.out.2.trans (below_chgE (below_regrown wr dq osq)) (fun _ _ x => x) (fun _ _ x => x.elim)⟩)
          rw [← hX0]
          clear hX0
          obtain ⟨_, c0, c1⟩ := HA.out i ka xa HLA.out
          obtain ⟨_, d0, d1, d2, d3, d4⟩ := HB.out k _ HLB.out
          have k0 := cell_regrown (cell_chg HX4.out.2 c0 (HA.out i ka xa HLA.out).1)
          have k1 := cell_regrown (cell_chg HX4.out.2 c1 (HA.out i ka xa HLA.out).1)
          have k2 := cell_regrown (cell_chg HX4.out.2 d0 (HB.out k _ HLB.out).1)
          have k3 := cell_regrown (cell_chg HX4.out.2 d1 (HB.out k _ HLB.out).1)
          have k6 := cell_regrown (cell_chg HX4.out.2 d2 (HB.out k _ HLB.out).1)
          have k7 := cell_regrown (cell_chg HX4.out.2 d3 (HB.out k _ HLB.out).1)
          have k8 := cell_regrown (cell_chg HX4.out.2 d4 (HB.out k _ HLB.out).1)
          have k4 := cell_regrown (cell_chg HX4.out.2 H34.out.1.1 H34.out.1.2)
          have k5 := cell_regrown (cell_chg HX4.out.2 H34.out.2.1 H34.out.2.2)
          have KA := keepH (fun dd os => CallsIn.regrown_of (F := Fence.wide) (r := n - 1) (w := X4) (d := dd) (os := os) (callsIn_wide.2 (key_p ka xa _)))
          have KB := keepH (fun dd os => CallsIn.regrown_of (F := Fence.wide) (r := n - 1) (w := X4) (d := dd) (os := os) (callsIn_wide.2 (key_c kb hd hs od nw _)))
          clear c0 c1 d0 d1 d2 d3 d4
          gi_wp2
          refine wpIn_region_quiet_below rfl (by kernel_rfl) (by kernel_rfl) ?_
          repeat (refine wpQuietIn_step (fun _ _ _ _ => trivial) (fun K hK => ?_); go_simp; first | (refine hK _ ?_; clear hK K) | (apply Exists.intro; refine ⟨fun _ => ?_, hK _ ?_⟩; (first | exact ⟨hn1, KA.out _ _⟩ | exact ⟨hn1, KB.out _ _⟩ | exact KA.out _ _ | exact KB.out _ _); clear hK K))
          refine wpQuietIn_nil ?_
          intro _ hw'
          obtain ⟨⟨dq, osq⟩, hw''⟩ := hw'
          subst hw''
          clear k0 k1 k2 k3 k4 k5 k6 k7 k8 KA KB
          obtain ⟨X5, hX0⟩ : ∃ X, X = Sort.grow (redrawn X4 dq) osq := ⟨_, rfl⟩
          have HX5 : Hid (J pre X5 ∧ Chg F W X5) := keepH (by rw [hX0]; exact ⟨HJ.out _ _ _ none HX4.out.1 (grown_none (below_regrown X4 dq osq)) (fun r e => by cases e), HX4.out.2.trans (below_chgE (below_regrown X4 dq osq)) (fun _ _ x => x) (fun _ _ x => x.elim)⟩)
          rw [← hX0]
          clear hX0
          gi_wp2
          refine wpIn_region_quiet_below rfl (by kernel_rfl) (by kernel_rfl) ?_
          repeat (refine wpQuietIn_step (fun _ _ _ _ => trivial) (fun K hK => ?_); go_simp; first | (refine hK _ ?_; clear hK K) | (apply Exists.intro; refine ⟨fun _ => ?_, hK _ ?_⟩; (first | exact ⟨hn1, KA.out _ _⟩ | exact ⟨hn1, KB.out _ _⟩ | exact KA.out _ _ | exact KB.out _ _); clear hK K))
          refine wpQuietIn_nil ?_
          intro _ hw'
          obtain ⟨⟨dq, osq⟩, hw''⟩ := hw'
          subst hw''
          obtain ⟨X9, hX0⟩ : ∃ X, X = Sort.grow (redrawn X5 dq) osq := ⟨_, rfl⟩
          have HX9 : Hid (J pre X9 ∧ Chg F W X9) := keepH (by rw [hX0]; exact ⟨HJ.out _ _ _ none HX5.out.1 (grown_none (below_regrown X5 dq osq)) (fun r e => by cases e), HX5.out.2.trans (below_chgE (below_regrown X5 dq osq)) (fun _ _ x => x) (fun _ _ x => x.elim)⟩)
          rw [← hX0]
          clear hX0
          obtain ⟨fn, tmps, assign, body, hy, hR⟩ := HY.out pre (ixB la.length lb.length k hk) X9 HX9.out.1 (by have := HX.out.2.2.1; omega)
          dsimp only [ixB, ptP, Option.map] at hy
          gi_wp2
          refine hR.mono ?_
          rintro e W3 (⟨rfl, hJ3, hk3⟩ | ⟨rfl, hJx3⟩)
          · have HR3 : Hid (J (pre ++ [ixB la.length lb.length k hk]) W3 ∧ Chg F W W3) := keepH ⟨hJ3, HX9.out.2.trans hk3 (fun _ _ x => x) (fun _ _ x => x)⟩
            clear hJ3 hk3
            gi_wp2
            go_roundw
            case rel => exact ⟨i, k + 1, (m + 1), r, ca', (cb' - 1), (some ⟨bka, offa + i * 2, none⟩), (some bd), pre ++ [ixB la.length lb.length k hk], rfl, rfl, ⟨by omega, by omega, by omega, by omega, by omega, by omega⟩, keepH ⟨fun _ => rfl, fun h => by rw [HBD.out h]; first | (simp; done) | (simp; omega), by have := HX.out.2.2.1; simp; omega, by rw [← HX.out.2.2.2.1, drop_of HLA.out, drop_of HLB.out, mrg_gt _ HT.out]; simp [ixB, valX, HLB.out], HR3.out⟩⟩
            case measure => first | (simp [lenV]; done) | (simp [lenV]; omega)
          · gi_wp2
            refine bodyPost_ret (results_none rfl _ _ _) rfl ?_
            exact ⟨⟨_, rfl⟩, .inr ⟨pre ++ [ixB la.length lb.length k hk], ⟨mrg (fun y : Ch => y.k) (la.drop (i)) (lb.drop (k + 1)), by rw [← HX.out.2.2.2.1, drop_of HLA.out, drop_of HLB.out, mrg_gt _ HT.out]; simp [ixB, valX, HLB.out]⟩, hJx3⟩⟩

end Go.Proofs.Ytbmfjcdafjknaab
