/- The iterator of a text's lines. -/
import Derived.RangeFuncNested
import Derived.RangeFuncBox
import Derived.RangeFuncBound
import Derived.RangeFuncCalls
import Derived.RangeFuncLeaves
import Derived.Shelf.Abstract
import Derived.Shelf.AbstractIn
import Derived.WalkKit
import Derived.OwnWalkIn
import Derived.TacticsInMore
import Derived.RegionIn
import Derived.LoopNIn
import Derived.LoopIn
import Derived.Lib.QuietBelowIn
import Derived.Test.YtfohpbpekdcneaaDoorHth
namespace Go.Proofs.YtfohpbpekdcneaaDoor
open Go.RowKit Go.Shelf
set_option linter.unusedVariables false
attribute [local go_sem] Oper.semAt_some

theorem grown_none {A C : World} (h : Below A.heap.size A C) : A.grownBy C none := ⟨h.os, h.tape, h.output, h.size, fun k hk _ => h.block k hk⟩
def strLen : Value → Nat
  | .string s => s.size
  | _ => 0

theorem cut_h (r p q : List UInt8) (e : r = p ++ q) (w : World) : (Instr.slice 9 (.string (mkS r)) none (some (.int .i64 (p.length : Int))) none).run Tryd.prog w = .ok (.string (mkS p)) w := by
  have hs := mkS_size r
  have hl : r.length = p.length + q.length := by rw [e]; simp
  rw [run_slice_string_h w 9 (mkS r) Tryd.underlying9 .i64 _ (by omega) (by omega), mkS_extract]
  congr 3
  rw [e]
  simp
theorem cut_l (r p q : List UInt8) (e : r = p ++ q) (w : World) : (Instr.slice 9 (.string (mkS r)) (some (.int .i64 (p.length : Int))) none none).run Tryd.prog w = .ok (.string (mkS q)) w := by
  have hs := mkS_size r
  have hl : r.length = p.length + q.length := by rw [e]; simp
  rw [run_slice_string_l w 9 (mkS r) Tryd.underlying9 .i64 _ (by omega) (by omega), mkS_extract, mkS_size]
  congr 3
  rw [e]
  simp
set_option maxRecDepth 100000 in
set_option maxHeartbeats 4000000 in
theorem read_in (n l Bs : Nat) (t : List UInt8) (ht : t.length ≤ 200000000) (F : Nat → Prop) (J Jx : List (Sp × Bool) → World → Prop) (hn : 3 ≤ n)
    (hY : ∀ pre x W, J pre W → pre.length < t.length → YieldAt Fence.wide (n - 1) Tryd.prog l #[.agg #[.int .i64 x.1.th, .int .i64 x.1.ix, .int .i64 x.1.fr, .int .i64 x.1.to], .bool x.2] W fun e W' =>
      (e = .returned (.bool true) ∧ J (pre ++ [x]) W' ∧ Chg F W W') ∨ (e = .returned (.bool false) ∧ Jx (pre ++ [x]) W'))
    (W : World) (hJ : AbidesFrom W.heap.size J) (h1 : W.cell? ⟨Bs, 0, none⟩ = some (.string (mkS t))) (hT : ∀ w', Chg F W w' → Tb w') (h0 : J [] W) :
    CallsIn Fence.wide n Tryd.prog 32 #[.func (.yield l) #[] #[], .pointer (some ⟨Bs, 0, none⟩)] W fun e W' => (∃ v, e = .returned v) ∧
      ((∃ xs : List (Sp × Bool), RdP xs t [] ∧ J xs W') ∨ (∃ pre : List (Sp × Bool), RdX pre t ∧ Jx pre W')) := by
  have hn1 : 1 ≤ n := by omega
  have hn2 : 1 ≤ n - 1 := by omega
  have HJ := keepH hJ
  have HY := keepH hY
  have HT := keepH hT
  have H0 := keepH h0
  clear hJ hY hT h0
  refine callsIn_of_wp Tryd.func32 rfl trivial ?_ rfl
  simp only [Tryd.ntmps32, List.size_toArray, List.length_cons, List.length_nil, Nat.reduceAdd, Nat.reduceSub, Array.replicate_succ, Array.replicate_zero, List.push_toArray, List.append_toArray, List.nil_append, List.cons_append]
  gi_wp2
  gi_loopw [3] (fun s3 wr => ∃ (r : List UInt8) (pre : List (Sp × Bool)), s3 = .string (mkS r) ∧ r.length ≤ t.length ∧ Hid (RdP pre t r ∧ J pre wr ∧ Chg F W wr)) (fun s3 _ => strLen s3)
  case atStart => exact ⟨t, [], rfl, Nat.le_refl _, keepH ⟨rfl, H0.out, Chg.refl _ _⟩⟩
  case round =>
    obtain ⟨r, pre, rfl, hrl, HX⟩ := hrel
    by_cases hr : r = []
    · subst hr
      gi_wp2
      go_end0
      exact ⟨⟨_, rfl⟩, .inl ⟨pre, HX.out.1, HX.out.2.1⟩⟩
    · obtain ⟨p, r', hp, hpl, hpn⟩ := piece_of r hr
      -- ROUND
      obtain ⟨x, hx⟩ : ∃ x, x = Lib.indexByte r 10 := ⟨_, rfl⟩
      obtain ⟨m, hm⟩ : ∃ m, m = p.length := ⟨_, rfl⟩
      obtain ⟨s, hs⟩ : ∃ s, s = mkS r := ⟨_, rfl⟩
      obtain ⟨sp, hsp⟩ : ∃ s, s = mkS p := ⟨_, rfl⟩
      obtain ⟨sr, hsr⟩ : ∃ s, s = mkS r' := ⟨_, rfl⟩
      have hsz : s.size = r.length := by rw [hs, mkS_size]
      have hib := ib_any r
      rw [← hs, ← hx] at hib
      have hrp : r.length = p.length + r'.length := by rw [hp.1]; simp
      have hspan := span_any p (by omega) wr (HT.out wr HX.out.2.2)
      rw [← hsp] at hspan
      have c2' : (s.toList == []) = false := by rw [hs, mkS_toList]; simpa using hr
      have HSZ : Hid (s.size = r.length ∧ r.length = p.length + r'.length) := keepH ⟨hsz, hrp⟩
      have HML := keepH hm
      have HS := keepH hs
      have HSP := keepH hsp
      have HSR := keepH hsr
      have HPP := keepH hp
      have hm1 : 1 ≤ m := by rw [hm]; exact piece_ne hp
      have hm2 : m ≤ 200000000 := by omega
      have hxb : -1 ≤ x := by rw [hx]; exact Lib.indexByte_ge _ _
      rw [← hx, ← hm] at hpl
      rw [← hs]
      clear hs hsp hsr hsz hrp hm hx hp hpn hr
      by_cases hx0 : x + 1 = 0
      · rw [if_pos hx0] at hpl
        have hsm : s.size = m := by have := HSZ.out; omega
        obtain rfl : x = -1 := by omega
        have hsl1 : ∀ w, (Instr.slice 9 (.string s) none (some (.int .i64 (s.size : Int))) none).run Tryd.prog w = .ok (.string sp) w := fun w => by
          have hc := cut_h r p r' HPP.out.1 w
          rw [← HS.out, ← HSP.out, ← HML.out] at hc
          rw [hsm]; exact hc
        have hsl2 : ∀ w, (Instr.slice 9 (.string s) (some (.int .i64 (s.size : Int))) none none).run Tryd.prog w = .ok (.string sr) w := fun w => by
          have hc := cut_l r p r' HPP.out.1 w
          rw [← HS.out, ← HSR.out, ← HML.out] at hc
          rw [hsm]; exact hc
        have HX0 := keepH hx0
        clear hpl hx0 hxb hm1 hm2 hsm
        gi_wp2_with (first | (refine ⟨trivial, ?_⟩; gi_at_call 33; refine (callsIn_wide.2 (hib _)).mono ?_; rintro e W0 ⟨rfl, rfl⟩) | (refine ⟨trivial, ?_⟩; gi_at_call 34; refine (callsIn_wide.2 hspan).mono ?_; rintro e W1 ⟨⟨y, b, rfl, hy⟩, C1⟩; have HYR := keepH hy; clear hy))
        obtain ⟨X, hX⟩ : ∃ X, X = W1.alloc (.cells #[.int .i64 y.th, .int .i64 y.ix, .int .i64 y.fr, .int .i64 y.to] 38) := ⟨_, rfl⟩
        have CX : Below W0.heap.size W0 X := by rw [hX]; exact below_chain C1 (below_alloc _ _)
        have HXX : Hid (J pre X ∧ Chg F W X) := keepH ⟨HJ.out _ _ _ none HX.out.2.1 (grown_none CX) (fun r e => by cases e), HX.out.2.2.trans (belowC CX) (fun _ _ x => x) (fun _ _ x => x.elim)⟩
        rw [← hX]
        clear hX C1 CX hspan hib
        obtain ⟨fn, tmps, assign, body, hy2, hR⟩ := HY.out pre (y, b) X HXX.out.1 (by have := HX.out.1.len; have := piece_ne HPP.out; have := HSZ.out; omega)
        dsimp only at hy2
        rw [hy2]
        gi_wp2
        refine hR.mono ?_
        rintro e W3 (⟨rfl, hJ3, hk3⟩ | ⟨rfl, hJx3⟩)
        · have HR3 : Hid (J (pre ++ [(y, b)]) W3 ∧ Chg F W W3) := keepH ⟨hJ3, HXX.out.2.trans hk3 (fun _ _ x => x) (fun _ _ x => x)⟩
          clear hJ3 hk3
          gi_wp2
          go_roundw
          case rel => exact ⟨r', pre ++ [(y, b)], by rw [HSR.out], by have := HSZ.out; omega, keepH ⟨HX.out.1.snoc HPP.out HYR.out, HR3.out⟩⟩
          case measure =>
            simp only [strLen]
            have := HSZ.out
            have := piece_ne HPP.out
            have : sr.size = r'.length := by rw [HSR.out, mkS_size]
            omega
        · gi_wp2
          refine bodyPost_ret (results_none rfl _ _ _) rfl ?_
          exact ⟨⟨_, rfl⟩, .inr ⟨pre ++ [(y, b)], ⟨r', HX.out.1.snoc HPP.out HYR.out⟩, hJx3⟩⟩
      · rw [if_neg hx0] at hpl
        have q3 : IntKind.i64.wrap (x + 1) = (m : Int) := by rw [IntKind.wrap_i64]; omega
        have q4 : ((m : Int) == 0) = false := by simp; omega
        have hsl1 : ∀ w, (Instr.slice 9 (.string s) none (some (.int .i64 (m : Int))) none).run Tryd.prog w = .ok (.string sp) w := fun w => by
          have hc := cut_h r p r' HPP.out.1 w
          rw [← HS.out, ← HSP.out, ← HML.out] at hc
          exact hc
        have hsl2 : ∀ w, (Instr.slice 9 (.string s) (some (.int .i64 (m : Int))) none none).run Tryd.prog w = .ok (.string sr) w := fun w => by
          have hc := cut_l r p r' HPP.out.1 w
          rw [← HS.out, ← HSR.out, ← HML.out] at hc
          exact hc
        have HX0 := keepH hx0
        clear hpl hx0 hxb hm1 hm2 
        gi_wp2_with (first | (refine ⟨trivial, ?_⟩; gi_at_call 33; refine (callsIn_wide.2 (hib _)).mono ?_; rintro e W0 ⟨rfl, rfl⟩) | (refine ⟨trivial, ?_⟩; gi_at_call 34; refine (callsIn_wide.2 hspan).mono ?_; rintro e W1 ⟨⟨y, b, rfl, hy⟩, C1⟩; have HYR := keepH hy; clear hy))
        obtain ⟨X, hX⟩ : ∃ X, X = W1.alloc (.cells #[.int .i64 y.th, .int .i64 y.ix, .int .i64 y.fr, .int .i64 y.to] 38) := ⟨_, rfl⟩
        have CX : Below W0.heap.size W0 X := by rw [hX]; exact below_chain C1 (below_alloc _ _)
        have HXX : Hid (J pre X ∧ Chg F W X) := keepH ⟨HJ.out _ _ _ none HX.out.2.1 (grown_none CX) (fun r e => by cases e), HX.out.2.2.trans (belowC CX) (fun _ _ x => x) (fun _ _ x => x.elim)⟩
        rw [← hX]
        clear hX C1 CX hspan hib
        obtain ⟨fn, tmps, assign, body, hy2, hR⟩ := HY.out pre (y, b) X HXX.out.1 (by have := HX.out.1.len; have := piece_ne HPP.out; have := HSZ.out; omega)
        dsimp only at hy2
        rw [hy2]
        gi_wp2
        refine hR.mono ?_
        rintro e W3 (⟨rfl, hJ3, hk3⟩ | ⟨rfl, hJx3⟩)
        · have HR3 : Hid (J (pre ++ [(y, b)]) W3 ∧ Chg F W W3) := keepH ⟨hJ3, HXX.out.2.trans hk3 (fun _ _ x => x) (fun _ _ x => x)⟩
          clear hJ3 hk3
          gi_wp2
          go_roundw
          case rel => exact ⟨r', pre ++ [(y, b)], by rw [HSR.out], by have := HSZ.out; omega, keepH ⟨HX.out.1.snoc HPP.out HYR.out, HR3.out⟩⟩
          case measure =>
            simp only [strLen]
            have := HSZ.out
            have := piece_ne HPP.out
            have : sr.size = r'.length := by rw [HSR.out, mkS_size]
            omega
        · gi_wp2
          refine bodyPost_ret (results_none rfl _ _ _) rfl ?_
          exact ⟨⟨_, rfl⟩, .inr ⟨pre ++ [(y, b)], ⟨r', HX.out.1.snoc HPP.out HYR.out⟩, hJx3⟩⟩
end Go.Proofs.YtfohpbpekdcneaaDoor
