/- What comes in: a result. -/
import Derived.Lib.SmallJoins
import Derived.Deep.Slices
import Derived.Carry
import Derived.OpenShut
import Derived.SizedLaws
import Derived.Test.YtmjjaadliebgoaaOf
namespace Go.Proofs.Ytmjjaadliebgoaa
open Go.RowKit Go.Joins Go.ChangeShapes Go.WideShapes Go.Deep
set_option linter.unusedVariables false

theorem cut_next {cs f : List Value} {o s : Nat} (h : (cs.drop o).take s = f) : cs.drop o = f ++ cs.drop (o + s) := by
  rw [← h, ← List.drop_drop, List.take_append_drop]
theorem slice_one {H : Type} {enc : TypeId × Value → H} {W : World} {sp : Nat → Bool} {held : Bool} {fuel : Nat} {cs : List Value} {x : DataW H × List MemPlace} {T E : TypeId} (hT : Try.prog.underlying T = some (.slice E)) (hf : DataW.trod enc Try.prog W 0 sp held fuel T cs = some x) : ∃ p n c, cs = [.slice p n c] := by
  rcases open_slice hT hf with ⟨hcs, _⟩ | ⟨a, len, cap, m, k, D, Pl, hcs, _⟩
  · exact ⟨_, _, _, hcs⟩
  · exact ⟨_, _, _, hcs⟩
theorem co_3 : Try.prog.cellsOf 3 = 1 := by kernel_rfl
theorem co_4 : Try.prog.cellsOf 4 = 1 := by kernel_rfl
theorem co_32 : Try.prog.cellsOf 32 = 1 := by kernel_rfl
theorem co_36 : Try.prog.cellsOf 36 = 1 := by kernel_rfl
theorem co_41 : Try.prog.cellsOf 41 = 1 := by kernel_rfl
theorem co_42 : Try.prog.cellsOf 42 = 1 := by kernel_rfl
theorem co_44 : Try.prog.cellsOf 44 = 8 := by kernel_rfl
theorem co_48 : Try.prog.cellsOf 48 = 4 := by kernel_rfl
theorem co_50 : Try.prog.cellsOf 50 = 3 := by kernel_rfl
theorem co_52 : Try.prog.cellsOf 52 = 11 := by kernel_rfl
theorem co_53 : Try.prog.cellsOf 53 = 1 := by kernel_rfl
theorem co_54 : Try.prog.cellsOf 54 = 1 := by kernel_rfl
theorem co_56 : Try.prog.cellsOf 56 = 7 := by kernel_rfl
theorem co_58 : Try.prog.cellsOf 58 = 22 := by kernel_rfl
theorem open_48 {H : Type} {enc : TypeId × Value → H} {W : World} {sp : Nat → Bool} {held : Bool} {fuel : Nat} {cs : List Value} {x : DataW H × List MemPlace} (hf : DataW.trod enc Try.prog W 0 sp held fuel 48 cs = some x) : ∃ (th : Int) (ix : Int) (fr : Int) (tz : Int), cs = [.int .i64 th, .int .i64 ix, .int .i64 fr, .int .i64 tz] ∧ (Lit.int .i64 tz).wf = true ∧ (Lit.int .i64 th).wf = true := by
  obtain ⟨xs, n, hn, hx, hl, hlen, hh⟩ := DataW.trod_struct Try.underlying48 hf
  rw [co_48] at hl
  have h0 := (hh 0 _ rfl).trans (List.getElem?_eq_getElem (show 0 < xs.length by rw [hlen]; decide))
  obtain ⟨th, e0, _, w_th⟩ := DataW.trod_int Try.underlying3 h0
  have r0 : (cs.drop 0).take (Try.prog.cellsOf 3) = _ := e0
  rw [co_3] at r0
  have s0 : cs.drop 0 = _ ++ cs.drop 1 := cut_next r0
  have h1 := (hh 1 _ rfl).trans (List.getElem?_eq_getElem (show 1 < xs.length by rw [hlen]; decide))
  obtain ⟨ix, e1, _, w_ix⟩ := DataW.trod_int Try.underlying3 h1
  have r1 : (cs.drop 1).take (Try.prog.cellsOf 3) = _ := e1
  rw [co_3] at r1
  have s1 : cs.drop 1 = _ ++ cs.drop 2 := cut_next r1
  have h2 := (hh 2 _ rfl).trans (List.getElem?_eq_getElem (show 2 < xs.length by rw [hlen]; decide))
  obtain ⟨fr, e2, _, w_fr⟩ := DataW.trod_int Try.underlying3 h2
  have r2 : (cs.drop 2).take (Try.prog.cellsOf 3) = _ := e2
  rw [co_3] at r2
  have s2 : cs.drop 2 = _ ++ cs.drop 3 := cut_next r2
  have h3 := (hh 3 _ rfl).trans (List.getElem?_eq_getElem (show 3 < xs.length by rw [hlen]; decide))
  obtain ⟨tz, e3, _, w_tz⟩ := DataW.trod_int Try.underlying3 h3
  have r3 : (cs.drop 3).take (Try.prog.cellsOf 3) = _ := e3
  rw [co_3] at r3
  have s3 : cs.drop 3 = _ ++ cs.drop 4 := cut_next r3
  have z : cs.drop 4 = [] := List.drop_eq_nil_of_le (by omega)
  rw [z] at s3
  rw [s3] at s2
  rw [s2] at s1
  rw [s1] at s0
  exact ⟨th, ix, fr, tz, (List.drop_zero (l := cs)).symm.trans s0, w_tz, w_th⟩
theorem open_50 {H : Type} {enc : TypeId × Value → H} {W : World} {sp : Nat → Bool} {held : Bool} {fuel : Nat} {cs : List Value} {x : DataW H × List MemPlace} (hf : DataW.trod enc Try.prog W 0 sp held fuel 50 cs = some x) : ∃ (se : Bool) (rt : Int) (ri : Int), cs = [.bool se, .int .i64 rt, .int .i64 ri] := by
  obtain ⟨xs, n, hn, hx, hl, hlen, hh⟩ := DataW.trod_struct Try.underlying50 hf
  rw [co_50] at hl
  have h0 := (hh 0 _ rfl).trans (List.getElem?_eq_getElem (show 0 < xs.length by rw [hlen]; decide))
  obtain ⟨se, e0, _⟩ := DataW.trod_bool Try.underlying4 h0
  have r0 : (cs.drop 0).take (Try.prog.cellsOf 4) = _ := e0
  rw [co_4] at r0
  have s0 : cs.drop 0 = _ ++ cs.drop 1 := cut_next r0
  have h1 := (hh 1 _ rfl).trans (List.getElem?_eq_getElem (show 1 < xs.length by rw [hlen]; decide))
  obtain ⟨rt, e1, _, w_rt⟩ := DataW.trod_int Try.underlying3 h1
  have r1 : (cs.drop 1).take (Try.prog.cellsOf 3) = _ := e1
  rw [co_3] at r1
  have s1 : cs.drop 1 = _ ++ cs.drop 2 := cut_next r1
  have h2 := (hh 2 _ rfl).trans (List.getElem?_eq_getElem (show 2 < xs.length by rw [hlen]; decide))
  obtain ⟨ri, e2, _, w_ri⟩ := DataW.trod_int Try.underlying3 h2
  have r2 : (cs.drop 2).take (Try.prog.cellsOf 3) = _ := e2
  rw [co_3] at r2
  have s2 : cs.drop 2 = _ ++ cs.drop 3 := cut_next r2
  have z : cs.drop 3 = [] := List.drop_eq_nil_of_le (by omega)
  rw [z] at s2
  rw [s2] at s1
  rw [s1] at s0
  exact ⟨se, rt, ri, (List.drop_zero (l := cs)).symm.trans s0⟩
theorem open_52 {H : Type} {enc : TypeId × Value → H} {W : World} {sp : Nat → Bool} {held : Bool} {fuel : Nat} {cs : List Value} {x : DataW H × List MemPlace} (hf : DataW.trod enc Try.prog W 0 sp held fuel 52 cs = some x) : ∃ (kd : Int) (ke : Int) (va : Int) (ol : Int) (hn : Int) (se : Bool) (rt : Int) (ri : Int) (kp : Option Addr) (kn : Nat) (kc : Nat) (lo : Int) (hi : Int), cs = [.int .u8 kd, .int .u64 ke, .int .u64 va, .int .u64 ol, .int .u64 hn, .bool se, .int .i64 rt, .int .i64 ri, .slice kp kn kc, .int .u64 lo, .int .u64 hi] := by
  obtain ⟨xs, n, hn, hx, hl, hlen, hh⟩ := DataW.trod_struct Try.underlying52 hf
  rw [co_52] at hl
  have h0 := (hh 0 _ rfl).trans (List.getElem?_eq_getElem (show 0 < xs.length by rw [hlen]; decide))
  obtain ⟨kd, e0, _, w_kd⟩ := DataW.trod_int Try.underlying36 h0
  have r0 : (cs.drop 0).take (Try.prog.cellsOf 36) = _ := e0
  rw [co_36] at r0
  have s0 : cs.drop 0 = _ ++ cs.drop 1 := cut_next r0
  have h1 := (hh 1 _ rfl).trans (List.getElem?_eq_getElem (show 1 < xs.length by rw [hlen]; decide))
  obtain ⟨ke, e1, _, w_ke⟩ := DataW.trod_int Try.underlying32 h1
  have r1 : (cs.drop 1).take (Try.prog.cellsOf 32) = _ := e1
  rw [co_32] at r1
  have s1 : cs.drop 1 = _ ++ cs.drop 2 := cut_next r1
  have h2 := (hh 2 _ rfl).trans (List.getElem?_eq_getElem (show 2 < xs.length by rw [hlen]; decide))
  obtain ⟨va, e2, _, w_va⟩ := DataW.trod_int Try.underlying32 h2
  have r2 : (cs.drop 2).take (Try.prog.cellsOf 32) = _ := e2
  rw [co_32] at r2
  have s2 : cs.drop 2 = _ ++ cs.drop 3 := cut_next r2
  have h3 := (hh 3 _ rfl).trans (List.getElem?_eq_getElem (show 3 < xs.length by rw [hlen]; decide))
  obtain ⟨ol, e3, _, w_ol⟩ := DataW.trod_int Try.underlying32 h3
  have r3 : (cs.drop 3).take (Try.prog.cellsOf 32) = _ := e3
  rw [co_32] at r3
  have s3 : cs.drop 3 = _ ++ cs.drop 4 := cut_next r3
  have h4 := (hh 4 _ rfl).trans (List.getElem?_eq_getElem (show 4 < xs.length by rw [hlen]; decide))
  obtain ⟨hn, e4, _, w_hn⟩ := DataW.trod_int Try.underlying32 h4
  have r4 : (cs.drop 4).take (Try.prog.cellsOf 32) = _ := e4
  rw [co_32] at r4
  have s4 : cs.drop 4 = _ ++ cs.drop 5 := cut_next r4
  have h5 := (hh 5 _ rfl).trans (List.getElem?_eq_getElem (show 5 < xs.length by rw [hlen]; decide))
  obtain ⟨se, rt, ri, e5⟩ := open_50 h5
  have r5 : (cs.drop 5).take (Try.prog.cellsOf 50) = _ := e5
  rw [co_50] at r5
  have s5 : cs.drop 5 = _ ++ cs.drop 8 := cut_next r5
  have h6 := (hh 6 _ rfl).trans (List.getElem?_eq_getElem (show 6 < xs.length by rw [hlen]; decide))
  obtain ⟨kp, kn, kc, e6⟩ := slice_one Try.underlying42 h6
  have r6 : (cs.drop 8).take (Try.prog.cellsOf 42) = _ := e6
  rw [co_42] at r6
  have s6 : cs.drop 8 = _ ++ cs.drop 9 := cut_next r6
  have h7 := (hh 7 _ rfl).trans (List.getElem?_eq_getElem (show 7 < xs.length by rw [hlen]; decide))
  obtain ⟨lo, e7, _, w_lo⟩ := DataW.trod_int Try.underlying32 h7
  have r7 : (cs.drop 9).take (Try.prog.cellsOf 32) = _ := e7
  rw [co_32] at r7
  have s7 : cs.drop 9 = _ ++ cs.drop 10 := cut_next r7
  have h8 := (hh 8 _ rfl).trans (List.getElem?_eq_getElem (show 8 < xs.length by rw [hlen]; decide))
  obtain ⟨hi, e8, _, w_hi⟩ := DataW.trod_int Try.underlying32 h8
  have r8 : (cs.drop 10).take (Try.prog.cellsOf 32) = _ := e8
  rw [co_32] at r8
  have s8 : cs.drop 10 = _ ++ cs.drop 11 := cut_next r8
  have z : cs.drop 11 = [] := List.drop_eq_nil_of_le (by omega)
  rw [z] at s8
  rw [s8] at s7
  rw [s7] at s6
  rw [s6] at s5
  rw [s5] at s4
  rw [s4] at s3
  rw [s3] at s2
  rw [s2] at s1
  rw [s1] at s0
  exact ⟨kd, ke, va, ol, hn, se, rt, ri, kp, kn, kc, lo, hi, (List.drop_zero (l := cs)).symm.trans s0⟩
theorem open_56 {H : Type} {enc : TypeId × Value → H} {W : World} {sp : Nat → Bool} {held : Bool} {fuel : Nat} {cs : List Value} {x : DataW H × List MemPlace} (hf : DataW.trod enc Try.prog W 0 sp held fuel 56 cs = some x) : ∃ (er : Int) (fo : Bool) (av : Int) (dn : Bool) (ah : Int) (pp : Option Addr) (pn : Nat) (pc : Nat) (co : Int), cs = [.int .i64 er, .bool fo, .int .u64 av, .bool dn, .int .u64 ah, .slice pp pn pc, .int .u64 co] := by
  obtain ⟨xs, n, hn, hx, hl, hlen, hh⟩ := DataW.trod_struct Try.underlying56 hf
  rw [co_56] at hl
  have h0 := (hh 0 _ rfl).trans (List.getElem?_eq_getElem (show 0 < xs.length by rw [hlen]; decide))
  obtain ⟨er, e0, _, w_er⟩ := DataW.trod_int Try.underlying53 h0
  have r0 : (cs.drop 0).take (Try.prog.cellsOf 53) = _ := e0
  rw [co_53] at r0
  have s0 : cs.drop 0 = _ ++ cs.drop 1 := cut_next r0
  have h1 := (hh 1 _ rfl).trans (List.getElem?_eq_getElem (show 1 < xs.length by rw [hlen]; decide))
  obtain ⟨fo, e1, _⟩ := DataW.trod_bool Try.underlying4 h1
  have r1 : (cs.drop 1).take (Try.prog.cellsOf 4) = _ := e1
  rw [co_4] at r1
  have s1 : cs.drop 1 = _ ++ cs.drop 2 := cut_next r1
  have h2 := (hh 2 _ rfl).trans (List.getElem?_eq_getElem (show 2 < xs.length by rw [hlen]; decide))
  obtain ⟨av, e2, _, w_av⟩ := DataW.trod_int Try.underlying32 h2
  have r2 : (cs.drop 2).take (Try.prog.cellsOf 32) = _ := e2
  rw [co_32] at r2
  have s2 : cs.drop 2 = _ ++ cs.drop 3 := cut_next r2
  have h3 := (hh 3 _ rfl).trans (List.getElem?_eq_getElem (show 3 < xs.length by rw [hlen]; decide))
  obtain ⟨dn, e3, _⟩ := DataW.trod_bool Try.underlying4 h3
  have r3 : (cs.drop 3).take (Try.prog.cellsOf 4) = _ := e3
  rw [co_4] at r3
  have s3 : cs.drop 3 = _ ++ cs.drop 4 := cut_next r3
  have h4 := (hh 4 _ rfl).trans (List.getElem?_eq_getElem (show 4 < xs.length by rw [hlen]; decide))
  obtain ⟨ah, e4, _, w_ah⟩ := DataW.trod_int Try.underlying32 h4
  have r4 : (cs.drop 4).take (Try.prog.cellsOf 32) = _ := e4
  rw [co_32] at r4
  have s4 : cs.drop 4 = _ ++ cs.drop 5 := cut_next r4
  have h5 := (hh 5 _ rfl).trans (List.getElem?_eq_getElem (show 5 < xs.length by rw [hlen]; decide))
  obtain ⟨pp, pn, pc, e5⟩ := slice_one Try.underlying54 h5
  have r5 : (cs.drop 5).take (Try.prog.cellsOf 54) = _ := e5
  rw [co_54] at r5
  have s5 : cs.drop 5 = _ ++ cs.drop 6 := cut_next r5
  have h6 := (hh 6 _ rfl).trans (List.getElem?_eq_getElem (show 6 < xs.length by rw [hlen]; decide))
  obtain ⟨co, e6, _, w_co⟩ := DataW.trod_int Try.underlying32 h6
  have r6 : (cs.drop 6).take (Try.prog.cellsOf 32) = _ := e6
  rw [co_32] at r6
  have s6 : cs.drop 6 = _ ++ cs.drop 7 := cut_next r6
  have z : cs.drop 7 = [] := List.drop_eq_nil_of_le (by omega)
  rw [z] at s6
  rw [s6] at s5
  rw [s5] at s4
  rw [s4] at s3
  rw [s3] at s2
  rw [s2] at s1
  rw [s1] at s0
  exact ⟨er, fo, av, dn, ah, pp, pn, pc, co, (List.drop_zero (l := cs)).symm.trans s0⟩
theorem open_44 {H : Type} {enc : TypeId × Value → H} {W : World} {sp : Nat → Bool} {held : Bool} {fuel : Nat} {cs : List Value} {x : DataW H × List MemPlace} (hf : DataW.trod enc Try.prog W 0 sp held fuel 44 cs = some x) : ∃ (th : Int) (kd : Int) (ad : Int) (a : Int) (b : Int) (vp : Option Addr) (vn : Nat) (vc : Nat) (go : Int) (ok : Bool), cs = [.int .i64 th, .int .u8 kd, .int .u64 ad, .int .u64 a, .int .u64 b, .slice vp vn vc, .int .u64 go, .bool ok] ∧ (Lit.int .i64 th).wf = true := by
  obtain ⟨xs, n, hn, hx, hl, hlen, hh⟩ := DataW.trod_struct Try.underlying44 hf
  rw [co_44] at hl
  have h0 := (hh 0 _ rfl).trans (List.getElem?_eq_getElem (show 0 < xs.length by rw [hlen]; decide))
  obtain ⟨th, e0, _, w_th⟩ := DataW.trod_int Try.underlying3 h0
  have r0 : (cs.drop 0).take (Try.prog.cellsOf 3) = _ := e0
  rw [co_3] at r0
  have s0 : cs.drop 0 = _ ++ cs.drop 1 := cut_next r0
  have h1 := (hh 1 _ rfl).trans (List.getElem?_eq_getElem (show 1 < xs.length by rw [hlen]; decide))
  obtain ⟨kd, e1, _, w_kd⟩ := DataW.trod_int Try.underlying41 h1
  have r1 : (cs.drop 1).take (Try.prog.cellsOf 41) = _ := e1
  rw [co_41] at r1
  have s1 : cs.drop 1 = _ ++ cs.drop 2 := cut_next r1
  have h2 := (hh 2 _ rfl).trans (List.getElem?_eq_getElem (show 2 < xs.length by rw [hlen]; decide))
  obtain ⟨ad, e2, _, w_ad⟩ := DataW.trod_int Try.underlying32 h2
  have r2 : (cs.drop 2).take (Try.prog.cellsOf 32) = _ := e2
  rw [co_32] at r2
  have s2 : cs.drop 2 = _ ++ cs.drop 3 := cut_next r2
  have h3 := (hh 3 _ rfl).trans (List.getElem?_eq_getElem (show 3 < xs.length by rw [hlen]; decide))
  obtain ⟨a, e3, _, w_a⟩ := DataW.trod_int Try.underlying32 h3
  have r3 : (cs.drop 3).take (Try.prog.cellsOf 32) = _ := e3
  rw [co_32] at r3
  have s3 : cs.drop 3 = _ ++ cs.drop 4 := cut_next r3
  have h4 := (hh 4 _ rfl).trans (List.getElem?_eq_getElem (show 4 < xs.length by rw [hlen]; decide))
  obtain ⟨b, e4, _, w_b⟩ := DataW.trod_int Try.underlying32 h4
  have r4 : (cs.drop 4).take (Try.prog.cellsOf 32) = _ := e4
  rw [co_32] at r4
  have s4 : cs.drop 4 = _ ++ cs.drop 5 := cut_next r4
  have h5 := (hh 5 _ rfl).trans (List.getElem?_eq_getElem (show 5 < xs.length by rw [hlen]; decide))
  obtain ⟨vp, vn, vc, e5⟩ := slice_one Try.underlying42 h5
  have r5 : (cs.drop 5).take (Try.prog.cellsOf 42) = _ := e5
  rw [co_42] at r5
  have s5 : cs.drop 5 = _ ++ cs.drop 6 := cut_next r5
  have h6 := (hh 6 _ rfl).trans (List.getElem?_eq_getElem (show 6 < xs.length by rw [hlen]; decide))
  obtain ⟨go, e6, _, w_go⟩ := DataW.trod_int Try.underlying32 h6
  have r6 : (cs.drop 6).take (Try.prog.cellsOf 32) = _ := e6
  rw [co_32] at r6
  have s6 : cs.drop 6 = _ ++ cs.drop 7 := cut_next r6
  have h7 := (hh 7 _ rfl).trans (List.getElem?_eq_getElem (show 7 < xs.length by rw [hlen]; decide))
  obtain ⟨ok, e7, _⟩ := DataW.trod_bool Try.underlying4 h7
  have r7 : (cs.drop 7).take (Try.prog.cellsOf 4) = _ := e7
  rw [co_4] at r7
  have s7 : cs.drop 7 = _ ++ cs.drop 8 := cut_next r7
  have z : cs.drop 8 = [] := List.drop_eq_nil_of_le (by omega)
  rw [z] at s7
  rw [s7] at s6
  rw [s6] at s5
  rw [s5] at s4
  rw [s4] at s3
  rw [s3] at s2
  rw [s2] at s1
  rw [s1] at s0
  exact ⟨th, kd, ad, a, b, vp, vn, vc, go, ok, (List.drop_zero (l := cs)).symm.trans s0, w_th⟩
theorem open_58 {H : Type} {enc : TypeId × Value → H} {W : World} {sp : Nat → Bool} {held : Bool} {fuel : Nat} {cs : List Value} {x : DataW H × List MemPlace} (hf : DataW.trod enc Try.prog W 0 sp held fuel 58 cs = some x) : ∃ (th : Int) (ix : Int) (fr : Int) (tz : Int) (kd : Int) (ke : Int) (va : Int) (ol : Int) (hn : Int) (se : Bool) (rt : Int) (ri : Int) (kp : Option Addr) (kn : Nat) (kc : Nat) (lo : Int) (hi : Int) (er : Int) (fo : Bool) (av : Int) (dn : Bool) (ah : Int) (pp : Option Addr) (pn : Nat) (pc : Nat) (co : Int), cs = [.int .i64 th, .int .i64 ix, .int .i64 fr, .int .i64 tz, .int .u8 kd, .int .u64 ke, .int .u64 va, .int .u64 ol, .int .u64 hn, .bool se, .int .i64 rt, .int .i64 ri, .slice kp kn kc, .int .u64 lo, .int .u64 hi, .int .i64 er, .bool fo, .int .u64 av, .bool dn, .int .u64 ah, .slice pp pn pc, .int .u64 co] ∧ (Lit.int .i64 tz).wf = true ∧ (Lit.int .i64 th).wf = true := by
  obtain ⟨xs, n, hn, hx, hl, hlen, hh⟩ := DataW.trod_struct Try.underlying58 hf
  rw [co_58] at hl
  have h0 := (hh 0 _ rfl).trans (List.getElem?_eq_getElem (show 0 < xs.length by rw [hlen]; decide))
  obtain ⟨th, ix, fr, tz, e0, w_tz, w_th⟩ := open_48 h0
  have r0 : (cs.drop 0).take (Try.prog.cellsOf 48) = _ := e0
  rw [co_48] at r0
  have s0 : cs.drop 0 = _ ++ cs.drop 4 := cut_next r0
  have h1 := (hh 1 _ rfl).trans (List.getElem?_eq_getElem (show 1 < xs.length by rw [hlen]; decide))
  obtain ⟨kd, ke, va, ol, hn, se, rt, ri, kp, kn, kc, lo, hi, e1⟩ := open_52 h1
  have r1 : (cs.drop 4).take (Try.prog.cellsOf 52) = _ := e1
  rw [co_52] at r1
  have s1 : cs.drop 4 = _ ++ cs.drop 15 := cut_next r1
  have h2 := (hh 2 _ rfl).trans (List.getElem?_eq_getElem (show 2 < xs.length by rw [hlen]; decide))
  obtain ⟨er, fo, av, dn, ah, pp, pn, pc, co, e2⟩ := open_56 h2
  have r2 : (cs.drop 15).take (Try.prog.cellsOf 56) = _ := e2
  rw [co_56] at r2
  have s2 : cs.drop 15 = _ ++ cs.drop 22 := cut_next r2
  have z : cs.drop 22 = [] := List.drop_eq_nil_of_le (by omega)
  rw [z] at s2
  rw [s2] at s1
  rw [s1] at s0
  exact ⟨th, ix, fr, tz, kd, ke, va, ol, hn, se, rt, ri, kp, kn, kc, lo, hi, er, fo, av, dn, ah, pp, pn, pc, co, (List.drop_zero (l := cs)).symm.trans s0, w_tz, w_th⟩
theorem did_open {H : Type} {enc : TypeId × Value → H} {W : World} {sp : Nat → Bool} {held : Bool} {fuel : Nat} {cs : List Value} {x : DataW H × List MemPlace} (hf : DataW.trod enc Try.prog W 0 sp held fuel 58 cs = some x) : (∃ d : DidA, cs = d.cells ∧ (Lit.int .i64 d.tz).wf = true ∧ (Lit.int .i64 d.th).wf = true) ∧ cs.length = 22 := by
  obtain ⟨th, ix, fr, tz, kd, ke, va, ol, hn, se, rt, ri, kp, kn, kc, lo, hi, er, fo, av, dn, ah, pp, pn, pc, co, e, w⟩ := open_58 hf
  exact ⟨⟨⟨th, ix, fr, tz, kd, ke, va, ol, hn, se, rt, ri, kp, kn, kc, lo, hi, er, fo, av, dn, ah, pp, pn, pc, co⟩, e, w⟩, by rw [e]; rfl⟩
theorem acc_open {H : Type} {enc : TypeId × Value → H} {W : World} {sp : Nat → Bool} {held : Bool} {fuel : Nat} {cs : List Value} {x : DataW H × List MemPlace} (hf : DataW.trod enc Try.prog W 0 sp held fuel 44 cs = some x) : (∃ a : AccA, cs = a.cells ∧ (Lit.int .i64 a.th).wf = true) ∧ cs.length = 8 := by
  obtain ⟨th, kd, ad, a, b, vp, vn, vc, go, ok, e, w⟩ := open_44 hf
  exact ⟨⟨⟨th, kd, ad, a, b, vp, vn, vc, go, ok⟩, e, w⟩, by rw [e]; rfl⟩
end Go.Proofs.Ytmjjaadliebgoaa
