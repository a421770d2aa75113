/- Open and Close on a nil view, and on an empty memory; where a handle's slot is. -/
import Derived.Test.YtlgkioaomcobdaaGreatHe
namespace Go.Proofs.YtlgkioaomcobdaaGreat
open Go.RowKit Go.Shelf
set_option linter.unusedVariables false

theorem ask_nil {W : World} {p a g : Nat} {kn : Bool} {miss : Int} {t : TypeId} {rest : List Value} (hp : Blk W p t (askL kn a g miss false 0 0 rest)) :
    Calls Tryz.prog 25 #[.pointer (some ⟨p, 0, none⟩), .pointer none] W fun e W' => e = .returned (.tuple #[]) ∧ Blk W' p t (askL kn a g miss true 0 miss rest) ∧ Chg (fun k => k = p) W W' := by
  cases kn with
  | false => exact ask_F hp _
  | true =>
    refine (ask_no hp _ 0 (by omega) (by omega) (fun u => Chg (fun k => k = p) W u) (fun w1 C1 P1 => ?_)).mono ?_
    · refine (nil_vload a w1).mono ?_
      rintro e w2 ⟨rfl, rfl⟩
      exact ⟨rfl, C1, P1⟩
    · rintro e w3 ⟨rfl, P, u, C, D⟩
      exact ⟨rfl, P, C.p D⟩
theorem op_nil {W : World} {p a g : Nat} {kn : Bool} (hp : Blk W p 69 (askL kn a g 33 false 0 0 [])) :
    Calls Tryz.prog 7 #[.pointer (some ⟨p, 0, none⟩), .pointer none] W fun e W' => e = .returned (.bool true) ∧ Blk W' p 69 (askL kn a g 33 true 0 33 []) ∧ Chg (fun k => k = p) W W' := op_step p _ _ W (ask_nil hp)
theorem cl_nil {W : World} {p a g st : Nat} {kn : Bool} (hp : Blk W p 71 (askL kn a g 34 false 0 0 [.int .u64 (st : Int)])) :
    Calls Tryz.prog 8 #[.pointer (some ⟨p, 0, none⟩), .pointer none] W fun e W' => e = .returned (.bool true) ∧ Blk W' p 71 (askL kn a g 34 true 0 34 [.int .u64 (st : Int)]) ∧ Chg (fun k => k = p) W W' := by
  by_cases e : 0 = st
  · refine (cl_stepS _ _ e W (ask_nil hp)).mono ?_
    rintro e w3 ⟨rfl, P, u, C, D⟩
    exact ⟨rfl, P, C.p D⟩
  · refine (cl_stepN _ _ e W (ask_nil hp)).mono ?_
    rintro e w3 ⟨rfl, P, u, C, D⟩
    exact ⟨rfl, P, C.p D⟩
theorem SR.openAny {W : World} {m b v : Nat} {th : Int} {most : Nat} {w : World} {next : Nat} {n : Nat} {D : Nat → Prop} (h : SR W m b v th most w next 0 [] n D) {p a g : Nat} {kn : Bool} (hD : D p) (hp : Blk w p 69 (askL kn a g 33 false 0 0 [])) (ha : a < 18446744073709551616) (h2 : n < 1099511627776) :
    Calls Tryz.prog 7 #[.pointer (some ⟨p, 0, none⟩), .pointer (some ⟨v, 0, none⟩)] w fun e w' => e = .returned (.bool true) ∧ IsView w' v b th (if kn then 1 else 0) ∧ Chg (fun _ => False) W w' := by
  refine op_step p _ _ w ?_
  cases kn with
  | false =>
    refine (ask_F hp _).mono ?_
    rintro e w1 ⟨rfl, P, C⟩
    have S := h.put C (fun k e => by rw [e]; exact hD)
    refine ⟨rfl, ?_, S.chg⟩
    obtain ⟨F, l, S, _⟩ := S
    exact S.view
  | true =>
    refine (ask_no hp _ 0 (by omega) (by omega) (fun u => SR W m b v th most u next 1 [] (n + 1) D) (fun w1 C1 P1 => ?_)).mono ?_
    · refine ((h.put C1 (fun k e => by rw [e]; exact hD)).load a ha (by omega) h2).mono ?_
      rintro e w2 ⟨rfl, S, K⟩
      exact ⟨by simp [cellN], S, (K p hD).trans P1⟩
    · rintro e w3 ⟨rfl, P, u, S, C⟩
      have S := S.put C (fun k e => by rw [e]; exact hD)
      refine ⟨rfl, ?_, S.chg⟩
      obtain ⟨F, l, S, _⟩ := S
      exact S.view

set_option maxRecDepth 100000 in
set_option maxHeartbeats 1000000 in
theorem where_any (cam fst mst h : Nat) (cnt : Int) (hh : h < 18446744073709551616) (W : World) :
    Calls Tryz.prog 16 #[.agg #[.int .u64 (cam : Int), .int .u64 (fst : Int), .int .i64 cnt, .int .u64 (mst : Int)], .int .u64 (h : Int)] W fun e W' => ∃ a g : Int, e = .returned (.tuple #[.int .u64 a, .int .u64 g, .bool (decide (unE h = 0 ∧ unS h < cnt))]) ∧ Chg (fun _ => False) W W' := by
  have HU := keepH (fun w => refUnhandle_any (h : Int) w (by omega) (by omega))
  have bd := un_bd h hh
  generalize hsl : unS (h : Int) = sl at *
  generalize hgn : unG (h : Int) = gn at *
  generalize her : unE (h : Int) = er at *
  clear hsl hgn her
  by_cases hE : er = 0
  · obtain ⟨b1, b2, b3, b4⟩ := bd hE
    subst hE
    clear bd
    by_cases hc : sl < cnt
    · have dd : decide ((0 : Int) = 0 ∧ sl < cnt) = true := by simp [hc]
      rw [dd]
      by_cases c1 : 256 < cnt
      · have t1 : ¬ (256 : Int) ≤ sl := by omega
        clear b1 b2 b3 b4 dd hc
        go_enter Tryz.func16, Tryz.ntmps16
        go_wp2_with fail
        refine (HU.out _).mono ?_
        rintro e w ⟨rfl, rfl⟩
        go_wp2_with fail
        all_goals first | (exfalso; omega) | (go_ret3; exact ⟨_, _, rfl, (Chg.refl _ _).alloc _⟩)
      · have t1 : ¬ cnt ≤ sl := by omega
        clear b1 b2 b3 b4 dd hc
        go_enter Tryz.func16, Tryz.ntmps16
        go_wp2_with fail
        refine (HU.out _).mono ?_
        rintro e w ⟨rfl, rfl⟩
        go_wp2_with fail
        all_goals first | (exfalso; omega) | (go_ret3; exact ⟨_, _, rfl, (Chg.refl _ _).alloc _⟩)
    · have dd : decide ((0 : Int) = 0 ∧ sl < cnt) = false := by simp; omega
      rw [dd]
      have c1 : ¬ 256 < cnt := by omega
      have t1 : cnt ≤ sl := by omega
      clear b1 b2 b3 b4 dd hc
      go_enter Tryz.func16, Tryz.ntmps16
      go_wp2_with fail
      refine (HU.out _).mono ?_
      rintro e w ⟨rfl, rfl⟩
      go_wp2_with fail
      all_goals first | (exfalso; omega) | (go_ret3; exact ⟨_, _, rfl, (Chg.refl _ _).alloc _⟩)
  · have dd : decide (er = 0 ∧ sl < cnt) = false := by simp [hE]
    rw [dd]
    have n1 : (er != 0) = true := bne_iff_ne.2 hE
    have n2 : (er == 0) = false := beq_eq_false_iff_ne.2 hE
    clear bd dd
    by_cases c1 : 256 < cnt
    · skip
      skip
      go_enter Tryz.func16, Tryz.ntmps16
      go_wp2_with fail
      refine (HU.out _).mono ?_
      rintro e w ⟨rfl, rfl⟩
      go_wp2_with fail
      all_goals first | (exfalso; omega) | (go_ret3; exact ⟨_, _, rfl, (Chg.refl _ _).alloc _⟩)
    · skip
      skip
      go_enter Tryz.func16, Tryz.ntmps16
      go_wp2_with fail
      refine (HU.out _).mono ?_
      rintro e w ⟨rfl, rfl⟩
      go_wp2_with fail
      all_goals first | (exfalso; omega) | (go_ret3; exact ⟨_, _, rfl, (Chg.refl _ _).alloc _⟩)

end Go.Proofs.YtlgkioaomcobdaaGreat
