/- Calls that come in, and the procs that are begun of them. -/
import Derived.Test.YtbjebnkfecjpnaaGn
namespace Go.Proofs.Ytbjebnkfecjpnaa
open Go.RowKit Go.Shelf
set_option linter.unusedVariables false

structure CallA where
  kind : Int
  obj : Nat
  a : Nat
  b : Nat
  F : Nat
  q : Option Addr
  c : Nat
  l : List Nat
def CallA.cells (k : CallA) : List Value := [.int .i64 k.kind, .int .u64 (k.obj : Int), .int .u64 (k.a : Int), .int .u64 (k.b : Int), .int .u64 (k.F : Int), .slice k.q k.l.length k.c]
def CallA.o (k : CallA) : Nat := 2 + k.obj % 2
def CallA.start (k : CallA) : LP :=
  if k.kind = 0 then .inl ⟨1, k.o, ⟨⟨⟨0, 0, 0, 0, 0⟩, 0, 0⟩, k.a, k.b, 0, 0, false, 0⟩⟩
  else if k.kind = 1 then .inr (.inl ⟨1, 1073741824, 0, 0, 0, false⟩)
  else if k.kind = 2 then .inr (.inr (.inl ⟨k.F, k.l, CutS.new k.o⟩))
  else .inr (.inr (.inr ⟨1, k.o, ⟨⟨0, 0, 0, 0, 0⟩, k.a, 0, 0⟩⟩))
structure CallA.ok (k : CallA) : Prop where
  obj : k.obj < 18446744073709551616
  a : k.a < 18446744073709551616
  b : k.b < 18446744073709551616
  len : k.l.length ≤ 1048576
  sm : ∀ x ∈ k.l, x < 18446744073709551616
theorem CallA.o_lt (k : CallA) : k.o = 2 ∨ k.o = 3 := by unfold CallA.o; omega
theorem CallA.start_ok {k : CallA} (h : k.ok) : leavesK.ok 0 k.start := by
  have ho := k.o_lt
  unfold CallA.start
  split
  · exact ⟨⟨.inl ⟨rfl, .inl ⟨rfl, .inl rfl⟩⟩, by simp, by simp, h.b, by simp⟩, by simp, by show k.o < _; omega⟩
  · split
    · exact ⟨.inl rfl, rfl, rfl, by simp, by simp⟩
    · split
      · exact ⟨⟨by show k.o < _; omega, by simp [CutS.new], by simp [CutS.new]⟩, by have := h.len; show k.l.length < _; omega, by simp [CutS.new], by simp [CutS.new]⟩
      · exact ⟨⟨.inl ⟨rfl, .inl rfl⟩, by simp, by simp⟩, by simp, by show k.o < _; omega⟩
theorem CallA.start_pp {k : CallA} (vs : List Nat) : LP.pp vs k.start ∧ LP.on k.start := by
  have ho := k.o_lt
  unfold CallA.start
  split
  · exact ⟨⟨rfl, ho, .inl rfl, .inl rfl, fun e => by simp at e⟩, trivial⟩
  · split
    · exact ⟨rfl, trivial⟩
    · split
      · exact ⟨⟨ho, fun e => by simp [CutS.new] at e, fun e => by simp [CutS.new] at e, fun e => by simp [CutS.new] at e⟩, by show (CutS.new k.o).nx ≤ 6; simp [CutS.new]⟩
      · exact ⟨⟨rfl, ho, .inl rfl, fun _ => .inl rfl⟩, trivial⟩
/-- A proc that was made, with what it has of its own, all of it new. -/
structure PNew (W X : World) (pv : Value) (s : LP) (D : Nat → Prop) : Prop where
  h : leavesK.H X D pv s
  new : ∀ k, D k → W.heap.size ≤ k
  one : pv.oneCell' = true
  chg : Chg (fun _ => False) W X
  ifc : ∃ T a, pv = .iface T a
theorem blk_chg {W X : World} {D : Nat → Prop} {p : Nat} (hp : W.heap.size ≤ p) (hD : ∀ k, D k → k = p) : ∀ k, D k → W.heap.size ≤ k := fun k e => by rw [hD k e]; exact hp
set_option maxRecDepth 100000 in
set_option maxHeartbeats 2000000 in
theorem b_beginE (kind : Int) (obj a b F : Nat) (q : Option Addr) (c : Nat) (l : List Nat) (hlen : l.length ≤ 1048576) (hsm : ∀ x ∈ l, x < 18446744073709551616) (W : World) (hl : U64At W q l) (o : Nat) (ho : o = 2 + obj % 2) (s : LP)
    (hs : s = if kind = 0 then .inl ⟨1, o, ⟨⟨⟨0, 0, 0, 0, 0⟩, 0, 0⟩, a, b, 0, 0, false, 0⟩⟩ else if kind = 1 then .inr (.inl ⟨1, 1073741824, 0, 0, 0, false⟩) else if kind = 2 then .inr (.inr (.inl ⟨F, l, CutS.new o⟩)) else .inr (.inr (.inr ⟨1, o, ⟨⟨0, 0, 0, 0, 0⟩, a, 0, 0⟩⟩))) :
    Calls Try.prog 28 #[.agg #[.int .i64 kind, .int .u64 (obj : Int), .int .u64 (a : Int), .int .u64 (b : Int), .int .u64 (F : Int), .slice q l.length c]] W fun e W' => ∃ pv D, e = .returned pv ∧ PNew W W' pv s D := by
  have e1 : ((obj : Int).tmod 2) = ((obj % 2 : Nat) : Int) := by rw [Int.tmod_eq_emod_of_nonneg (by omega)]; omega
  have e2 : IntKind.u64.wrap (2 + ((obj % 2 : Nat) : Int)) = (o : Int) := by rw [IntKind.wrap_u64]; omega
  have e3 : 2 + (obj : Int) % 2 = (o : Int) := by omega
  have C0 : Hid (Chg (fun _ => False) W (W.alloc (.cells #[.int .i64 kind, .int .u64 (obj : Int), .int .u64 (a : Int), .int .u64 (b : Int), .int .u64 (F : Int), .slice q l.length c] 72))) := (Chg.refl _ _).alloc _
  have HL : Hid (U64At (W.alloc (.cells #[.int .i64 kind, .int .u64 (obj : Int), .int .u64 (a : Int), .int .u64 (b : Int), .int .u64 (F : Int), .slice q l.length c] 72)) q l) := hl.chg C0.out (fun _ _ _ _ e => e)
  have sz : Hid (W.heap.size ≤ (W.alloc (.cells #[.int .i64 kind, .int .u64 (obj : Int), .int .u64 (a : Int), .int .u64 (b : Int), .int .u64 (F : Int), .slice q l.length c] 72)).heap.size) := C0.out.size
  clear hl ho
  by_cases k0 : kind = 0
  · have t0 : (kind == 0) = true := by simp [k0]
    rw [if_pos k0] at hs
    subst hs k0
    go_enter Try.func28, Try.ntmps28
    go_wp2_with fail
    refine (cs_new 1 o a b _).mono ?_
    rintro e w1 ⟨p, hp, rfl, B, C, hz⟩
    have HB := keepH B
    have HC := keepH C
    have HP := keepH hp
    clear B C hp
    go_wp2_with fail
    go_ret
    refine ⟨_, fun k => k = p, rfl, ⟨p, rfl, ⟨.pointer none, HB.out, Clk.none ⟨_, rfl⟩ (by simp), rfl⟩, fun k e => by omega⟩, fun k e => ?_, rfl, C0.out.trans HC.out (fun _ _ x => x) (fun _ _ x => x), ⟨_, _, rfl⟩⟩
    have := HP.out
    have := sz.out
    omega
  · rw [if_neg k0] at hs
    have t0 : (kind == 0) = false := by simp [k0]
    by_cases k1 : kind = 1
    · have t1 : (kind == 1) = true := by simp [k1]
      rw [if_pos k1] at hs
      subst hs k1
      go_enter Try.func28, Try.ntmps28
      go_wp2_with fail
      refine (t_new 1 1073741824 _).mono ?_
      rintro e w1 ⟨rfl, hw1⟩
      obtain ⟨g, hg⟩ : ∃ g, g = (W.alloc (.cells #[.int .i64 1, .int .u64 (obj : Int), .int .u64 (a : Int), .int .u64 (b : Int), .int .u64 (F : Int), .slice q l.length c] 72)).heap.size := ⟨_, rfl⟩
      have HB : Hid (IsTake w1 g 1 1073741824 0 0 0 false) := by rw [hw1, hg]; exact heap_alloc_new _ _
      have HC : Hid (Chg (fun _ => False) W w1) := by rw [hw1]; exact C0.out.trans ((Chg.refl (fun _ => False) _).alloc _) (fun _ _ x => x) (fun _ _ x => x)
      have HG := keepH hg
      rw [← hg]
      clear hw1 hg
      go_wp2_with fail
      go_ret
      exact ⟨_, fun k => k = g, rfl, ⟨g, rfl, ⟨rfl, HB.out⟩, fun k e => by have := lt_of HB.out; omega⟩, fun k e => by have := sz.out; have := HG.out; omega, rfl, HC.out, ⟨_, _, rfl⟩⟩
    · rw [if_neg k1] at hs
      have t1 : (kind == 1) = false := by simp [k1]
      by_cases k2 : kind = 2
      · have t2 : (kind == 2) = true := by simp [k2]
        rw [if_pos k2] at hs
        subst hs k2
        go_enter Try.func28, Try.ntmps28
        go_wp2_with fail
        refine (k_new 1 o F q c l _ HL.out (by omega) hsm).mono ?_
        rintro e w1 ⟨p, q', d, rfl, hp, hI, hU, hq, C⟩
        have HI := keepH hI
        have HU := keepH hU
        have HQ := keepH hq
        have HC := keepH C
        have HP := keepH hp
        clear hI hU hq C hp
        go_wp2_with fail
        go_ret
        refine ⟨_, fun k => k = p ∨ (l ≠ [] ∧ ∃ off, q' = some ⟨k, off, none⟩), rfl, ⟨p, q', d, rfl, ⟨HI.out, HU.out, fun bk off e hn => (HQ.out bk off e hn).1, .inl rfl, fun bk off e hn => .inr ⟨hn, off, e⟩⟩, fun k e => ?_⟩, fun k e => ?_, rfl, C0.out.trans HC.out (fun _ _ x => x) (fun _ _ x => x), ⟨_, _, rfl⟩⟩
        · rcases e with e | ⟨hn, off, e⟩
          · rw [e]; exact lt_of HI.out
          · rcases HU.out with z | ⟨bk, off', e', hb, _⟩
            · exact absurd z hn
            · rw [e] at e'; simp at e'; omega
        · have := sz.out
          rcases e with e | ⟨hn, off, e⟩
          · have := HP.out; omega
          · have := (HQ.out k off e hn).2; omega
      · have t2 : (kind == 2) = false := by simp [k2]
        rw [if_neg k2] at hs
        subst hs
        go_enter Try.func28, Try.ntmps28
        go_wp2_with fail
        refine (at_new 1 o a _).mono ?_
        rintro e w1 ⟨p, hp, rfl, B, C, hz⟩
        have HB := keepH B
        have HC := keepH C
        have HP := keepH hp
        clear B C hp
        go_wp2_with fail
        go_ret
        refine ⟨_, fun k => k = p, rfl, ⟨p, rfl, ⟨.pointer none, HB.out, Clk.none ⟨_, rfl⟩ (by simp), rfl⟩, fun k e => by omega⟩, fun k e => ?_, rfl, C0.out.trans HC.out (fun _ _ x => x) (fun _ _ x => x), ⟨_, _, rfl⟩⟩
        have := HP.out
        have := sz.out
        omega
theorem b_begin (k : CallA) (hk : k.ok) (W : World) (hl : U64At W k.q k.l) :
    Calls Try.prog 28 #[.agg k.cells.toArray] W fun e W' => ∃ pv D, e = .returned pv ∧ PNew W W' pv k.start D :=
  b_beginE k.kind k.obj k.a k.b k.F k.q k.c k.l hk.len hk.sm W hl k.o rfl k.start rfl
end Go.Proofs.Ytbjebnkfecjpnaa
