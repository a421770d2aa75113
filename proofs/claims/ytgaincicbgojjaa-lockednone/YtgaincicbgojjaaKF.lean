/- What must be whatever is asked (layer 25). -/
import Derived.Test.YtgaincicbgojjaaKE
namespace Go.Proofs.Ytgaincicbgojjaa
open Go.RowKit Go.Maps
set_option linter.unusedVariables false

def oPut : OpP := ⟨2, 7, 1, 0, 0, [], 0, 0⟩
def oGet : OpP := ⟨1, 7, 0, 0, 0, [], 0, 0⟩
theorem oPut_ok : oPut.Ok := ⟨by decide, by decide, by decide, by decide, by decide, by decide⟩
theorem oGet_ok : oGet.Ok := ⟨by decide, by decide, by decide, by decide, by decide, by decide⟩
structure Live (W0 W : World) (s sb m nw hd dn : Nat) (f : Nat → Option Nat) : Prop where
  st : ∃ hc lf sl h g n, SlAt W s sb m 0 hc lf dn sl ∧ MoAt W m nw hd 4 f h g n ∧ SlInv sl hc lf (pcs h g) ∧ n ≤ dn
  fr : Fresh W0.heap.size s sb m nw hd
  ch : Chg (fun _ => False) W0 W
theorem Live.alloc {W0 W : World} {s sb m nw hd dn : Nat} {f : Nat → Option Nat} (h : Live W0 W s sb m nw hd dn f) (x : Obj) : Live W0 (W.alloc x) s sb m nw hd dn f := by
  obtain ⟨⟨hc, lf, sl, h1, g, n, a, b, c, d⟩, e, i⟩ := h
  exact ⟨⟨hc, lf, sl, h1, g, n, a.chg ((Chg.refl (fun _ => False) W).alloc _) (fun x => x) (fun x => x), b.quiet ((Chg.refl (fun _ => False) W).alloc _), c, d⟩, e, i.alloc _⟩
theorem live_put {W0 W : World} {s sb m nw hd dn : Nat} {f : Nat → Option Nat} (H : Live W0 W s sb m nw hd dn f) (hdn : dn ≤ 5) :
    Calls Try.prog 6 #[.pointer (some ⟨s, 0, none⟩), .agg #[.int .u8 2, .int .u64 7, .int .u64 1, .int .u64 0, .int .u64 0, .bool false, .int .i64 0, .int .i64 0, .slice none 0 0, .int .u64 0, .int .u64 0]] W fun e W' => (∃ (b : Bool) (x : Nat) (p : Option Addr) (c : Nat), e = .returned (.tuple #[.agg #[.int .i64 0, .bool b, .int .u64 (x : Int), .bool false, .int .u64 0, .slice p 0 c, .int .u64 0], .int .i64 (dn : Int)])) ∧ ∃ f', Live W0 W' s sb m nw hd (dn + 1) f' ∧ f' 7 = some 1 := by
  obtain ⟨⟨hc, lf, sl, h1, g, n, S, M, I, hn⟩, fr, ch⟩ := H
  refine (k_do (o := oPut) (r5 := false) (r6 := 0) (r7 := 0) (kp := none) (kc := 0) oPut_ok S M I (by omega) (by omega) (.inl rfl) (fun bk off e => by cases e) (by omega)).mono ?_
  rintro e W' ⟨A, p, c, rfl, ⟨hc', lf', sl', f', h', g', O⟩, cc⟩
  have hA : A = ⟨0, (f 7).isSome, (f 7).getD 0, false, 0, [], 0⟩ ∧ f' = updO f 7 (some 1) := by
    rcases O.stp with ⟨k5, _⟩ | ⟨th, _, _, hA, hf, _⟩
    · exact absurd k5 (by decide)
    · have e : tellP 4 f (pcs h1 g) oPut th = ⟨0, (f 7).isSome, (f 7).getD 0, false, 0, [], 0⟩ := by simp [tellP, oPut]
      refine ⟨hA.trans e, ?_⟩
      rw [hf, hA.trans e]
      simp [doF, oPut]
  obtain ⟨eA, ef⟩ := hA
  subst eA
  refine ⟨⟨(f 7).isSome, (f 7).getD 0, p, c, rfl⟩, f', ⟨⟨hc', lf', sl', h', g', n + 1, O.sa, O.mo, O.inv, ?_⟩, fr, ch.trans cc (fun _ _ x => x) (fun i hi x => ?_)⟩, by rw [ef, updO_same]⟩
  · omega
  · have := fr.s; have := fr.sb; have := fr.nw; have := fr.hd; omega
theorem live_get {W0 W : World} {s sb m nw hd dn : Nat} {f : Nat → Option Nat} (H : Live W0 W s sb m nw hd dn f) (hf : f 7 = some 1) (hdn : dn ≤ 5) :
    Calls Try.prog 6 #[.pointer (some ⟨s, 0, none⟩), .agg #[.int .u8 1, .int .u64 7, .int .u64 0, .int .u64 0, .int .u64 0, .bool false, .int .i64 0, .int .i64 0, .slice none 0 0, .int .u64 0, .int .u64 0]] W fun e W' => (∃ (p : Option Addr) (c : Nat), e = .returned (.tuple #[.agg #[.int .i64 0, .bool true, .int .u64 1, .bool false, .int .u64 0, .slice p 0 c, .int .u64 0], .int .i64 (dn : Int)])) ∧ ∃ f', Live W0 W' s sb m nw hd (dn + 1) f' := by
  obtain ⟨⟨hc, lf, sl, h1, g, n, S, M, I, hn⟩, fr, ch⟩ := H
  refine (k_do (o := oGet) (r5 := false) (r6 := 0) (r7 := 0) (kp := none) (kc := 0) oGet_ok S M I (by omega) (by omega) (.inl rfl) (fun bk off e => by cases e) (by omega)).mono ?_
  rintro e W' ⟨A, p, c, rfl, ⟨hc', lf', sl', f', h', g', O⟩, cc⟩
  have hA : A = ⟨0, true, 1, false, 0, [], 0⟩ := by
    rcases O.stp with ⟨k5, _⟩ | ⟨th, _, _, hA, hf', _⟩
    · exact absurd k5 (by decide)
    · rw [hA]
      simp [tellP, oGet, hf]
  subst hA
  refine ⟨⟨p, c, rfl⟩, f', ⟨⟨hc', lf', sl', h', g', n + 1, O.sa, O.mo, O.inv, ?_⟩, fr, ch.trans cc (fun _ _ x => x) (fun i hi x => ?_)⟩⟩
  · omega
  · have := fr.s; have := fr.sb; have := fr.nw; have := fr.hd; omega
set_option maxRecDepth 100000 in
theorem cfg_25 (W : World) : Calls Try.prog 16 #[] W fun e W' => e = .returned (.agg #[.int .i64 2000, .int .i64 2, .int .u64 100, .int .i64 4]) ∧ Chg (fun _ => False) W W' := by
  have h0 : (W.alloc (.cells #[.int .i64 2000, .int .i64 2, .int .u64 100, .int .i64 4] 40)).heap[W.heap.size]? = some (.cells #[.int .i64 2000, .int .i64 2, .int .u64 100, .int .i64 4] 40 (0, 0)) := heap_alloc_new _ _
  have c0 := cell_of h0 0
  have c1 := cell_of h0 1
  have c2 := cell_of h0 2
  have c3 := cell_of h0 3
  clear h0
  go_enter Try.func16, Try.ntmps16
  go_wp2_with fail
  refine bodyPost_ret (v := .agg #[.int .i64 2000, .int .i64 2, .int .u64 100, .int .i64 4]) (by simp [results, Try.results16, go_sem, c0, c1, c2, c3]) rfl ?_
  exact ⟨rfl, (Chg.refl _ _).alloc _⟩
set_option maxRecDepth 100000 in
set_option maxHeartbeats 1000000 in
theorem live_25 (W : World) : Calls Try.prog 7 #[] W fun e W' => e = .returned (.bool true) ∧ Chg (fun _ => False) W W' := by
  go_enter Try.func7, Try.ntmps7
  go_wp2_with fail
  refine (cfg_25 W).mono ?_
  rintro e w0 ⟨rfl, C0⟩
  have HC0 := keepH C0
  have HN := keepH (k_new 2000 2 100 4 (by decide) (by omega) (by omega) w0)
  clear C0
  go_wp2_with fail
  refine HN.out.mono ?_
  rintro e w1 ⟨s, sb, m, nw, hd, rfl, S, M, fr, C1⟩
  have HL1 : Hid (Live w0 w1 s sb m nw hd 0 (fun _ => none)) := ⟨⟨_, _, _, _, _, 0, S, M, SlInv.start 2 99 (by omega) (by omega), Nat.le_refl _⟩, fr, C1⟩
  clear S M fr C1 HN
  go_wp2_with fail
  refine (live_put HL1.out (by omega)).mono ?_
  rintro e w2 ⟨⟨b, x, p, c, rfl⟩, f2, L2, hf2⟩
  have HL2 := keepH L2
  have HF2 := keepH hf2
  clear L2 hf2 HL1
  go_wp2_with fail
  refine (live_get (HL2.out.alloc _) HF2.out (by omega)).mono ?_
  rintro e w3 ⟨⟨p3, c3, rfl⟩, f3, L3⟩
  have HC3 : Hid (Chg (fun _ => False) W w3) := HC0.out.trans L3.ch (fun _ _ x => x) (fun _ _ x => x)
  clear L3 HL2 HF2 HC0
  go_wp2_with fail
  go_ret
  exact ⟨by simp, HC3.out.alloc _⟩
set_option maxRecDepth 100000 in
set_option maxHeartbeats 1000000 in
theorem do_nil {o : OpP} {r5 : Bool} {r6 r7 : Int} {kp : Option Addr} {kc : Nat} (W : World) : Calls Try.prog 6 #[.pointer none, .agg #[.int .u8 o.kd, .int .u64 (o.k : Int), .int .u64 (o.v : Int), .int .u64 (o.od : Int), .int .u64 (o.hk : Int), .bool r5, .int .i64 r6, .int .i64 r7, .slice kp o.ks.length kc, .int .u64 (o.lo : Int), .int .u64 (o.hi : Int)]] W fun e W' => e = .returned (.tuple #[.agg #[.int .i64 1, .bool false, .int .u64 0, .bool false, .int .u64 0, .slice none 0 0, .int .u64 0], .int .i64 (-1)]) ∧ Chg (fun _ => False) W W' := by
  obtain ⟨w0, hw0⟩ : ∃ w0, w0 = (W.alloc (.cells #[.int .u8 o.kd, .int .u64 (o.k : Int), .int .u64 (o.v : Int), .int .u64 (o.od : Int), .int .u64 (o.hk : Int), .bool r5, .int .i64 r6, .int .i64 r7, .slice kp o.ks.length kc, .int .u64 (o.lo : Int), .int .u64 (o.hi : Int)] 28)).alloc (.cells #[.int .i64 0, .bool false, .int .u64 0, .bool false, .int .u64 0, .slice none 0 0, .int .u64 0] 33) := ⟨_, rfl⟩
  have C0 : Chg (fun _ => False) W w0 := by rw [hw0]; exact ((Chg.refl _ _).alloc _).alloc _
  have o0 : w0.heap[W.heap.size]? = some (.cells #[.int .u8 o.kd, .int .u64 (o.k : Int), .int .u64 (o.v : Int), .int .u64 (o.od : Int), .int .u64 (o.hk : Int), .bool r5, .int .i64 r6, .int .i64 r7, .slice kp o.ks.length kc, .int .u64 (o.lo : Int), .int .u64 (o.hi : Int)] 28 (0, 0)) := by rw [hw0]; exact alloc_of (heap_alloc_new _ _) _
  have a0 : w0.heap[W.heap.size + 1]? = some (.cells #[.int .i64 0, .bool false, .int .u64 0, .bool false, .int .u64 0, .slice none 0 0, .int .u64 0] 33 (0, 0)) := by
    have e := heap_alloc_new (W.alloc (.cells #[.int .u8 o.kd, .int .u64 (o.k : Int), .int .u64 (o.v : Int), .int .u64 (o.od : Int), .int .u64 (o.hk : Int), .bool r5, .int .i64 r6, .int .i64 r7, .slice kp o.ks.length kc, .int .u64 (o.lo : Int), .int .u64 (o.hi : Int)] 28)) (.cells #[.int .i64 0, .bool false, .int .u64 0, .bool false, .int .u64 0, .slice none 0 0, .int .u64 0] 33)
    rw [World.size_alloc] at e
    rw [hw0]
    exact e
  have HSZ : Hid (w0.heap.size = W.heap.size + 2) := by rw [hw0]; show _ = _; simp
  obtain ⟨w9, hw9⟩ : ∃ w9, w9 = (((((((w0.setCell ⟨W.heap.size + 1, 0, none⟩ (.int .i64 1)).setCell ⟨W.heap.size + 1, 1, none⟩ (.bool false)).setCell ⟨W.heap.size + 1, 2, none⟩ (.int .u64 0)).setCell ⟨W.heap.size + 1, 3, none⟩ (.bool false)).setCell ⟨W.heap.size + 1, 4, none⟩ (.int .u64 0)).setCell ⟨W.heap.size + 1, 5, none⟩ (.slice none 0 0)).setCell ⟨W.heap.size + 1, 6, none⟩ (.int .u64 0)) := ⟨_, rfl⟩
  have a9 : w9.heap[W.heap.size + 1]? = some (.cells #[.int .i64 1, .bool false, .int .u64 0, .bool false, .int .u64 0, .slice none 0 0, .int .u64 0] 33 (0, 0)) := by rw [hw9]; exact set_of (set_of (set_of (set_of (set_of (set_of (set_of (a0) 0 _) 1 _) 2 _) 3 _) 4 _) 5 _) 6 _
  have c9 : Chg (fun i => i = W.heap.size + 1) W w9 := by rw [hw9]; exact ((((((((C0.mono (G := fun i => i = W.heap.size + 1) (fun _ _ x => x.elim))).setCell (fun _ => rfl) _).setCell (fun _ => rfl) _).setCell (fun _ => rfl) _).setCell (fun _ => rfl) _).setCell (fun _ => rfl) _).setCell (fun _ => rfl) _).setCell (fun _ => rfl) _
  have HC9 : Hid (Chg (fun _ => False) W w9) := c9.mono (fun i hi e => by omega)
  have g0 := cell_of a0 0
  have f0 := free_of a0 0
  have e0 := cell_of a9 0
  have g1 := cell_of a0 1
  have f1 := free_of a0 1
  have e1 := cell_of a9 1
  have g2 := cell_of a0 2
  have f2 := free_of a0 2
  have e2 := cell_of a9 2
  have g3 := cell_of a0 3
  have f3 := free_of a0 3
  have e3 := cell_of a9 3
  have g4 := cell_of a0 4
  have f4 := free_of a0 4
  have e4 := cell_of a9 4
  have g5 := cell_of a0 5
  have f5 := free_of a0 5
  have e5 := cell_of a9 5
  have g6 := cell_of a0 6
  have f6 := free_of a0 6
  have e6 := cell_of a9 6
  have HW9 := keepH hw9
  clear hw9 a9 c9 o0 a0 C0
  go_enter_defers Try.func6, Try.ntmps6
  go_upto_region 1 with fail
  rw [← hw0]
  clear hw0
  go_wp2_with fail
  rw [← HW9.out]
  refine ⟨.tuple #[.agg #[.int .i64 1, .bool false, .int .u64 0, .bool false, .int .u64 0, .slice none 0 0, .int .u64 0], .int .i64 (-1)], by simp [results, Try.results6, go_sem, e0, e1, e2, e3, e4, e5, e6], ?_⟩
  exact ⟨rfl, HC9.out⟩
set_option maxRecDepth 100000 in
theorem content_nil (W : World) : Calls Try.prog 8 #[.pointer none] W fun e W' => e = .returned (.slice none 0 0) ∧ W' = W := by
  go_enter_defers Try.func8, Try.ntmps8
  go_wp2_with fail
  exact ⟨_, results_tmp rfl _ _ _, rfl, rfl⟩
end Go.Proofs.Ytgaincicbgojjaa
